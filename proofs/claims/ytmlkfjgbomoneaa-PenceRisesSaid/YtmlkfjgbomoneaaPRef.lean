/- The reference's answers on amounts: sums and parts. -/
import Derived.Test.YtmlkfjgbomoneaaPPart2
namespace Go.Proofs.Ytmlkfjgbomoneaa
open Go.RowKit

theorem noAmt_any (n : Int) (w : World) :
    Calls Try.prog 17 #[.int .i64 n] w fun e w' => e = .returned (.bool (!Pen.amt n)) ∧ w' = w := by
  by_cases h1 : n < -1099511627776
  · have e : (!Pen.amt n) = true := by rw [Pen.amt_not n (.inl h1)]; rfl
    rw [e]; clear e
    go_enter Try.func17, Try.ntmps17
    go_wp2
    go_ret
    exact ⟨rfl, rfl⟩
  · by_cases h2 : 1099511627776 < n
    · have e : (!Pen.amt n) = true := by rw [Pen.amt_not n (.inr h2)]; rfl
      rw [e]; clear e
      go_enter Try.func17, Try.ntmps17
      go_wp2
      go_ret
      exact ⟨rfl, rfl⟩
    · have e : (!Pen.amt n) = false := by rw [Pen.amt_mk n (by omega) (by omega)]; rfl
      rw [e]; clear e
      go_enter Try.func17, Try.ntmps17
      go_wp2
      go_ret
      exact ⟨rfl, rfl⟩
theorem noAmt_is (n : Int) (b : Bool) (w : World) (h : Pen.amt n = b) :
    Calls Try.prog 17 #[.int .i64 n] w fun e w' => e = .returned (.bool (!b)) ∧ w' = w := by
  subst h; exact noAmt_any n w
set_option maxHeartbeats 400000 in
theorem refSum_any (l : List Int) (a : Option Addr) (cap : Nat) (w : World) (hl : l.length ≤ 32) (hr : Row1 w a l) :
    Calls Try.prog 10 #[.slice a l.length cap] w fun e w' => e = .returned (.tuple #[.int .i64 (Pen.tot l), .int .i64 (Pen.totE l)]) ∧ w' = w := by
  go_enter Try.func10, Try.ntmps10
  go_wp2
  go_loop [4, 5] (fun n i => ∃ k : Nat, k ≤ l.length ∧ i = .int .i64 k ∧ n = .int .i64 (l.take k).sum ∧ Pen.bad (l.take k) = false) (fun _ i => l.length - (intOf i).toNat)
  case atStart => exact ⟨0, Nat.zero_le _, rfl, rfl, rfl⟩
  case round =>
    obtain ⟨k, hk, rfl, rfl, hm⟩ := hrel
    have HM : Hid (Pen.bad (l.take k) = false) := hm
    have hs := Pen.sum_bd _ hm
    have hlen : (l.take k).length ≤ 32 := by rw [List.length_take]; omega
    have hb : -35184372088832 ≤ (l.take k).sum ∧ (l.take k).sum ≤ 35184372088832 := by omega
    clear hs hlen hm
    by_cases hlt : k < l.length
    · obtain ⟨b, off, x, rfl, _, hx, c1⟩ := hr.at hlt
      have HX : Hid (l[k]? = some x) := hx
      clear hx
      cases hax : Pen.amt x with
      | true =>
        have hxb := Pen.amt_yes x hax
        have HS : Hid ((l.take (k + 1)).sum = (l.take k).sum + x) := Pen.sum_succ l k x HX.out
        go_wp2_with (go_at_call 17; refine (noAmt_is _ _ _ hax).mono ?_; rintro e w' ⟨rfl, rfl⟩)
        go_round
        case rel => exact ⟨k + 1, by omega, by go_num, by rw [HS.out], Pen.bad_succ l k x HX.out HM.out hax⟩
        case measure => simp [intOf]; omega
      | false =>
        have HB : Hid (Pen.bad l = true) := Pen.bad_at l k x HX.out hax
        go_wp2_with (go_at_call 17; refine (noAmt_is _ _ _ hax).mono ?_; rintro e w' ⟨rfl, rfl⟩)
        go_ret2
        exact ⟨by unfold Pen.tot Pen.totE; rw [HB.out]; rfl, rfl⟩
    · have e1 : l.take k = l := List.take_of_length_le (by omega)
      have HB : Hid (Pen.bad l = false) := by have := HM.out; rwa [e1] at this
      rw [e1] at hb ⊢
      clear e1 HM
      cases hax : Pen.amt l.sum with
      | true =>
        go_wp2_with (go_at_call 17; refine (noAmt_is _ _ _ hax).mono ?_; rintro e w' ⟨rfl, rfl⟩)
        go_ret2
        exact ⟨by unfold Pen.tot Pen.totE; rw [HB.out, hax]; rfl, rfl⟩
      | false =>
        go_wp2_with (go_at_call 17; refine (noAmt_is _ _ _ hax).mono ?_; rintro e w' ⟨rfl, rfl⟩)
        go_ret2
        exact ⟨by unfold Pen.tot Pen.totE; rw [HB.out, hax]; rfl, rfl⟩
set_option maxHeartbeats 400000 in
/-- Of a list that is too long: it answers something. -/
theorem refSum_long (l : List Int) (a : Option Addr) (cap : Nat) (w : World) (hl : l.length ≤ maxLen) (hr : Row1 w a l) :
    Calls Try.prog 10 #[.slice a l.length cap] w fun e w' => (∃ x c : Int, e = .returned (.tuple #[.int .i64 x, .int .i64 c])) ∧ w' = w := by
  unfold maxLen at hl
  go_enter Try.func10, Try.ntmps10
  go_wp2
  go_loop [4, 5] (fun n i => ∃ k : Nat, k ≤ l.length ∧ i = .int .i64 k ∧ ∃ v : Int, n = .int .i64 v) (fun _ i => l.length - (intOf i).toNat)
  case atStart => exact ⟨0, Nat.zero_le _, rfl, 0, rfl⟩
  case round =>
    obtain ⟨k, hk, rfl, v, rfl⟩ := hrel
    by_cases hlt : k < l.length
    · obtain ⟨b, off, x, rfl, _, hx, c1⟩ := hr.at hlt
      clear hx
      cases hax : Pen.amt x with
      | true =>
        go_wp2_with (go_at_call 17; refine (noAmt_is _ _ _ hax).mono ?_; rintro e w' ⟨rfl, rfl⟩)
        go_round
        case rel => exact ⟨k + 1, by omega, by go_num, _, rfl⟩
        case measure => simp [intOf]; omega
      | false =>
        go_wp2_with (go_at_call 17; refine (noAmt_is _ _ _ hax).mono ?_; rintro e w' ⟨rfl, rfl⟩)
        go_ret2
        exact ⟨⟨_, _, rfl⟩, rfl⟩
    · cases hax : Pen.amt v with
      | true =>
        go_wp2_with (go_at_call 17; refine (noAmt_is _ _ _ hax).mono ?_; rintro e w' ⟨rfl, rfl⟩)
        go_ret2
        exact ⟨⟨_, _, rfl⟩, rfl⟩
      | false =>
        go_wp2_with (go_at_call 17; refine (noAmt_is _ _ _ hax).mono ?_; rintro e w' ⟨rfl, rfl⟩)
        go_ret2
        exact ⟨⟨_, _, rfl⟩, rfl⟩
theorem floorP_any (a d : Int) (w : World) (h1 : -109951162777600000 ≤ a) (h2 : a ≤ 109951162777600000) (h3 : 1 ≤ d) (h4 : d ≤ 100000) :
    Calls Try.prog 18 #[.int .i64 a, .int .i64 d] w fun e w' => e = .returned (.int .i64 (a / d)) ∧ w' = w := by
  have hd0 : d ≠ 0 := by omega
  have hd1 : ¬ d < 0 := by omega
  by_cases hs : 0 ≤ a
  · have q0 : 0 ≤ a / d := Int.ediv_nonneg hs (by omega)
    have q1 : a / d ≤ a := Int.ediv_le_self _ hs
    by_cases h0 : a % d = 0
    all_goals
      go_enter Try.func18, Try.ntmps18
      go_wp2
      go_ret
      exact ⟨rfl, rfl⟩
  · have t1 : a.tdiv d = -((-a) / d) := by
      have : a.tdiv d = -((-a).tdiv d) := by rw [Int.neg_tdiv]; omega
      rw [this, Int.tdiv_eq_ediv_of_nonneg (by omega)]
    have t2 : a.tmod d = -((-a) % d) := by
      have : a.tmod d = -((-a).tmod d) := by rw [Int.neg_tmod]; omega
      rw [this, Int.tmod_eq_emod_of_nonneg (by omega)]
    have hs' : a < 0 := by omega
    obtain ⟨f1, f2, f3⟩ := Pen.div_facts (-a) d (by omega)
    have q0 : 0 ≤ -a / d := Int.ediv_nonneg (by omega) (by omega)
    have q1 : -a / d ≤ -a := Int.ediv_le_self _ (by omega)
    generalize -a / d = Q at *
    generalize -a % d = R at *
    have F : Hid (-a = Q * d + R) := f1
    clear f1 hs
    by_cases h0 : R = 0
    · subst h0
      have HE : Hid (-Q = a / d) := by
        have := (Pen.div_one a d (-Q) 0 (by omega) (by rw [Int.neg_mul]; have := F.out; omega) (by omega) (by omega)).1
        exact this.symm
      have t3 : a.tmod d = 0 := by omega
      clear t2
      go_enter Try.func18, Try.ntmps18
      go_wp2
      go_ret
      exact ⟨ret_int HE.out, rfl⟩
    · have HE : Hid (-Q - 1 = a / d) := by
        have := (Pen.div_one a d (-Q - 1) (d - R) (by omega) (by rw [Int.sub_mul, Int.neg_mul]; have := F.out; omega) (by omega) (by omega)).1
        exact this.symm
      have t3 : ¬ a.tmod d = 0 := by omega
      clear t2
      go_enter Try.func18, Try.ntmps18
      go_wp2
      go_ret
      exact ⟨ret_int HE.out, rfl⟩
end Go.Proofs.Ytmlkfjgbomoneaa
