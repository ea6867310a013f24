/- The walks of package pence: its small functions, sums of lists. -/
import Derived.Test.YtdebhcdmbijanaaRow1
import Derived.Test.YtdebhcdmbijanaaPen
namespace Go.Proofs.Ytdebhcdmbijanaa
open Go.RowKit

theorem pwithin_any (n a b : Int) (w : World) :
    Calls Try.prog 39 #[.int .i64 n, .int .i64 a, .int .i64 b] w fun e w' => e = .returned (.bool (decide (a ≤ n) && decide (n ≤ b))) ∧ w' = w := by
  by_cases h1 : a ≤ n <;> by_cases h2 : n ≤ b
  all_goals
    simp [h1, h2]
    go_enter Try.func39, Try.ntmps39
    go_wp2
    go_ret
    exact ⟨rfl, rfl⟩
theorem amt_any (n : Int) (w : World) :
    Calls Try.prog 38 #[.int .i64 n] w fun e w' => e = .returned (.bool (Pen.amt n)) ∧ w' = w := by
  go_enter Try.func38, Try.ntmps38
  go_wp2_with (go_at_call 39; refine (pwithin_any _ _ _ _).mono ?_; rintro e w' ⟨rfl, rfl⟩)
  go_ret
  exact ⟨rfl, rfl⟩
theorem pwithin_yes (n a b : Int) (w : World) (h1 : a ≤ n) (h2 : n ≤ b) :
    Calls Try.prog 39 #[.int .i64 n, .int .i64 a, .int .i64 b] w fun e w' => e = .returned (.bool true) ∧ w' = w :=
  (pwithin_any n a b w).mono fun _ _ h => ⟨h.1.trans (ret_bool (by simp [h1, h2])), h.2⟩
theorem pwithin_no (n a b : Int) (w : World) (h : n < a ∨ b < n) :
    Calls Try.prog 39 #[.int .i64 n, .int .i64 a, .int .i64 b] w fun e w' => e = .returned (.bool false) ∧ w' = w :=
  (pwithin_any n a b w).mono fun _ _ h' => ⟨h'.1.trans (ret_bool (by simp; omega)), h'.2⟩
theorem amt_is (n : Int) (b : Bool) (w : World) (h : Pen.amt n = b) :
    Calls Try.prog 38 #[.int .i64 n] w fun e w' => e = .returned (.bool b) ∧ w' = w := by
  subst h; exact amt_any n w
set_option maxHeartbeats 400000 in
theorem total_any (l : List Int) (a : Option Addr) (cap : Nat) (w : World) (hl : l.length ≤ 32) (hr : Row1 w a l) :
    Calls Try.prog 37 #[.slice a l.length cap] w fun e w' => e = .returned (.tuple #[.int .i64 (Pen.tot l), .int .i64 (Pen.totE l)]) ∧ w' = w := by
  go_enter Try.func37, Try.ntmps37
  go_wp2
  go_loop [4, 9] (fun n i => ∃ k : Nat, k ≤ l.length ∧ i = .int .i64 k ∧ n = .int .i64 (l.take k).sum ∧ Pen.bad (l.take k) = false) (fun _ i => l.length - (intOf i).toNat)
  case atStart => exact ⟨0, Nat.zero_le _, rfl, rfl, rfl⟩
  case round =>
    obtain ⟨k, hk, rfl, rfl, hm⟩ := hrel
    have HM : Hid (Pen.bad (l.take k) = false) := hm
    have hs := Pen.sum_bd _ hm
    have hlen : (l.take k).length ≤ 32 := by rw [List.length_take]; omega
    have hb : -35184372088832 ≤ (l.take k).sum ∧ (l.take k).sum ≤ 35184372088832 := by omega
    clear hs hlen hm
    by_cases hlt : k < l.length
    · obtain ⟨b, off, x, rfl, _, hx, c1⟩ := hr.at hlt
      have HX : Hid (l[k]? = some x) := hx
      clear hx
      cases hax : Pen.amt x with
      | true =>
        have hxb := Pen.amt_yes x hax
        have HS : Hid ((l.take (k + 1)).sum = (l.take k).sum + x) := Pen.sum_succ l k x HX.out
        go_wp2_with (go_at_call 38; refine (amt_is _ _ _ hax).mono ?_; rintro e w' ⟨rfl, rfl⟩)
        go_round
        case rel => exact ⟨k + 1, by omega, by go_num, by rw [HS.out], Pen.bad_succ l k x HX.out HM.out hax⟩
        case measure => simp [intOf]; omega
      | false =>
        have HB : Hid (Pen.bad l = true) := Pen.bad_at l k x HX.out hax
        go_wp2_with (go_at_call 38; refine (amt_is _ _ _ hax).mono ?_; rintro e w' ⟨rfl, rfl⟩)
        go_ret2
        exact ⟨by unfold Pen.tot Pen.totE; rw [HB.out]; rfl, rfl⟩
    · have e1 : l.take k = l := List.take_of_length_le (by omega)
      have HB : Hid (Pen.bad l = false) := by have := HM.out; rwa [e1] at this
      rw [e1] at hb ⊢
      clear e1 HM
      cases hax : Pen.amt l.sum with
      | true =>
        go_wp2_with (go_at_call 38; refine (amt_is _ _ _ hax).mono ?_; rintro e w' ⟨rfl, rfl⟩)
        go_ret2
        exact ⟨by unfold Pen.tot Pen.totE; rw [HB.out, hax]; rfl, rfl⟩
      | false =>
        go_wp2_with (go_at_call 38; refine (amt_is _ _ _ hax).mono ?_; rintro e w' ⟨rfl, rfl⟩)
        go_ret2
        exact ⟨by unfold Pen.tot Pen.totE; rw [HB.out, hax]; rfl, rfl⟩
end Go.Proofs.Ytdebhcdmbijanaa
