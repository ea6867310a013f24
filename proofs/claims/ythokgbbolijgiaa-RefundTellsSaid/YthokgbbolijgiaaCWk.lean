/- The program's small walks over offers: is a number within, the look over the offers, what is left behind an offer. -/
import Derived.Test.YthokgbbolijgiaaORow
import Derived.Test.YthokgbbolijgiaaHKit
import Derived.Deep.RegionHeld3
import Derived.Lib.QuietBelow
namespace Go.Proofs.Ythokgbbolijgiaa
open Go.RowKit Go.BigFrame

theorem isWithin_any (n a b : Int) (w : World) :
    Calls Try.prog 27 #[.int .i64 n, .int .i64 a, .int .i64 b] w fun e w' => e = .returned (.bool (decide (a ≤ n ∧ n ≤ b))) ∧ w' = w := by
  by_cases h1 : a ≤ n
  · by_cases h2 : n ≤ b
    · have e : decide (a ≤ n ∧ n ≤ b) = true := by simp; omega
      rw [e]; clear e
      go_enter Try.func27, Try.ntmps27
      go_wp2
      go_ret
      exact ⟨rfl, rfl⟩
    · have e : decide (a ≤ n ∧ n ≤ b) = false := by simp; omega
      rw [e]; clear e
      go_enter Try.func27, Try.ntmps27
      go_wp2
      go_ret
      exact ⟨rfl, rfl⟩
  · have e : decide (a ≤ n ∧ n ≤ b) = false := by simp; omega
    rw [e]; clear e
    have h1' : decide (a ≤ n) = false := by simpa using h1
    go_enter Try.func27, Try.ntmps27
    go_wp2
    go_ret
    exact ⟨rfl, rfl⟩
theorem all_take_succ (l : List Cv.Off) (k : Nat) (o : Cv.Off) (h : l[k]? = some o) : (l.take (k + 1)).all Cv.okO = ((l.take k).all Cv.okO && Cv.okO o) := by
  rw [Cv.take_snoc l k o h, List.all_append]; simp
theorem all_no (l : List Cv.Off) (k : Nat) (o : Cv.Off) (h : l[k]? = some o) (h2 : Cv.okO o = false) : l.all Cv.okO = false := by
  cases e : l.all Cv.okO with
  | false => rfl
  | true =>
    have := List.all_eq_true.1 e o (List.mem_of_getElem? h)
    rw [h2] at this; cases this
set_option maxHeartbeats 2000000 in
theorem coverCheck_any (l : List Cv.Off) (a : Option Addr) (cap : Nat) (w : World) (hl : l.length ≤ maxLen) (hr : RowO w a l) :
    Calls Try.prog 14 #[.slice a l.length cap] w fun e w' => e = .returned (.int .i64 (Cv.chk l)) ∧ Below w.heap.size w w' := by
  unfold maxLen at hl
  by_cases h0 : l.length = 0
  · have e : Cv.chk l = 5 := by unfold Cv.chk; rw [if_pos h0]
    rw [e, h0]; clear e
    go_enter Try.func14, Try.ntmps14
    go_wp2
    go_ret
    exact ⟨rfl, Below.refl _ _⟩
  · have h0' : ((l.length : Int) == 0) = false := by rw [beq_eq_false_iff_ne]; omega
    by_cases h8 : 8 < l.length
    · have e : Cv.chk l = 2 := by unfold Cv.chk; rw [if_neg h0, if_pos h8]
      rw [e]; clear e
      have h8' : (8 : Int) < (l.length : Int) := by omega
      go_enter Try.func14, Try.ntmps14
      go_wp2
      go_ret
      exact ⟨rfl, Below.refl _ _⟩
    · have e : Cv.chk l = if l.all Cv.okO then 0 else 3 := by unfold Cv.chk; rw [if_neg h0, if_neg h8]
      have HE : Hid (_) := e
      clear e
      have h8' : (l.length : Int) ≤ 8 := by omega
      have h8'' : l.length ≤ 8 := by omega
      clear h0 h8 hl
      go_enter Try.func14, Try.ntmps14
      go_wp2
      go_loopw [13] (fun i wr => ∃ k : Nat, k ≤ l.length ∧ i = .int .i64 k ∧ (l.take k).all Cv.okO = true ∧ Below w.heap.size w wr) (fun i _ => l.length - (intOf i).toNat)
      case atStart => exact ⟨0, Nat.zero_le _, rfl, rfl, Below.refl _ _⟩
      case round =>
        obtain ⟨k, hk, rfl, hm, hnx⟩ := hrel
        have HM : Hid ((l.take k).all Cv.okO = true) := hm
        clear hm
        by_cases hlt : k < l.length
        · have hlt' : (k : Int) < (l.length : Int) := by omega
          have hrr := hr.below hnx
          obtain ⟨b, off, x, y, rfl, hb, hx, c1, c2⟩ := hrr.lies hlt
          have HX : Hid (l[k]? = some (x, y)) := hx
          clear hx
          have nx1 : Below w.heap.size w (wr.alloc (.cells #[.int .i64 x, .int .i64 y] 37)) := hnx.alloc hnx.size _
          by_cases d1 : 1 ≤ x ∧ x ≤ 400
          · have e1 : decide (1 ≤ x ∧ x ≤ 400) = true := decide_eq_true d1
            by_cases d2 : 0 ≤ y ∧ y ≤ 1000000
            · have e2 : decide (0 ≤ y ∧ y ≤ 1000000) = true := decide_eq_true d2
              have HO : Hid ((l.take (k + 1)).all Cv.okO = true) := by
                unfold Hid; rw [all_take_succ l k _ HX.out, HM.out, (Cv.okO_iff _).2 ⟨d1.1, d1.2, d2.1, d2.2⟩]; rfl
              clear d1 d2
              go_wp2_with (go_at_call 27; refine (isWithin_any _ _ _ _).mono ?_; rintro e w1 ⟨rfl, rfl⟩; first | rw [e1] | rw [e2])
              go_roundw
              case rel => exact ⟨k + 1, by omega, by go_num, HO.out, nx1⟩
              case measure => simp [intOf]; omega
            · have e2 : decide (0 ≤ y ∧ y ≤ 1000000) = false := decide_eq_false d2
              have HO : Hid (l.all Cv.okO = false) := all_no l k _ HX.out (by unfold Cv.okO; exact decide_eq_false (fun h => d2 h.2.2))
              clear d1 d2
              go_wp2_with (go_at_call 27; refine (isWithin_any _ _ _ _).mono ?_; rintro e w1 ⟨rfl, rfl⟩; first | rw [e1] | rw [e2])
              go_ret
              exact ⟨ret_int (by rw [HE.out, HO.out]; rfl), nx1⟩
          · have e1 : decide (1 ≤ x ∧ x ≤ 400) = false := decide_eq_false d1
            have HO : Hid (l.all Cv.okO = false) := all_no l k _ HX.out (by unfold Cv.okO; exact decide_eq_false (fun h => d1 ⟨h.1, h.2.1⟩))
            clear d1
            go_wp2_with (go_at_call 27; refine (isWithin_any _ _ _ _).mono ?_; rintro e w1 ⟨rfl, rfl⟩; rw [e1])
            go_ret
            exact ⟨ret_int (by rw [HE.out, HO.out]; rfl), nx1⟩
        · have HA : Hid (l.all Cv.okO = true) := by
            have := HM.out
            rw [List.take_of_length_le (by omega)] at this
            exact this
          have hlt' : ¬ (k : Int) < (l.length : Int) := by omega
          go_wp2
          go_ret
          exact ⟨ret_int (by rw [HE.out, HA.out]; rfl), hnx⟩
theorem behind_any (x y : Int) (d : Nat) (w : World) (hx : 1 ≤ x ∧ x ≤ 400) (hd : d ≤ 400) :
    Calls Try.prog 24 #[.agg #[.int .i64 x, .int .i64 y], .int .i64 d] w fun e w' => e = .returned (.int .i64 ((d - x.toNat : Nat) : Int)) ∧ Below w.heap.size w w' := by
  obtain ⟨h1, h2⟩ := hx
  obtain ⟨n, rfl⟩ : ∃ n : Nat, x = n := ⟨x.toNat, by omega⟩
  have b0 : Below w.heap.size w (w.alloc (.cells #[.int .i64 n, .int .i64 y] 37)) := (Below.refl _ _).alloc (Nat.le_refl _) _
  by_cases c : n < d
  · have c' : (0 : Int) < (d : Int) - (n : Int) := by omega
    obtain ⟨q, hq⟩ : ∃ q : Nat, (q : Int) = (d : Int) - n := ⟨d - n, by omega⟩
    have HQ : Hid (((d - (n : Int).toNat : Nat) : Int) = q) := by unfold Hid; omega
    have HQ2 : Hid ((q : Int) = (d : Int) - n) := hq
    clear hq
    go_enter Try.func24, Try.ntmps24
    go_wp2
    go_ret
    exact ⟨ret_int (by have := HQ.out; have := HQ2.out; omega), b0⟩
  · have c' : ¬ (0 : Int) < (d : Int) - (n : Int) := by omega
    have HQ : Hid (((d - (n : Int).toNat : Nat) : Int) = 0) := by unfold Hid; omega
    go_enter Try.func24, Try.ntmps24
    go_wp2
    go_ret
    exact ⟨ret_int (by have := HQ.out; omega), b0⟩
end Go.Proofs.Ythokgbbolijgiaa
