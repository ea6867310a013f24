/- The walks of package share: its small functions, even parts, and parts one by one. -/
import Derived.Test.YthbobmanicnplabHKit
import Derived.Test.YthbobmanicnplabShr3
import Derived.Deep.RegionWith
import Derived.BigQuiet
import Derived.Lib.QuietBelow
namespace Go.Proofs.Ythbobmanicnplab
open Go.RowKit Go.BigFrame Go.Sort

theorem hwithin_any (n a b : Int) (w : World) :
    Calls Try.prog 16 #[.int .i64 n, .int .i64 a, .int .i64 b] w fun e w' => e = .returned (.bool (decide (a ≤ n) && decide (n ≤ b))) ∧ w' = w := by
  by_cases h1 : a ≤ n <;> by_cases h2 : n ≤ b
  all_goals
    simp [h1, h2]
    go_enter Try.func16, Try.ntmps16
    go_wp2
    go_ret
    exact ⟨rfl, rfl⟩
theorem hwithin_at (n a b : Int) (v : Bool) (w : World) (h : (decide (a ≤ n) && decide (n ≤ b)) = v) :
    Calls Try.prog 16 #[.int .i64 n, .int .i64 a, .int .i64 b] w fun e w' => e = .returned (.bool v) ∧ w' = w := by
  subst h; exact hwithin_any n a b w
theorem Row1.get {w : World} {a : Option Addr} {l : List Int} (hr : Row1 w a l) {k : Nat} (hlt : k < l.length) :
    ∃ b off, a = some ⟨b, off, none⟩ ∧ b < w.heap.size ∧ l[k]? = some (Shr.at' l k) ∧ w.cell? ⟨b, off + k, none⟩ = some (.int .i64 (Shr.at' l k)) := by
  rcases hr with rfl | ⟨b, off, rfl, hb, hc⟩
  · simp at hlt
  exact ⟨b, off, rfl, hb, by simp [Shr.at', List.getElem?_eq_getElem hlt], hc k hlt⟩
set_option maxHeartbeats 400000 in
theorem sumOf_any (l : List Int) (a : Option Addr) (cap : Nat) (w : World) (hl : l.length ≤ 64) (hx : ∀ i, 0 ≤ Shr.at' l i ∧ Shr.at' l i ≤ 2199023255552) (hr : Row1 w a l) :
    Calls Try.prog 9 #[.slice a l.length cap] w fun e w' => e = .returned (.int .i64 l.sum) ∧ w' = w := by
  have hb : ∀ k, 0 ≤ Shr.sm k (Shr.at' l) ∧ Shr.sm k (Shr.at' l) ≤ k * 2199023255552 := fun k => ⟨Shr.sm_nonneg k _ (fun i _ => (hx i).1), by rw [← Shr.sm_const k 2199023255552]; exact Shr.sm_le k _ _ (fun i _ => (hx i).2)⟩
  have HB : Hid (∀ k, 0 ≤ Shr.sm k (Shr.at' l) ∧ Shr.sm k (Shr.at' l) ≤ k * 2199023255552) := hb
  have HX : Hid (∀ i, 0 ≤ Shr.at' l i ∧ Shr.at' l i ≤ 2199023255552) := hx
  clear hb hx
  go_enter Try.func9, Try.ntmps9
  go_wp2
  go_loop [3, 5, 8] (fun n _ i => ∃ k : Nat, k ≤ l.length ∧ i = .int .i64 k ∧ n = .int .i64 (Shr.sm k (Shr.at' l))) (fun _ _ i => l.length - (intOf i).toNat)
  case atStart => exact ⟨0, Nat.zero_le _, rfl, rfl⟩
  case round =>
    obtain ⟨k, hk, rfl, rfl⟩ := hrel
    have hb := HB.out k
    by_cases hlt : k < l.length
    · obtain ⟨b, off, rfl, _, _, c1⟩ := hr.get hlt
      have hx := HX.out k
      have HS : Hid (Shr.sm (k + 1) (Shr.at' l) = Shr.sm k (Shr.at' l) + Shr.at' l k) := Shr.sm_succ k _
      generalize Shr.sm k (Shr.at' l) = s at *
      generalize Shr.at' l k = x at *
      go_wp2
      go_round
      case rel => exact ⟨k + 1, by omega, by go_num, by rw [HS.out]⟩
      case measure => simp [intOf]; omega
    · obtain rfl : k = l.length := by omega
      have HS : Hid (l.sum = Shr.sm l.length (Shr.at' l)) := Shr.sum_at l
      generalize Shr.sm l.length (Shr.at' l) = s at *
      go_wp2
      go_ret
      exact ⟨ret_int HS.out.symm, rfl⟩
set_option maxHeartbeats 400000 in
theorem hcheck_any (T : Int) (l : List Int) (a : Option Addr) (cap : Nat) (w : World) (hl : l.length ≤ maxLen) (hr : Row1 w a l) :
    Calls Try.prog 8 #[.int .i64 T, .slice a l.length cap] w fun e w' => e = .returned (.int .i64 (Shr.code T l)) ∧ w' = w := by
  unfold maxLen at hl
  by_cases h1 : 32 < l.length
  · have HC : Hid (Shr.code T l = 2) := by show _ = _; unfold Shr.code; rw [if_pos h1]
    go_enter Try.func8, Try.ntmps8
    go_wp2
    go_ret
    exact ⟨ret_int HC.out.symm, rfl⟩
  by_cases h2 : T < 0 ∨ 100000 < T
  · have HC : Hid (Shr.code T l = 3) := by show _ = _; unfold Shr.code; rw [if_neg h1, if_pos h2]
    have hT : (decide (0 ≤ T) && decide (T ≤ 100000)) = false := by simp; omega
    have HT : Hid ((decide (0 ≤ T) && decide (T ≤ 100000)) = false) := hT
    clear hT
    go_enter Try.func8, Try.ntmps8
    go_wp2_with (go_at_call 16; refine (hwithin_at _ _ _ _ _ HT.out).mono ?_; rintro e w' ⟨rfl, rfl⟩)
    go_ret
    exact ⟨ret_int HC.out.symm, rfl⟩
  have hT : (decide (0 ≤ T) && decide (T ≤ 100000)) = true := by simp; omega
  have HT : Hid ((decide (0 ≤ T) && decide (T ≤ 100000)) = true) := hT
  have HH : Hid (¬ 32 < l.length ∧ ¬ (T < 0 ∨ 100000 < T)) := ⟨h1, h2⟩
  have h1' : l.length ≤ 32 := by omega
  clear hT h1 h2
  go_enter Try.func8, Try.ntmps8
  go_wp2_with (go_at_call 16; refine (hwithin_at _ _ _ _ _ HT.out).mono ?_; rintro e w' ⟨rfl, rfl⟩)
  go_loop [6, 15] (fun _ i => ∃ k : Nat, k ≤ l.length ∧ i = .int .i64 k ∧ Hid (Shr.bad (l.take k) = false)) (fun _ i => l.length - (intOf i).toNat)
  case atStart => exact ⟨0, Nat.zero_le _, rfl, rfl⟩
  case round =>
    obtain ⟨k, hk, rfl, HM⟩ := hrel
    by_cases hlt : k < l.length
    · obtain ⟨b, off, rfl, _, hx, c1⟩ := hr.get hlt
      have HX : Hid (l[k]? = some (Shr.at' l k)) := hx
      clear hx
      cases hax : Shr.wok (Shr.at' l k) with
      | true =>
        have HW : Hid ((decide (0 ≤ Shr.at' l k) && decide (Shr.at' l k ≤ 100000)) = true) := hax
        have HB : Hid (Shr.bad (l.take (k + 1)) = false) := Shr.bad_take_succ l k _ HX.out HM.out hax
        clear hax HX
        generalize Shr.at' l k = x at *
        go_wp2_with (go_at_call 16; refine (hwithin_at _ _ _ _ _ HW.out).mono ?_; rintro e w' ⟨rfl, rfl⟩)
        go_round
        case rel => exact ⟨k + 1, by omega, by go_num, HB⟩
        case measure => simp [intOf]; omega
      | false =>
        have HW : Hid ((decide (0 ≤ Shr.at' l k) && decide (Shr.at' l k ≤ 100000)) = false) := hax
        have HB : Hid (Shr.code T l = 3) := by
          show _ = _
          unfold Shr.code
          rw [if_neg HH.out.1, if_neg HH.out.2, if_pos (Shr.bad_at l k _ HX.out hax)]
        clear hax HX
        generalize Shr.at' l k = x at *
        go_wp2_with (go_at_call 16; refine (hwithin_at _ _ _ _ _ HW.out).mono ?_; rintro e w' ⟨rfl, rfl⟩)
        go_ret
        exact ⟨ret_int HB.out.symm, rfl⟩
    · have hb : Shr.bad l = false := by have := HM.out; rwa [List.take_of_length_le (by omega)] at this
      have hxs : ∀ i, 0 ≤ Shr.at' l i ∧ Shr.at' l i ≤ 2199023255552 := fun i => by have := Shr.bad_get l hb i; omega
      have HXS : Hid (∀ i, 0 ≤ Shr.at' l i ∧ Shr.at' l i ≤ 2199023255552) := hxs
      by_cases hs : l.sum = 0
      · have HB : Hid (Shr.code T l = 5) := by
          show _ = _
          unfold Shr.code
          rw [if_neg HH.out.1, if_neg HH.out.2, if_neg (by simp [hb]), if_pos hs]
        have HS : Hid (l.sum = 0) := hs
        clear hs hb hxs
        go_wp2_with (go_at_call 9; refine (sumOf_any l _ _ _ (by omega) HXS.out hr).mono ?_; rintro e w' ⟨rfl, rfl⟩; rw [HS.out])
        go_ret
        exact ⟨ret_int HB.out.symm, rfl⟩
      · have HB : Hid (Shr.code T l = 0) := by
          show _ = _
          unfold Shr.code
          rw [if_neg HH.out.1, if_neg HH.out.2, if_neg (by simp [hb]), if_neg hs]
        have hs' : 0 < l.sum := by have := (Shr.bad_sum l hb l.length).1; rw [← Shr.sum_at] at this; omega
        clear hs hb hxs
        go_wp2_with (go_at_call 9; refine (sumOf_any l _ _ _ (by omega) HXS.out hr).mono ?_; rintro e w' ⟨rfl, rfl⟩; generalize l.sum = s at *)
        all_goals first | (exfalso; rename_i hq; simp at hq; omega) | skip
        go_ret
        exact ⟨ret_int HB.out.symm, rfl⟩
end Go.Proofs.Ythbobmanicnplab
