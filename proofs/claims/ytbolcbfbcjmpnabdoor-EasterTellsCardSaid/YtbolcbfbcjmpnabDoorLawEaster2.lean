/- The walk of EasterTells: it answers true, whatever it is handed. -/
import Derived.Test.YtbolcbfbcjmpnabDoorERef
namespace Go.Proofs.YtbolcbfbcjmpnabDoor
open Go.RowKit Go.BigFrame Go.Sort

set_option maxHeartbeats 1000000 in
theorem easterTells_any (y off : Int) (w : World) (hw : Laid w) :
    Calls Tryd.prog 4 #[.int .i64 y, .int .i64 off] w fun e w' => e = .returned (.bool true) ∧ Below w.heap.size w w' := by
  by_cases hy : 1583 ≤ y ∧ y ≤ 9999
  · obtain ⟨h1, h2⟩ := hy
    have eb := easter_bd y h1 h2
    by_cases h3 : off < -100
    · have HO : Hid (off < -100 ∨ 100 < off) := .inl h3
      go_enter Tryd.func4, Tryd.ntmps4
      go_wp2_with fail
      refine (sunday_ok y _ hw h1 h2).mono ?_; rintro e w1 ⟨rfl, b1⟩
      have l1 := Laid.below hw b1
      have B1 := below_next (Below.refl _ w) (Nat.le_refl _) b1
      clear hw
      clear b1
      go_wp2_with fail
      refine (feast_off y off _ l1 h1 h2 HO.out).mono ?_; rintro e w2 ⟨rfl, b2⟩
      have l2 := Laid.below l1 b2
      have B2 := below_next B1 (Nat.le_refl _) b2
      clear l1 B1
      clear b2
      go_wp2_with fail
      refine (easterOf_ok y _ h1 h2).mono ?_; rintro e w3 ⟨rfl, b3⟩
      have l3 := Laid.below l2 b3
      have B3 := below_next B2 (Nat.le_refl _) b3
      clear l2 B2
      clear b3
      go_wp2_with fail
      refine (ebegun_any _ l3).mono ?_; rintro e w4 ⟨rfl, b4⟩
      have l4 := Laid.below l3 b4
      have B4 := below_next B3 (Nat.le_refl _) b4
      clear l3 B3
      clear b4
      go_wp2
      go_ret
      exact ⟨rfl, B4⟩
    · by_cases h4 : 100 < off
      · have HO : Hid (off < -100 ∨ 100 < off) := .inr h4
        go_enter Tryd.func4, Tryd.ntmps4
        go_wp2_with fail
        refine (sunday_ok y _ hw h1 h2).mono ?_; rintro e w1 ⟨rfl, b1⟩
        have l1 := Laid.below hw b1
        have B1 := below_next (Below.refl _ w) (Nat.le_refl _) b1
        clear hw
        clear b1
        go_wp2_with fail
        refine (feast_off y off _ l1 h1 h2 HO.out).mono ?_; rintro e w2 ⟨rfl, b2⟩
        have l2 := Laid.below l1 b2
        have B2 := below_next B1 (Nat.le_refl _) b2
        clear l1 B1
        clear b2
        go_wp2_with fail
        refine (easterOf_ok y _ h1 h2).mono ?_; rintro e w3 ⟨rfl, b3⟩
        have l3 := Laid.below l2 b3
        have B3 := below_next B2 (Nat.le_refl _) b3
        clear l2 B2
        clear b3
        go_wp2_with fail
        refine (ebegun_any _ l3).mono ?_; rintro e w4 ⟨rfl, b4⟩
        have l4 := Laid.below l3 b4
        have B4 := below_next B3 (Nat.le_refl _) b4
        clear l3 B3
        clear b4
        go_wp2
        go_ret
        exact ⟨rfl, B4⟩
      · skip
        go_enter Tryd.func4, Tryd.ntmps4
        go_wp2_with fail
        refine (sunday_ok y _ hw h1 h2).mono ?_; rintro e w1 ⟨rfl, b1⟩
        have l1 := Laid.below hw b1
        have B1 := below_next (Below.refl _ w) (Nat.le_refl _) b1
        clear hw
        clear b1
        go_wp2_with fail
        refine (feast_ok y off _ l1 h1 h2 (by omega) (by omega)).mono ?_; rintro e w2 ⟨rfl, b2⟩
        have l2 := Laid.below l1 b2
        have B2 := below_next B1 (Nat.le_refl _) b2
        clear l1 B1
        clear b2
        go_wp2_with fail
        refine (easterOf_ok y _ h1 h2).mono ?_; rintro e w3 ⟨rfl, b3⟩
        have l3 := Laid.below l2 b3
        have B3 := below_next B2 (Nat.le_refl _) b3
        clear l2 B2
        clear b3
        go_wp2_with fail
        refine (ebegun_any _ l3).mono ?_; rintro e w4 ⟨rfl, b4⟩
        have l4 := Laid.below l3 b4
        have B4 := below_next B3 (Nat.le_refl _) b4
        clear l3 B3
        clear b4
        go_wp2
        go_ret
        exact ⟨rfl, B4⟩
  · have HN : Hid (y < 1583 ∨ 9999 < y) := by unfold Hid; omega
    clear hy
    go_enter Tryd.func4, Tryd.ntmps4
    go_wp2_with fail
    refine (sundayErr_below y _ HN.out).mono ?_; rintro e w1 ⟨rfl, b1⟩
    have l1 := Laid.below hw b1
    have B1 := below_next (Below.refl _ w) (Nat.le_refl _) b1
    clear hw
    clear b1
    go_wp2_with fail
    refine (feast_err y off _ HN.out).mono ?_; rintro e w2 ⟨rfl, b2⟩
    have l2 := Laid.below l1 b2
    have B2 := below_next B1 (Nat.le_refl _) b2
    clear l1 B1
    clear b2
    go_wp2_with fail
    refine (easterOf_err y _ HN.out).mono ?_; rintro e w3 ⟨rfl, b3⟩
    have l3 := Laid.below l2 b3
    have B3 := below_next B2 (Nat.le_refl _) b3
    clear l2 B2
    clear b3
    go_wp2_with fail
    refine (ebegun_any _ l3).mono ?_; rintro e w4 ⟨rfl, b4⟩
    have l4 := Laid.below l3 b4
    have B4 := below_next B3 (Nat.le_refl _) b4
    clear l3 B3
    clear b4
    go_wp2
    go_ret
    exact ⟨rfl, B4⟩
end Go.Proofs.YtbolcbfbcjmpnabDoor
