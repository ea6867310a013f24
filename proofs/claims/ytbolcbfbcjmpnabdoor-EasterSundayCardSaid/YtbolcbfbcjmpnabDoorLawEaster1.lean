/- The walks of EasterSunday and EasterGap: they answer true, whatever they are handed. -/
import Derived.Test.YtbolcbfbcjmpnabDoorEBegun
namespace Go.Proofs.YtbolcbfbcjmpnabDoor
open Go.RowKit Go.BigFrame Go.Sort

set_option maxHeartbeats 400000 in
theorem easterSunday_any (y : Int) (w : World) (hw : Laid w) :
    Calls Tryd.prog 5 #[.int .i64 y] w fun e w' => e = .returned (.bool true) ∧ Below w.heap.size w w' := by
  by_cases hy : 1583 ≤ y ∧ y ≤ 9999
  · obtain ⟨h1, h2⟩ := hy
    obtain ⟨g1, g2, g3, g4, -⟩ := Cal.goodE_of y h1 h2
    have eb := easter_bd y h1 h2
    have v1 : Cal.vld y 3 22 := ⟨by omega, by omega, by omega, by omega, by omega, by have := Cal.mlen_bd y 3; omega⟩
    have v2 : Cal.vld y 4 25 := ⟨by omega, by omega, by omega, by omega, by omega, by have := Cal.mlen_bd y 4; omega⟩
    have HE : Hid (Cal.wday (Cal.easter y) = 7) := g2
    clear g2
    have HQ : Hid (Cal.num y (Cal.place y / 31) (Cal.place y % 31 + 1) = Cal.easter y) := rfl
    go_enter Tryd.func5, Tryd.ntmps5
    go_wp2_with fail
    refine (sunday_ok y _ hw h1 h2).mono ?_; rintro e w1 ⟨rfl, b1⟩
    have l1 := Laid.below hw b1
    have B1 := below_next (Below.refl _ w) (Nat.le_refl _) b1
    clear hw
    clear b1
    go_wp2_with fail
    refine (ebegun_any _ l1).mono ?_; rintro e w2 ⟨rfl, b2⟩
    have l2 := Laid.below l1 b2
    have B2 := below_next B1 (Nat.le_refl _) b2
    clear l1 B1
    clear b2
    go_wp2_with fail
    refine (of_at (Cal.easter y) y (Cal.place y / 31) (Cal.place y % 31 + 1) _ l2 g1 HQ.out).mono ?_; rintro e w3 ⟨rfl, b3⟩
    have l3 := Laid.below l2 b3
    have B3 := below_next B2 (Nat.le_refl _) b3
    clear l2 B2
    clear b3
    have l4 := Laid.below l3 (below_box w3 (.cells #[.int .i64 y, .int .i64 (Cal.place y / 31), .int .i64 (Cal.place y % 31 + 1)] 29))
    have B4 := below_next B3 (Nat.le_refl _) (below_box w3 (.cells #[.int .i64 y, .int .i64 (Cal.place y / 31), .int .i64 (Cal.place y % 31 + 1)] 29))
    clear l3 B3
    have d4 := Has3.new w3 (y) (Cal.place y / 31) (Cal.place y % 31 + 1) 29
    go_wp2_with fail
    refine (week_ok (Cal.easter y) _ eb.1 eb.2).mono ?_; rintro e w4 ⟨rfl, b4⟩
    rw [HE.out]
    have l5 := Laid.below l4 b4
    have B5 := below_next B4 (Nat.le_refl _) b4
    have d5 := Has3.below d4 b4
    clear l4 B4 d4
    clear b4
    have l6 := Laid.below l5 (below_box w4 (.cells #[.int .i64 (Cal.wyear (Cal.easter y)), .int .i64 (Cal.wno (Cal.easter y)), .int .i64 7] 23))
    have B6 := below_next B5 (Nat.le_refl _) (below_box w4 (.cells #[.int .i64 (Cal.wyear (Cal.easter y)), .int .i64 (Cal.wno (Cal.easter y)), .int .i64 7] 23))
    have d6 := Has3.below d5 (below_box w4 (.cells #[.int .i64 (Cal.wyear (Cal.easter y)), .int .i64 (Cal.wno (Cal.easter y)), .int .i64 7] 23))
    clear l5 B5 d5
    have u6 := Has3.new w4 (Cal.wyear (Cal.easter y)) (Cal.wno (Cal.easter y)) (7) 23
    go_wp2_with fail
    refine (mk_any _ _ _ _).mono ?_; rintro e w5 ⟨rfl, b5⟩
    have l7 := Laid.below l6 b5
    have B7 := below_next B6 (Nat.le_refl _) b5
    have d7 := Has3.below d6 b5
    have u7 := Has3.below u6 b5
    clear l6 B6 d6 u6
    clear b5
    go_wp2_with fail
    refine (day_ok y 3 22 _ l7 v1).mono ?_; rintro e w6 ⟨rfl, b6⟩
    have l8 := Laid.below l7 b6
    have B8 := below_next B7 (Nat.le_refl _) b6
    have d8 := Has3.below d7 b6
    have u8 := Has3.below u7 b6
    clear l7 B7 d7 u7
    clear b6
    go_wp2_with fail
    refine (mk_any _ _ _ _).mono ?_; rintro e w7 ⟨rfl, b7⟩
    have l9 := Laid.below l8 b7
    have B9 := below_next B8 (Nat.le_refl _) b7
    have d9 := Has3.below d8 b7
    have u9 := Has3.below u8 b7
    clear l8 B8 d8 u8
    clear b7
    go_wp2_with fail
    refine (day_ok y 4 25 _ l9 v2).mono ?_; rintro e w8 ⟨rfl, b8⟩
    have l10 := Laid.below l9 b8
    have B10 := below_next B9 (Nat.le_refl _) b8
    have d10 := Has3.below d9 b8
    have u10 := Has3.below u9 b8
    clear l9 B9 d9 u9
    clear b8
    have sd0 := d10.2.1
    have sd1 := d10.2.2.1
    have sd2 := d10.2.2.2
    have su0 := u10.2.1
    have su1 := u10.2.2.1
    have su2 := u10.2.2.2
    go_wp2
    go_ret
    exact ⟨rfl, B10⟩
  · have HN : Hid (y < 1583 ∨ 9999 < y) := by unfold Hid; omega
    clear hy
    go_enter Tryd.func5, Tryd.ntmps5
    go_wp2_with fail
    refine (sundayErr_below y _ HN.out).mono ?_; rintro e w1 ⟨rfl, b1⟩
    have l1 := Laid.below hw b1
    have B1 := below_next (Below.refl _ w) (Nat.le_refl _) b1
    clear hw
    clear b1
    go_wp2_with fail
    refine (ebegun_any _ l1).mono ?_; rintro e w2 ⟨rfl, b2⟩
    have l2 := Laid.below l1 b2
    have B2 := below_next B1 (Nat.le_refl _) b2
    clear l1 B1
    clear b2
    go_wp2
    go_ret
    exact ⟨rfl, B2⟩
set_option maxHeartbeats 400000 in
theorem easterGap_any (y : Int) (w : World) (hw : Laid w) :
    Calls Tryd.prog 6 #[.int .i64 y] w fun e w' => e = .returned (.bool true) ∧ Below w.heap.size w w' := by
  by_cases h1 : 1583 ≤ y
  · by_cases h2 : y < 9999
    · have g := Cal.goodG_of y h1 h2
      have e1 := easter_bd y h1 (by omega)
      have e2 := easter_bd (y + 1) (by omega) (by omega)
      unfold Cal.goodG Cal.gap at g
      rcases g with g | g | g | g
      all_goals
        go_enter Tryd.func6, Tryd.ntmps6
        go_wp2_with fail
        refine (ebegun_any _ hw).mono ?_; rintro e w1 ⟨rfl, b1⟩
        have l1 := Laid.below hw b1
        have B1 := below_next (Below.refl _ w) (Nat.le_refl _) b1
        clear hw
        clear b1
        go_wp2_with fail
        refine (sunday_ok y _ l1 (by omega) (by omega)).mono ?_; rintro e w2 ⟨rfl, b2⟩
        have l2 := Laid.below l1 b2
        have B2 := below_next B1 (Nat.le_refl _) b2
        clear l1 B1
        clear b2
        go_wp2_with fail
        refine (sunday_ok (y + 1) _ l2 (by omega) (by omega)).mono ?_; rintro e w3 ⟨rfl, b3⟩
        have l3 := Laid.below l2 b3
        have B3 := below_next B2 (Nat.le_refl _) b3
        clear l2 B2
        clear b3
        go_wp2
        go_ret
        exact ⟨rfl, B3⟩
    · skip
      go_enter Tryd.func6, Tryd.ntmps6
      go_wp2_with fail
      refine (ebegun_any _ hw).mono ?_; rintro e w1 ⟨rfl, b1⟩
      have l1 := Laid.below hw b1
      have B1 := below_next (Below.refl _ w) (Nat.le_refl _) b1
      clear hw
      clear b1
      go_wp2
      go_ret
      exact ⟨rfl, B1⟩
  · skip
    go_enter Tryd.func6, Tryd.ntmps6
    go_wp2_with fail
    refine (ebegun_any _ hw).mono ?_; rintro e w1 ⟨rfl, b1⟩
    have l1 := Laid.below hw b1
    have B1 := below_next (Below.refl _ w) (Nat.le_refl _) b1
    clear hw
    clear b1
    go_wp2
    go_ret
    exact ⟨rfl, B1⟩
end Go.Proofs.YtbolcbfbcjmpnabDoor
