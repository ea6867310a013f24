/- What must be in any case of Easter (easterBegun) is so. -/
import Derived.Test.YtbolcbfbcjmpnabDoorEWalk
namespace Go.Proofs.YtbolcbfbcjmpnabDoor
open Go.RowKit Go.BigFrame Go.Sort

theorem sundayErr_below (y : Int) (w : World) (h : y < 1583 ∨ 9999 < y) :
    Calls Tryd.prog 10 #[.int .i64 y] w fun e w' => e = .returned (.tuple #[.int .i64 0, .int .i64 3]) ∧ Below w.heap.size w w' :=
  (sunday_err y w h).mono fun _ _ h => ⟨h.1, h.2 ▸ Below.refl _ _⟩
set_option maxHeartbeats 2000000 in
theorem ebegun_any (w : World) (hw : Laid w) :
    Calls Tryd.prog 13 #[] w fun e w' => e = .returned (.bool true) ∧ Below w.heap.size w w' := by
  go_enter Tryd.func13, Tryd.ntmps13
  go_wp2_with fail
  refine (sunday_ok 2024 _ hw (by decide) (by decide)).mono ?_; rintro e w1 ⟨rfl, b1⟩
  have l1 := Laid.below hw b1
  have B1 := below_next (Below.refl _ w) (Nat.le_refl _) b1
  clear hw
  clear b1
  go_wp2_with fail
  refine (of_at (Cal.easter 2024) 2024 3 31 _ l1 (by unfold Cal.vld; decide) (by decide +kernel)).mono ?_; rintro e w2 ⟨rfl, b2⟩
  have l2 := Laid.below l1 b2
  have B2 := below_next B1 (Nat.le_refl _) b2
  clear l1 B1
  clear b2
  have l3 := Laid.below l2 (below_box w2 (.cells #[.int .i64 2024, .int .i64 3, .int .i64 31] 29))
  have B3 := below_next B2 (Nat.le_refl _) (below_box w2 (.cells #[.int .i64 2024, .int .i64 3, .int .i64 31] 29))
  clear l2 B2
  have d3 := Has3.new w2 (2024) (3) (31) 29
  go_wp2_with fail
  refine (feast_ok 1818 1 _ l3 (by decide) (by decide) (by decide) (by decide)).mono ?_; rintro e w3 ⟨rfl, b3⟩
  have l4 := Laid.below l3 b3
  have B4 := below_next B3 (Nat.le_refl _) b3
  have d4 := Has3.below d3 b3
  clear l3 B3 d3
  clear b3
  go_wp2_with fail
  refine (of_at (Cal.easter 1818 + 1) 1818 3 23 _ l4 (by unfold Cal.vld; decide) (by decide +kernel)).mono ?_; rintro e w4 ⟨rfl, b4⟩
  have l5 := Laid.below l4 b4
  have B5 := below_next B4 (Nat.le_refl _) b4
  have d5 := Has3.below d4 b4
  clear l4 B4 d4
  clear b4
  have l6 := Laid.below l5 (below_box w4 (.cells #[.int .i64 1818, .int .i64 3, .int .i64 23] 29))
  have B6 := below_next B5 (Nat.le_refl _) (below_box w4 (.cells #[.int .i64 1818, .int .i64 3, .int .i64 23] 29))
  have d6 := Has3.below d5 (below_box w4 (.cells #[.int .i64 1818, .int .i64 3, .int .i64 23] 29))
  clear l5 B5 d5
  have x6 := Has3.new w4 (1818) (3) (23) 29
  go_wp2_with fail
  refine (sundayErr_below 1582 _ (by decide)).mono ?_; rintro e w5 ⟨rfl, b5⟩
  have l7 := Laid.below l6 b5
  have B7 := below_next B6 (Nat.le_refl _) b5
  have d7 := Has3.below d6 b5
  have x7 := Has3.below x6 b5
  clear l6 B6 d6 x6
  clear b5
  go_wp2_with fail
  have gd0 := cell_regrown d7.2.1
  have gd1 := cell_regrown d7.2.2.1
  have gd2 := cell_regrown d7.2.2.2
  have gx0 := cell_regrown x7.2.1
  have gx1 := cell_regrown x7.2.2.1
  have gx2 := cell_regrown x7.2.2.2
  refine wp_region_quiet_below (by kernel_rfl) (by kernel_rfl) ?_
  repeat go_big_quiet_step (first | (go_at_call 15; exact Calls.regrown_of (mk_any _ _ _ _)))
  refine wpQuiet_nil ?_
  intro _ hw'
  obtain ⟨⟨dq6, os6⟩, hw''⟩ := hw'
  subst hw''
  clear gd0 gd1 gd2
  clear gx0 gx1 gx2
  have l8 := Laid.below l7 (below_regrown w5 dq6 os6)
  have B8 := below_next B7 (Nat.le_refl _) (below_regrown w5 dq6 os6)
  have d8 := Has3.below d7 (below_regrown w5 dq6 os6)
  have x8 := Has3.below x7 (below_regrown w5 dq6 os6)
  clear l7 B7 d7 x7
  go_wp2
  go_ret
  exact ⟨rfl, B8⟩
end Go.Proofs.YtbolcbfbcjmpnabDoor
