/- An offer for the first of some days: its price, and the table's at what is left. -/
import Derived.Test.YthokgbbolijgiaaCWk
namespace Go.Proofs.Ythokgbbolijgiaa
open Go.RowKit Go.BigFrame

theorem behind_at (x y : Int) (d j : Nat) (w : World) (hx : 1 ≤ x ∧ x ≤ 400) (hd : d ≤ 400) (hj : d - x.toNat = j) :
    Calls Try.prog 24 #[.agg #[.int .i64 x, .int .i64 y], .int .i64 d] w fun e w' => e = .returned (.int .i64 (j : Int)) ∧ Below w.heap.size w w' := by
  subst hj; exact behind_any x y d w hx hd
set_option maxHeartbeats 1000000 in
theorem with_at (g : Nat) (x y z : Int) (d j : Nat) (w : World) (hx : 1 ≤ x ∧ x ≤ 400) (hy : 0 ≤ y ∧ y ≤ 1000000) (hd : d ≤ 400) (hj : d - x.toNat = j) (hz : w.cell? ⟨g, j, none⟩ = some (.int .i64 z)) (hz0 : -1 ≤ z ∧ z ≤ 1000000000) :
    Calls Try.prog 23 #[.pointer (some ⟨g, 0, none⟩), .agg #[.int .i64 x, .int .i64 y], .int .i64 d] w fun e w' => e = .returned (.int .i64 (y + z)) ∧ Below w.heap.size w w' := by
  have b0 : Below w.heap.size w (w.alloc (.cells #[.int .i64 x, .int .i64 y] 37)) := (Below.refl _ _).alloc (Nat.le_refl _) _
  have j0 : (0 : Int) ≤ (j : Int) := by omega
  have j1 : (j : Int) < 401 := by omega
  have HB : Hid (∀ W : World, Calls Try.prog 24 #[.agg #[.int .i64 x, .int .i64 y], .int .i64 d] W fun e w' => e = .returned (.int .i64 (j : Int)) ∧ Below W.heap.size W w') := fun W => behind_at x y d j W hx hd hj
  have d1 : (w.alloc (.cells #[.int .i64 x, .int .i64 y] 37)).cell? ⟨w.heap.size, 0, none⟩ = some (.int .i64 x) := by simp
  have d2 : (w.alloc (.cells #[.int .i64 x, .int .i64 y] 37)).cell? ⟨w.heap.size, 1, none⟩ = some (.int .i64 y) := by simp
  have d3 : (w.alloc (.cells #[.int .i64 x, .int .i64 y] 37)).cell? ⟨g, j, none⟩ = some (.int .i64 z) := (b0.cell (block_lt_of_cell hz)).trans hz
  have y0 := hy.1
  have y1 := hy.2
  have z0 := hz0.1
  have z1 := hz0.2
  clear hz hj hx hd hy hz0
  go_enter Try.func23, Try.ntmps23
  go_wp2
  generalize hW : w.alloc (.cells #[.int .i64 x, .int .i64 y] 37) = W at *
  generalize hn : w.heap.size = nw at *
  have HN : Hid (w.heap.size = nw) := hn
  clear hW hn
  have r1 := fun d os => cell_regrown d1 d os
  have r2 := fun d os => cell_regrown d2 d os
  have r3 := fun d os => cell_regrown d3 d os
  refine wp_region_quiet_below (by kernel_rfl) (by kernel_rfl) ?_
  repeat go_big_quiet_step (first | (go_at_call 24; exact Calls.regrown_of (HB.out _)))
  refine wpQuiet_nil ?_
  intro _ hw'
  obtain ⟨⟨dq, osq⟩, hw''⟩ := hw'
  subst hw''
  go_wp2
  go_ret
  have hn := HN.out
  subst hn
  exact ⟨rfl, below_on b0 (Nat.le_refl _) (below_regrown _ _ _)⟩
end Go.Proofs.Ythokgbbolijgiaa
