/- What must be in any case, of fares. -/
import Derived.Test.YtcaibonnkfhkmaaFMe
import Derived.Test.YtcaibonnkfhkmaaFOf
import Derived.Test.YtcaibonnkfhkmaaFSf
namespace Go.Proofs.Ytcaibonnkfhkmaa
open Go.RowKit

theorem row1_new (W : World) (r : List Int) : Row1 (W.alloc (.cells (r.map (Value.int .i64)).toArray 3)) (some ⟨W.heap.size, 0, none⟩) r := by
  have h := World.rowIs_alloc W (r.map (Value.int .i64)).toArray 3 (fun i => .int .i64 (r.getD i 0)) (fun i hi => by
    simp at hi
    simp [List.getD, List.getElem?_eq_getElem hi])
  exact .inr ⟨_, 0, rfl, World.rowIs.lt h, fun i hi => by rw [Nat.zero_add]; exact World.rowIs.cell h (by simpa using hi)⟩
theorem rows_new (W : World) (vs : List Value) : (W.alloc (.cells vs.toArray 37)).rowIs W.heap.size 37 vs.length (fun i => vs.getD i undef) := by
  have h := World.rowIs_alloc W vs.toArray 37 (fun i => vs.getD i undef) (fun i hi => by
    simp at hi
    simp [List.getD, List.getElem?_eq_getElem hi])
  simpa using h
theorem mat_lit3 (w : World) (r0 r1 r2 : List Int) (h0 : r0.length ≤ 6) (h1 : r1.length ≤ 6) (h2 : r2.length ≤ 6) :
    Mat ((((w.alloc (.cells (r0.map (Value.int .i64)).toArray 3)).alloc (.cells (r1.map (Value.int .i64)).toArray 3)).alloc (.cells (r2.map (Value.int .i64)).toArray 3)).alloc
      (.cells #[.slice (some ⟨w.heap.size, 0, none⟩) r0.length r0.length, .slice (some ⟨w.heap.size + 1, 0, none⟩) r1.length r1.length, .slice (some ⟨w.heap.size + 1 + 1, 0, none⟩) r2.length r2.length] 37))
      (some ⟨w.heap.size + 1 + 1 + 1, 0, none⟩) [r0, r1, r2] := by
  have R0 := row1_new w r0
  have R1 := row1_new (w.alloc (.cells (r0.map (Value.int .i64)).toArray 3)) r1
  have R2 := row1_new ((w.alloc (.cells (r0.map (Value.int .i64)).toArray 3)).alloc (.cells (r1.map (Value.int .i64)).toArray 3)) r2
  have R3 := rows_new (((w.alloc (.cells (r0.map (Value.int .i64)).toArray 3)).alloc (.cells (r1.map (Value.int .i64)).toArray 3)).alloc (.cells (r2.map (Value.int .i64)).toArray 3)) [.slice (some ⟨w.heap.size, 0, none⟩) r0.length r0.length, .slice (some ⟨w.heap.size + 1, 0, none⟩) r1.length r1.length, .slice (some ⟨w.heap.size + 1 + 1, 0, none⟩) r2.length r2.length]
  simp only [World.size_alloc] at R1 R2 R3
  have hm : ∀ r : List Int, r.length ≤ 6 → r.length ≤ maxLen := fun r h => by unfold maxLen; omega
  refine .inr ⟨w.heap.size + 1 + 1 + 1, 0, rfl, World.rowIs.lt R3, fun i hi => ?_⟩
  match i, hi with
  | 0, _ => exact ⟨_, _, World.rowIs.cell R3 (i := 0) (by simp), ((R0.below (below_box _ _)).below (below_box _ _)).below (below_box _ _), hm _ h0⟩
  | 1, _ => exact ⟨_, _, World.rowIs.cell R3 (i := 1) (by simp), (R1.below (below_box _ _)).below (below_box _ _), hm _ h1⟩
  | 2, _ => exact ⟨_, _, World.rowIs.cell R3 (i := 2) (by simp), R2.below (below_box _ _), hm _ h2⟩
theorem mat_lit2 (w : World) (r0 r1 : List Int) (h0 : r0.length ≤ 6) (h1 : r1.length ≤ 6) :
    Mat (((w.alloc (.cells (r0.map (Value.int .i64)).toArray 3)).alloc (.cells (r1.map (Value.int .i64)).toArray 3)).alloc
      (.cells #[.slice (some ⟨w.heap.size, 0, none⟩) r0.length r0.length, .slice (some ⟨w.heap.size + 1, 0, none⟩) r1.length r1.length] 37))
      (some ⟨w.heap.size + 1 + 1, 0, none⟩) [r0, r1] := by
  have R0 := row1_new w r0
  have R1 := row1_new (w.alloc (.cells (r0.map (Value.int .i64)).toArray 3)) r1
  have R3 := rows_new ((w.alloc (.cells (r0.map (Value.int .i64)).toArray 3)).alloc (.cells (r1.map (Value.int .i64)).toArray 3)) [.slice (some ⟨w.heap.size, 0, none⟩) r0.length r0.length, .slice (some ⟨w.heap.size + 1, 0, none⟩) r1.length r1.length]
  simp only [World.size_alloc] at R1 R3
  have hm : ∀ r : List Int, r.length ≤ 6 → r.length ≤ maxLen := fun r h => by unfold maxLen; omega
  refine .inr ⟨w.heap.size + 1 + 1, 0, rfl, World.rowIs.lt R3, fun i hi => ?_⟩
  match i, hi with
  | 0, _ => exact ⟨_, _, World.rowIs.cell R3 (i := 0) (by simp), (R0.below (below_box _ _)).below (below_box _ _), hm _ h0⟩
  | 1, _ => exact ⟨_, _, World.rowIs.cell R3 (i := 1) (by simp), R1.below (below_box _ _), hm _ h1⟩
end Go.Proofs.Ytcaibonnkfhkmaa
