/- Tables of prices: arrays of 401 numbers, by value and in their block. -/
import Derived.Test.YthokgbbolijgiaaCWith
import Derived.Deep.WholeRow
import Derived.Deep.OwnRows
namespace Go.Proofs.Ythokgbbolijgiaa
open Go.RowKit

theorem infoP : (Try.prog.info? 44).map (fun i => (i.zero, i.size)) = some (some (.agg (Array.replicate 401 (.int .i64 0))), 401) := by kernel_rfl
theorem undP : Try.prog.underlying 44 = some (.array 401 3) := by kernel_rfl
theorem zeroP (w : World) : (zeroValue 44).run Try.prog w = .ok (.agg (Array.replicate 401 (.int .i64 0))) w := (zero_of_info infoP).1 w
theorem sizeP : (Try.prog.info? 44).map (·.size) = some 401 := (zero_of_info infoP).2
/-- a table as a value -/
def cellsP (F : Nat → Int) : Array Value := ((List.range 401).map fun i => Value.int .i64 (F i)).toArray
theorem cellsP_size (F : Nat → Int) : (cellsP F).size = 401 := by simp [cellsP]
theorem cellsP_info (F : Nat → Int) : (Try.prog.info? 44).map (·.size) = some (cellsP F).size := by rw [cellsP_size]; exact sizeP
theorem cellsP_at (F : Nat → Int) (i : Nat) (h : i < 401) : (cellsP F)[i]? = some (.int .i64 (F i)) := by simp [cellsP, h]
theorem cellsP_one (F : Nat → Int) : (cellsP F).all (·.oneCell') = true := by
  rw [Array.all_eq_true_iff_forall_mem]
  intro v hv
  simp [cellsP] at hv
  obtain ⟨i, _, rfl⟩ := hv
  rfl
/-- block g is a table of prices, F of the days, that may be written -/
def RowP (w : World) (g : Nat) (F : Nat → Int) : Prop := w.rowIs g 44 401 (fun i => .int .i64 (F i))
theorem RowP.cell {w : World} {g : Nat} {F : Nat → Int} (h : RowP w g F) {i : Nat} (hi : i < 401) : w.cell? ⟨g, i, none⟩ = some (.int .i64 (F i)) := World.rowIs.cell h hi
theorem RowP.frozen {w : World} {g : Nat} {F : Nat → Int} (h : RowP w g F) (i : Nat) : w.frozen? ⟨g, i, none⟩ = false := World.rowIs.frozen h i
theorem RowP.lt {w : World} {g : Nat} {F : Nat → Int} (h : RowP w g F) : g < w.heap.size := World.rowIs.lt h
theorem RowP.congr {w : World} {g : Nat} {F G : Nat → Int} (h : RowP w g F) (e : ∀ i, i < 401 → F i = G i) : RowP w g G := World.rowIs.congr h (fun i hi => by rw [e i hi])
theorem RowP.below {w w' : World} {g : Nat} {F : Nat → Int} (h : RowP w g F) (hb : Below w.heap.size w w') : RowP w' g F := World.rowIs.of_block h (hb.block g h.lt)
theorem RowP.alloc {w : World} {g : Nat} {F : Nat → Int} (h : RowP w g F) (o : Obj) : RowP (w.alloc o) g F := World.rowIs.alloc h o
theorem RowP.set {w : World} {g : Nat} {F : Nat → Int} (h : RowP w g F) (i : Nat) (x : Int) : RowP (w.setCell ⟨g, i, none⟩ (.int .i64 x)) g (fun j => if j = i then x else F j) :=
  World.rowIs.congr (World.rowIs.set h i (.int .i64 x)) (fun j _ => by dsimp only; split <;> rfl)
theorem RowP.setOther {w : World} {g c : Nat} {F : Nat → Int} (h : RowP w g F) (hne : g ≠ c) (i : Nat) (v : Value) : RowP (w.setCell ⟨c, i, none⟩ v) g F := World.rowIs.setOther h hne v
theorem RowP.obj {w : World} {g : Nat} {F : Nat → Int} (h : RowP w g F) : w.heap[g]? = some (.cells (cellsP F) 44 (0, 0)) := by
  obtain ⟨c, h1, h2, h3⟩ := h
  rw [h1]
  congr 2
  apply Array.ext_getElem?
  intro i
  by_cases hi : i < 401
  · rw [h3 i hi, cellsP_at F i hi]
  · rw [Array.getElem?_eq_none (by omega), Array.getElem?_eq_none (by rw [cellsP_size]; omega)]
theorem RowP.of {w : World} {g : Nat} {F : Nat → Int} (h : w.heap[g]? = some (.cells (cellsP F) 44 (0, 0))) : RowP w g F := ⟨_, h, cellsP_size F, fun i hi => cellsP_at F i hi⟩
theorem RowP.made (w : World) (F : Nat → Int) : RowP (w.alloc (.cells (cellsP F) 44)) w.heap.size F := RowP.of (heap_alloc_new w _)
theorem zero_cells : (Array.replicate 401 (Value.int .i64 0)) = cellsP (fun _ => 0) := by
  apply Array.ext_getElem?
  intro i
  by_cases hi : i < 401
  · rw [cellsP_at _ i hi]; simp [hi]
  · rw [Array.getElem?_eq_none (by simp; omega), Array.getElem?_eq_none (by rw [cellsP_size]; omega)]
theorem RowP.zero (w : World) : RowP (w.alloc (.cells (Array.replicate 401 (.int .i64 0)) 44)) w.heap.size (fun _ => 0) := by rw [zero_cells]; exact RowP.made w _
theorem RowP.row {w : World} {g : Nat} {F G : Nat → Int} (h : RowP w g F) : RowP (w.setRow g (cellsP G)) g G := RowP.of (setRow_heap w g _ _ _ _ h.obj)
theorem below_setRow {B : Nat} {a w : World} (h : Below B a w) {g : Nat} (hg : B ≤ g) (c : Array Value) : Below B a (w.setRow g c) :=
  h.trans ⟨rfl, rfl, rfl, by rw [size_setRow]; exact Nat.le_refl _, fun k hk => setRow_other w g k c (by omega)⟩
/-- l[1:] -/
theorem from_one (b off m cap : Nat) (hc : m + 1 ≤ cap) : ∃ o2 : Nat, (m = 0 ∨ o2 = off + 2) ∧ ∀ wx, (Instr.slice 22 (.slice (some ⟨b, off, none⟩) (m + 1) cap) (some (.int .i64 1)) none none).run Try.prog wx = .ok (.slice (some ⟨b, o2, none⟩) m (cap - 1)) wx := by
  have ht : Try.prog.underlying 22 = some (.slice (Try.prog.elem 22)) := by kernel_rfl
  have he : Try.prog.elem 22 = 37 := by kernel_rfl
  by_cases e : cap = 1
  · refine ⟨off, .inl (by omega), fun wx => ?_⟩
    rw [run_slice_l wx _ _ (m + 1) cap ht .i64 _ (by omega) (by omega), he, Try.sizeOf37]
    simp [sliced, e, Result.andThen]
  · refine ⟨off + 2, .inr rfl, fun wx => ?_⟩
    rw [run_slice_l wx _ _ (m + 1) cap ht .i64 _ (by omega) (by omega), he, Try.sizeOf37]
    simp [sliced, e, Result.andThen, Addr.add]
end Go.Proofs.Ythokgbbolijgiaa
