/- 'append(append([]T{}, x...), y)' in one statement that draws its order: what the arms want, at whatever type. -/
import Derived.Test.YtfncfbbkkpdhkaaDoorBase
import Derived.Test.YtfncfbbkkpdhkaaDoorAppStep
import Derived.Deep.AppendLies
import Derived.Deep.RegionHeld3
namespace Go.Proofs.YtfncfbbkkpdhkaaDoor
open Go.RowKit
section
variable {w3 X Z w4 w5 : World} {T : TypeId} {sz : Nat}
/-- behind the first append, onto the empty row at block gE -/
theorem ap_one {v1 : Value} {n gE : Nat} {xs : List Value} (hb : Below w3.heap.size w3 X) (hg : w3.heap.size ≤ gE)
    (hown : w4.ownsRow w3.heap.size T sz v1 (0 + n) ([] ++ xs)) (hgrow : X.grownBy w4 (Value.ownBlock (.slice (some ⟨gE, 0, none⟩) 0 0))) :
    w4.ownsRow w3.heap.size T sz v1 n xs ∧ Below w3.heap.size w3 w4 := by
  rw [Nat.zero_add, List.nil_append] at hown
  exact ⟨hown, hb.grown hgrow hb.size (fun j hj => by cases hj; exact hg)⟩
/-- behind the second -/
theorem ap_two {v1 v2 : Value} {n : Nat} {xs ys : List Value} (hb : Below w3.heap.size w3 Z) (h1 : Z.ownsRow w3.heap.size T sz v1 n xs)
    (hown : w5.ownsRow w3.heap.size T sz v2 (n + 1) (xs ++ ys)) (hgrow : Z.grownBy w5 v1.ownBlock) :
    w5.ownsRow w3.heap.size T sz v2 (n + 1) (xs ++ ys) ∧ Below w3.heap.size w3 w5 :=
  ⟨hown, hb.grown hgrow hb.size (fun j hj => (World.ownsRow.lt h1 j hj).1)⟩
theorem ap_e1 (w3 : World) (T sz : Nat) : ((w3.alloc (.cells #[] T)).drew).ownsRow w3.heap.size T sz (.slice (some ⟨w3.heap.size, 0, none⟩) 0 0) 0 [] :=
  World.ownsRow.drew (World.ownsRow_made w3 #[] 0 (Nat.le_refl _) (Nat.zero_le _) (by simp))
theorem ap_e1' (w3 : World) (T sz : Nat) (M : Obj) : (((w3.alloc (.cells #[] T)).alloc M).drew).ownsRow w3.heap.size T sz (.slice (some ⟨w3.heap.size, 0, none⟩) 0 0) 0 [] :=
  World.ownsRow.drew (World.ownsRow.alloc (World.ownsRow_made w3 #[] 0 (Nat.le_refl _) (Nat.zero_le _) (by simp)) _)
theorem ap_e2 (w3 : World) (T sz : Nat) (M : Obj) : (((w3.alloc M).alloc (.cells #[] T)).drew).ownsRow w3.heap.size T sz (.slice (some ⟨w3.heap.size + 1, 0, none⟩) 0 0) 0 [] := by
  have h := World.ownsRow_made (base := w3.heap.size) (e := T) (size := sz) (w3.alloc M) #[] 0 (by simp) (Nat.zero_le _) (by simp)
  rw [World.size_alloc] at h
  exact World.ownsRow.drew h
/-- the one more, laid ahead of the empty row -/
theorem ap_m1 {M E : Obj} {n c : Nat} (h : (((w3.alloc M).alloc E).drew).grownBy w4 (Value.ownBlock (.slice (some ⟨w3.heap.size + 1, 0, none⟩) n c))) : w4.heap[w3.heap.size]? = some M :=
  (h.block w3.heap.size (by show _ < ((w3.alloc M).alloc E).heap.size; simp; omega) (fun e => by have e2 : w3.heap.size = w3.heap.size + 1 := Option.some.inj e; omega)).trans (heap_alloc2_old w3 M E)
/-- .. or behind it -/
theorem ap_m2 {M E : Obj} {n c : Nat} (h : (((w3.alloc E).alloc M).drew).grownBy w4 (Value.ownBlock (.slice (some ⟨w3.heap.size, 0, none⟩) n c))) : w4.heap[w3.heap.size + 1]? = some M :=
  (h.block (w3.heap.size + 1) (by show _ < ((w3.alloc E).alloc M).heap.size; simp) (fun e => by have e2 : w3.heap.size + 1 = w3.heap.size := Option.some.inj e; omega)).trans (heap_alloc2_new w3 E M)
/-- two cells of an old block -/
theorem ap_keep {W0 w' : World} {bx : Nat} {x y : Value} (h : W0.cell? ⟨bx, 0, none⟩ = some x ∧ W0.cell? ⟨bx, 1, none⟩ = some y) (hlt : bx < W0.heap.size) (hb : Below W0.heap.size W0 w') :
    w'.cell? ⟨bx, 0, none⟩ = some x ∧ w'.cell? ⟨bx, 1, none⟩ = some y :=
  ⟨(hb.cell (p := ⟨bx, 0, none⟩) hlt).trans h.1, (hb.cell (p := ⟨bx, 1, none⟩) hlt).trans h.2⟩
end
end Go.Proofs.YtfncfbbkkpdhkaaDoor
