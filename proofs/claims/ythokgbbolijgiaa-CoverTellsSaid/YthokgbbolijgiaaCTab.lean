/- The document's table: a slice of numbers that the call makes by append, and then writes in place. -/
import Derived.Test.YthokgbbolijgiaaCRef
import Derived.BigRegion
namespace Go.Proofs.Ythokgbbolijgiaa
open Go.RowKit Go.BigFrame

theorem info_int2 : ∃ i : TypeInfo, Try.prog.info? 3 = some i ∧ i.zero = some (.int .i64 0) ∧ i.size = 1 ∧ i.bytes = 8 := by
  have h := infoInt
  cases hq : Try.prog.info? 3 with
  | none => simp [hq] at h
  | some i => simp [hq] at h; exact ⟨i, rfl, h.1, h.2.1, h.2.2⟩
/-- a slice of n numbers, F of the place, in a block of the call's own -/
def TabI (w : World) (B g cap n : Nat) (F : Nat → Int) : Prop := w.ownsRow B 3 1 (.slice (some ⟨g, 0, none⟩) n cap) n (((List.range n).map F).map (Value.int .i64))
theorem TabI.of {w : World} {B n : Nat} {v : Value} {F : Nat → Int} (h : OwnI w B v ((List.range n).map F)) (h0 : 0 < n) : ∃ g cap, v = .slice (some ⟨g, 0, none⟩) n cap ∧ TabI w B g cap n F := by
  have hl : ((List.range n).map F).length = n := by simp
  unfold OwnI at h
  rw [hl] at h
  rcases h.2 with ⟨_, h2⟩ | ⟨g, cap, cur, h1, h2, _⟩
  · omega
  · subst h1; exact ⟨g, cap, rfl, h⟩
theorem TabI.own {w : World} {B g cap n : Nat} {F : Nat → Int} (h : TabI w B g cap n F) : OwnI w B (.slice (some ⟨g, 0, none⟩) n cap) ((List.range n).map F) := by
  unfold OwnI; rw [show ((List.range n).map F).length = n by simp]; exact h
theorem TabI.lt {w : World} {B g cap n : Nat} {F : Nat → Int} (h : TabI w B g cap n F) : B ≤ g ∧ g < w.heap.size := World.ownsRow.lt h g rfl
theorem TabI.cell {w : World} {B g cap n : Nat} {F : Nat → Int} (h : TabI w B g cap n F) {i : Nat} (hi : i < n) : w.cell? ⟨g, i, none⟩ = some (.int .i64 (F i)) := by
  have := World.ownsRow.cellAt h i (by omega)
  rw [this]; simp [hi]
theorem TabI.frozen {w : World} {B g cap n : Nat} {F : Nat → Int} (h : TabI w B g cap n F) (i : Nat) : w.frozen? ⟨g, i, none⟩ = false := World.ownsRow.frozenAt h i
theorem TabI.congr {w : World} {B g cap n : Nat} {F G : Nat → Int} (h : TabI w B g cap n F) (e : ∀ i, i < n → F i = G i) : TabI w B g cap n G := by
  have : (List.range n).map F = (List.range n).map G := List.map_congr_left fun i hi => e i (List.mem_range.1 hi)
  unfold TabI; rw [← this]; exact h
theorem TabI.below {w w' : World} {B g cap n : Nat} {F : Nat → Int} (h : TabI w B g cap n F) (hb : Below w.heap.size w w') : TabI w' B g cap n F := by
  have hlt := h.lt.2
  obtain ⟨h1, h2⟩ := h
  refine ⟨h1, ?_⟩
  rcases h2 with h2 | ⟨g', cap', cur, e, b, c, d⟩
  · exact .inl h2
  · cases e
    exact .inr ⟨g, cap, cur, rfl, b, (hb.block g hlt).trans c, d⟩
theorem TabI.set {w : World} {B g cap n : Nat} {F G : Nat → Int} (h : TabI w B g cap n F) (i : Nat) (x : Int) (hG : ∀ j, j < n → G j = if j = i then x else F j) : TabI (w.setCell ⟨g, i, none⟩ (.int .i64 x)) B g cap n G := by
  have st := (World.ownsRow.stored h i (.int .i64 x)).1
  have e : (((List.range n).map F).map (Value.int .i64)).set i (.int .i64 x) = ((List.range n).map G).map (Value.int .i64) := by
    apply List.ext_getElem?
    intro j
    by_cases hj : j < n
    · have hg := hG j hj
      by_cases hji : i = j
      · subst hji
        rw [if_pos rfl] at hg
        simp [hj, hg]
      · rw [if_neg (fun e => hji e.symm)] at hg
        rw [List.getElem?_set_ne hji]
        simp [hj, hg]
    · simp [hj]
  rw [e] at st
  exact st
theorem TabI.drewN {w : World} {B g cap n : Nat} {F : Nat → Int} (h : TabI w B g cap n F) (m : Nat) : TabI (w.drewN m) B g cap n F := h.below (below_drewN (Below.refl _ _) m)
theorem map_snoc (F : Nat → Int) (n : Nat) : (List.range (n + 1)).map F = (List.range n).map F ++ [F n] := by rw [List.range_succ, List.map_append]; rfl
end Go.Proofs.Ythokgbbolijgiaa
