/- Rows of whole numbers that lie there, one behind the other: read. -/
import Derived.Test.YtcaibonnkfhkmaaRow1
import Derived.Test.YtcaibonnkfhkmaaFr
namespace Go.Proofs.Ytcaibonnkfhkmaa
open Go.RowKit

/-- Fares that lie there. -/
def Mat (w : World) (a : Option Addr) (f : List (List Int)) : Prop :=
  f = [] ∨ ∃ b off, a = some ⟨b, off, none⟩ ∧ b < w.heap.size ∧ ∀ i : Nat, i < f.length → ∃ ai ci, w.cell? ⟨b, off + i, none⟩ = some (.slice ai (f.getD i []).length ci) ∧ Row1 w ai (f.getD i []) ∧ (f.getD i []).length ≤ maxLen
theorem Mat.at {w : World} {a : Option Addr} {f : List (List Int)} (h : Mat w a f) {k : Nat} (hlt : k < f.length) :
    ∃ b off ai ci, a = some ⟨b, off, none⟩ ∧ b < w.heap.size ∧ w.cell? ⟨b, off + k, none⟩ = some (.slice ai (f.getD k []).length ci) ∧ Row1 w ai (f.getD k []) ∧ (f.getD k []).length ≤ maxLen := by
  rcases h with rfl | ⟨b, off, rfl, hb, hc⟩
  · simp at hlt
  · obtain ⟨ai, ci, h1, h2, h3⟩ := hc k hlt
    exact ⟨b, off, ai, ci, rfl, hb, h1, h2, h3⟩
theorem Mat.below {w w' : World} {a : Option Addr} {f : List (List Int)} (h : Mat w a f) (hb : Below w.heap.size w w') : Mat w' a f := by
  rcases h with h | ⟨b, off, rfl, hlt, hc⟩
  · exact .inl h
  · refine .inr ⟨b, off, rfl, Nat.lt_of_lt_of_le hlt hb.size, fun i hi => ?_⟩
    obtain ⟨ai, ci, h1, h2, h3⟩ := hc i hi
    exact ⟨ai, ci, (hb.cell (p := ⟨b, _, none⟩) hlt).trans h1, h2.below hb, h3⟩
/-- one price -/
theorem Mat.price {w : World} {a : Option Addr} {f : List (List Int)} (h : Mat w a f) {x y : Nat} (hx : x < f.length) (hy : y - x < (f.getD x []).length) :
    ∃ b off b2 off2 ci, a = some ⟨b, off, none⟩ ∧ b < w.heap.size ∧ b2 < w.heap.size ∧ w.cell? ⟨b, off + x, none⟩ = some (.slice (some ⟨b2, off2, none⟩) (f.getD x []).length ci) ∧ w.cell? ⟨b2, off2 + (y - x), none⟩ = some (.int .i64 (Fr.pr f x y)) := by
  obtain ⟨b, off, ai, ci, rfl, hb, h1, h2, _⟩ := h.at hx
  obtain ⟨b2, off2, v, rfl, hb2, hv, h3⟩ := h2.at hy
  refine ⟨b, off, b2, off2, ci, rfl, hb, hb2, h1, ?_⟩
  rw [h3]
  congr 2
  unfold Fr.pr
  generalize f.getD x [] = r at hv
  rw [List.getD_eq_getElem?_getD, hv]
  rfl
end Go.Proofs.Ytcaibonnkfhkmaa
