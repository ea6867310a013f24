/- Slices of classes that lie there. -/
import Derived.Test.YtfncfbbkkpdhkaaDoorPnPl
import Derived.Test.YtfncfbbkkpdhkaaDoorBase
import Derived.RowKit
namespace Go.Proofs.YtfncfbbkkpdhkaaDoor
open Go.RowKit
def RowK (w : World) (a : Option Addr) (l : List Prs.Kl) : Prop :=
  l = [] ∨ ∃ b off, a = some ⟨b, off, none⟩ ∧ b < w.heap.size ∧ ∀ (i : Nat) (c : Prs.Kl), l[i]? = some c → w.cell? ⟨b, off + i * 3, none⟩ = some (.int .i64 c.f) ∧ w.cell? ⟨b, off + i * 3 + 1, none⟩ = some (.int .i64 c.t) ∧ w.cell? ⟨b, off + i * 3 + 2, none⟩ = some (.int .i64 c.p)
theorem RowK.at {w : World} {a : Option Addr} {l : List Prs.Kl} (h : RowK w a l) {k : Nat} (hk : k < l.length) :
    ∃ b off f t p, a = some ⟨b, off, none⟩ ∧ b < w.heap.size ∧ l[k]? = some ⟨f, t, p⟩ ∧ w.cell? ⟨b, off + k * 3, none⟩ = some (.int .i64 f) ∧ w.cell? ⟨b, off + k * 3 + 1, none⟩ = some (.int .i64 t) ∧ w.cell? ⟨b, off + k * 3 + 2, none⟩ = some (.int .i64 p) := by
  rcases h with rfl | ⟨b, off, e, hlt, hc⟩
  · simp at hk
  · have ek : l[k]? = some l[k] := List.getElem?_eq_getElem hk
    obtain ⟨h1, h2, h3⟩ := hc k _ ek
    exact ⟨b, off, _, _, _, e, hlt, ek, h1, h2, h3⟩
theorem RowK.below {w w' : World} {a : Option Addr} {l : List Prs.Kl} (h : RowK w a l) (hb : Below w.heap.size w w') : RowK w' a l := by
  rcases h with rfl | ⟨b, off, e, hlt, hc⟩
  · exact .inl rfl
  · refine .inr ⟨b, off, e, Nat.lt_of_lt_of_le hlt hb.size, fun i c hi => ?_⟩
    obtain ⟨h1, h2, h3⟩ := hc i c hi
    exact ⟨(hb.cell (p := ⟨b, _, none⟩) hlt).trans h1, (hb.cell (p := ⟨b, _, none⟩) hlt).trans h2, (hb.cell (p := ⟨b, _, none⟩) hlt).trans h3⟩
namespace Prs
theorem kdrop {l : List Kl} {k : Nat} {c : Kl} (h : l[k]? = some c) : l.drop k = c :: l.drop (k + 1) := by
  have hk : k < l.length := by
    rcases Nat.lt_or_ge k l.length with q | q
    · exact q
    · rw [List.getElem?_eq_none q] at h; cases h
  rw [List.drop_eq_getElem_cons hk]
  rw [List.getElem?_eq_getElem hk] at h
  rw [Option.some.inj h]
theorem winsE_step {s : Int} {l : List Kl} {k : Nat} {c : Kl} (h : l[k]? = some c) : winsE s (l.drop k) = if winE s c = 0 then winsE s (l.drop (k + 1)) else winE s c := by
  rw [kdrop h]; rfl
theorem best_step {a b : Int} {l : List Kl} {k : Nat} {c : Kl} (h : l[k]? = some c) : best a b (l.drop k) = best a (if c.f ≤ a ∧ a ≤ c.t ∧ b < c.p then c.p else b) (l.drop (k + 1)) := by
  rw [kdrop h]; rfl
end Prs
end Go.Proofs.YtfncfbbkkpdhkaaDoor
