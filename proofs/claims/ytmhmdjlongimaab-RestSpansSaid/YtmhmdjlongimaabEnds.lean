/- The walk of the reference's ends of spans. -/
import Derived.Test.YtmhmdjlongimaabInts
import Derived.Deep.RegionHeld3
namespace Go.Proofs.Ytmhmdjlongimaab
open Go.RowKit

theorem OwnI.weak {w : World} {B B' : Nat} {v : Value} {xs : List Int} (h : OwnI w B v xs) (hB : B' ≤ B) : OwnI w B' v xs := by
  obtain ⟨h1, h2⟩ := h
  refine ⟨h1, ?_⟩
  rcases h2 with h2 | ⟨g, cap, cur, a, b, c⟩
  · exact .inl h2
  · exact .inr ⟨g, cap, cur, a, Nat.le_trans hB b, c⟩
theorem below_on {B : Nat} {a W w' : World} (h : Below B a W) (hB : B ≤ a.heap.size) (hb : Below W.heap.size W w') : Below B a w' :=
  h.trans (hb.mono (Nat.le_trans hB h.size))
namespace Spn
/-- the ends of spans, rising, each once -/
def ends (l : List Sp) : List Int := l.foldl (fun o s => ins (ins o s.1) s.2) []
theorem ends_succ (l : List Sp) (k : Nat) (x y : Int) (h : l[k]? = some (x, y)) : ends (l.take (k + 1)) = ins (ins (ends (l.take k)) x) y := by
  unfold ends; rw [take_succ_of l k x y h, List.foldl_append]; rfl
theorem ins_len (l : List Int) (n : Int) : (ins l n).length ≤ 2 * l.length + 1 := by
  have := insAt_len l n l.length
  unfold ins; split <;> simp <;> omega
end Spn
end Go.Proofs.Ytmhmdjlongimaab
