/- The reference's entry points on sets of days: the sweep's answer, or why not. -/
import Derived.Test.YtmhmdjlongimaabSpansBy
namespace Go.Proofs.Ytmhmdjlongimaab
open Go.RowKit Go.BigFrame

namespace Spn
/-- the look over spans that may stand however they like -/
def chkO : List Sp → Int
  | [] => 0
  | s :: l => if (far s.1 || far s.2) = true then 3 else if s.2 < s.1 then 1 else chkO l
def chkOf (l : List Sp) : Int := if 64 < l.length then 2 else chkO l
theorem chkO_end (l : List Sp) (k : Nat) (h : l.length ≤ k) : chkO (l.drop k) = 0 := by rw [List.drop_eq_nil_of_le h]; rfl
theorem drop_at (l : List Sp) (k : Nat) (x y : Int) (h : l[k]? = some (x, y)) : l.drop k = (x, y) :: l.drop (k + 1) := by
  have hk : k < l.length := by
    rcases Nat.lt_or_ge k l.length with c | c
    · exact c
    · rw [List.getElem?_eq_none c] at h; cases h
  rw [List.drop_eq_getElem_cons hk]
  rw [List.getElem?_eq_getElem hk] at h
  rw [Option.some.inj h]
theorem chkO_succ (l : List Sp) (k : Nat) (x y : Int) (h : l[k]? = some (x, y)) : chkO (l.drop k) = if (far x || far y) = true then 3 else if y < x then 1 else chkO (l.drop (k + 1)) := by
  rw [drop_at l k x y h]; rfl
theorem size_take (l : List Sp) (k : Nat) (x y : Int) (h : l[k]? = some (x, y)) : size (l.drop k) = (y - x) + size (l.drop (k + 1)) := by
  rw [drop_at l k x y h]; rfl
theorem far_bd (n : Int) (h : far n = false) : -1099511627776 ≤ n ∧ n ≤ 1099511627776 := by
  simp [far] at h; omega
theorem size_bd : ∀ (l : List Sp), (∀ s ∈ l, far s.1 = false ∧ far s.2 = false ∧ s.1 ≤ s.2) → 0 ≤ size l ∧ size l ≤ 2199023255552 * l.length
  | [], _ => by simp [size]
  | s :: l, h => by
    have ih := size_bd l (fun t ht => h t (List.mem_cons_of_mem _ ht))
    have hs := h s List.mem_cons_self
    have b1 := far_bd s.1 hs.1
    have b2 := far_bd s.2 hs.2.1
    simp only [size, List.length_cons]
    omega
end Spn
theorem ret_err {k : IntKind} {v : Value} {a b : Int} (h : a = b) : Ending.returned (.tuple #[v, .int k a]) = .returned (.tuple #[v, .int k b]) := by rw [h]
theorem drewN_below {w w' : World} (h : ∃ m, w' = w.drewN m) : Below w.heap.size w w' := by
  obtain ⟨m, rfl⟩ := h
  exact below_drewN (Below.refl _ _) m
end Go.Proofs.Ytmhmdjlongimaab
