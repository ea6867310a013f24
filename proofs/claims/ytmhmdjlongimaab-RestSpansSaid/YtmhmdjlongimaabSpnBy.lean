/- Plain mathematics: the sweep's answer as a function, and what is told of two sets. -/
import Derived.Test.YtmhmdjlongimaabRefSpans
namespace Go.Proofs.Ytmhmdjlongimaab
open Go.RowKit

namespace Spn
def byAt (op : Int) (a b : List Sp) : Nat → List Sp
  | 0 => []
  | k + 1 => match (ends (a ++ b))[k]?, (ends (a ++ b))[k + 1]? with
    | some x, some y => if opB op (memB a x) (memB b x) = true then push (byAt op a b k) x y else byAt op a b k
    | _, _ => byAt op a b k
/-- the set that an operation makes of two, in the one form -/
def both (op : Int) (a b : List Sp) : List Sp := byAt op a b ((ends (a ++ b)).length - 1)
theorem byAt_at (op : Int) (a b : List Sp) : ∀ k, k + 1 ≤ (ends (a ++ b)).length ∨ k = 0 → At (ends (a ++ b)) (fun n => opB op (memB a n) (memB b n) = true) k (byAt op a b k)
  | 0, _ => At.start a b op
  | k + 1, h => by
    have hk : k + 2 ≤ (ends (a ++ b)).length := by omega
    have ih := byAt_at op a b k (.inl (by omega))
    have hx : (ends (a ++ b))[k]? = some ((ends (a ++ b))[k]'(by omega)) := List.getElem?_eq_getElem _
    have hy : (ends (a ++ b))[k + 1]? = some ((ends (a ++ b))[k + 1]'(by omega)) := List.getElem?_eq_getElem _
    unfold byAt
    rw [hx, hy]
    dsimp only
    cases hp : opB op (memB a ((ends (a ++ b))[k]'(by omega))) (memB b ((ends (a ++ b))[k]'(by omega))) with
    | true => rw [if_pos rfl]; exact ih.push hx hy hp
    | false => rw [if_neg (by decide)]; exact ih.skip hx hy hp
theorem both_spec (op : Int) (a b : List Sp) : canon (both op a b) ∧ ∀ n, memB (both op a b) n = opB op (memB a n) (memB b n) :=
  (byAt_at op a b _ (by omega)).done (by omega)
theorem both_unique (op : Int) (a b r : List Sp) (hc : canon r) (hm : ∀ n, memB r n = opB op (memB a n) (memB b n)) : r = both op a b := by
  have h := both_spec op a b
  exact canon_unique r _ hc h.1 fun n => by rw [← memB_iff, ← memB_iff, hm n, h.2 n]
/-- why not, of two sets -/
def code (op : Int) (a b : List Sp) : Int := if chk a = 0 then (if chk b = 0 then (if 64 < (both op a b).length then 2 else 0) else chk b) else chk a
/-- what comes back of two sets: the set, or nothing -/
def ans (op : Int) (a b : List Sp) : List Sp := if code op a b = 0 then both op a b else []
theorem ans_len (op : Int) (a b : List Sp) : (ans op a b).length ≤ 64 := by
  unfold ans
  by_cases h : code op a b = 0
  · rw [if_pos h]
    unfold code at h
    by_cases h1 : chk a = 0
    · rw [if_pos h1] at h
      by_cases h2 : chk b = 0
      · rw [if_pos h2] at h
        by_cases h3 : 64 < (both op a b).length
        · rw [if_pos h3] at h; cases h
        · omega
      · rw [if_neg h2] at h; exact absurd h h2
    · rw [if_neg h1] at h; exact absurd h h1
  · rw [if_neg h]; simp
/-- the set of whatever spans -/
def setOf (l : List Sp) : List Sp := if chkOf l = 0 then both 0 l [] else []
end Spn
end Go.Proofs.Ytmhmdjlongimaab
