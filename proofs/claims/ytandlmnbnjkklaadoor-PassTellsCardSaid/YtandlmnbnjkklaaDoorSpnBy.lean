/- Plain mathematics: the sweep's answer as a function, and what is told of two sets. -/
import Derived.Test.YtandlmnbnjkklaaDoorRefSpans
namespace Go.Proofs.YtandlmnbnjkklaaDoor
open Go.RowKit

namespace Spn
def byAt (op : Int) (a b : List Sp) : Nat → List Sp
  | 0 => []
  | k + 1 => match (ends (a ++ b))[k]?, (ends (a ++ b))[k + 1]? with
    | some x, some y => if opB op (memB a x) (memB b x) = true then push (byAt op a b k) x y else byAt op a b k
    | _, _ => byAt op a b k
/-- the set that an operation makes of two, in the one form -/
def both (op : Int) (a b : List Sp) : List Sp := byAt op a b ((ends (a ++ b)).length - 1)
theorem byAt_at (op : Int) (a b : List Sp) : ∀ k, k + 1 ≤ (ends (a ++ b)).length ∨ k = 0 → At (ends (a ++ b)) (fun n => opB op (memB a n) (memB b n) = true) k (byAt op a b k)
  | 0, _ => At.start a b op
  | k + 1, h => by
    have hk : k + 2 ≤ (ends (a ++ b)).length := by omega
    have ih := byAt_at op a b k (.inl (by omega))
    have hx : (ends (a ++ b))[k]? = some ((ends (a ++ b))[k]'(by omega)) := List.getElem?_eq_getElem _
    have hy : (ends (a ++ b))[k + 1]? = some ((ends (a ++ b))[k + 1]'(by omega)) := List.getElem?_eq_getElem _
    unfold byAt
    rw [hx, hy]
    dsimp only
    cases hp : opB op (memB a ((ends (a ++ b))[k]'(by omega))) (memB b ((ends (a ++ b))[k]'(by omega))) with
    | true => rw [if_pos rfl]; exact ih.push hx hy hp
    | false => rw [if_neg (by decide)]; exact ih.skip hx hy hp
theorem both_spec (op : Int) (a b : List Sp) : canon (both op a b) ∧ ∀ n, memB (both op a b) n = opB op (memB a n) (memB b n) :=
  (byAt_at op a b _ (by omega)).done (by omega)
theorem both_unique (op : Int) (a b r : List Sp) (hc : canon r) (hm : ∀ n, memB r n = opB op (memB a n) (memB b n)) : r = both op a b := by
  have h := both_spec op a b
  exact canon_unique r _ hc h.1 fun n => by rw [← memB_iff, ← memB_iff, hm n, h.2 n]
/-- why not, of two sets -/
def code (op : Int) (a b : List Sp) : Int := if chk a = 0 then (if chk b = 0 then (if 64 < (both op a b).length then 2 else 0) else chk b) else chk a
/-- what comes back of two sets: the set, or nothing -/
def ans (op : Int) (a b : List Sp) : List Sp := if code op a b = 0 then both op a b else []
theorem ans_len (op : Int) (a b : List Sp) : (ans op a b).length ≤ 64 := by
  unfold ans
  by_cases h : code op a b = 0
  · rw [if_pos h]
    unfold code at h
    by_cases h1 : chk a = 0
    · rw [if_pos h1] at h
      by_cases h2 : chk b = 0
      · rw [if_pos h2] at h
        by_cases h3 : 64 < (both op a b).length
        · rw [if_pos h3] at h; cases h
        · omega
      · rw [if_neg h2] at h; exact absurd h h2
    · rw [if_neg h1] at h; exact absurd h h1
  · rw [if_neg h]; simp
/-- the set of whatever spans -/
def setOf (l : List Sp) : List Sp := if chkOf l = 0 then both 0 l [] else []
end Spn
theorem refBoth_all (la lb : List Spn.Sp) (a b : Option Addr) (ca cb : Nat) (op : Int) (w : World) (hla : la.length ≤ maxLen) (hlb : lb.length ≤ maxLen) (hna : a = none → ca = 0 ∧ la = []) (hnb : b = none → cb = 0 ∧ lb = [])
    (hop : op = 0 ∨ op = 1 ∨ op = 2) (ra : Row2 w a la) (rb : Row2 w b lb) :
    Calls Tryd.prog 45 #[.slice a la.length ca, .slice b lb.length cb, .int .i64 op] w fun e w' => ∃ v, e = .returned (.tuple #[v, .int .i64 (Spn.code op la lb)]) ∧ OwnS w' w.heap.size v (Spn.ans op la lb) ∧ Below w.heap.size w w' := by
  by_cases h1 : Spn.chk la = 0
  · by_cases h2 : Spn.chk lb = 0
    · refine (refBoth_ok la lb a b ca cb op w hna hnb hop ra rb h1 h2).mono ?_
      rintro e w' ⟨v, r, hc, hm, hl, hr, hb⟩
      obtain rfl := Spn.both_unique op la lb r hc hm
      rcases hr with ⟨h3, rfl, own⟩ | ⟨h3, rfl⟩
      · have e0 : Spn.code op la lb = 0 := by unfold Spn.code; rw [if_pos h1, if_pos h2, if_neg (by omega)]
        exact ⟨v, by rw [e0], by unfold Spn.ans; rw [if_pos e0]; exact own, hb⟩
      · have e0 : Spn.code op la lb = 2 := by unfold Spn.code; rw [if_pos h1, if_pos h2, if_pos h3]
        exact ⟨_, by rw [e0], by unfold Spn.ans; rw [if_neg (by rw [e0]; decide)]; exact OwnS.nil _ _, hb⟩
    · refine (refBoth_errB la lb a b ca cb op w hlb ra rb h1 h2).mono ?_
      rintro e w' ⟨rfl, hb⟩
      have e0 : Spn.code op la lb = Spn.chk lb := by unfold Spn.code; rw [if_pos h1, if_neg h2]
      exact ⟨_, by rw [e0], by unfold Spn.ans; rw [if_neg (by rw [e0]; exact h2)]; exact OwnS.nil _ _, hb⟩
  · refine (refBoth_errA la lb a b ca cb op w hla ra h1).mono ?_
    rintro e w' ⟨rfl, hb⟩
    have e0 : Spn.code op la lb = Spn.chk la := by unfold Spn.code; rw [if_neg h1]
    exact ⟨_, by rw [e0], by unfold Spn.ans; rw [if_neg (by rw [e0]; exact h1)]; exact OwnS.nil _ _, hb⟩
end Go.Proofs.YtandlmnbnjkklaaDoor
