/- The date of a day number, looked for among all; the first day of a term as a function of the start's number. -/
import Derived.Test.YtandlmnbnjkklaaDoorTrm
namespace Go.Proofs.YtandlmnbnjkklaaDoor
namespace Cal
def down : Nat → List Int
  | 0 => []
  | n + 1 => ((n + 1 : Nat) : Int) :: down n
theorem mem_down (x : Int) : ∀ n : Nat, 1 ≤ x → x ≤ n → x ∈ down n
  | 0, h1, h2 => by omega
  | n + 1, h1, h2 => by
    by_cases h : x = ((n + 1 : Nat) : Int)
    · subst h; exact .head _
    · exact .tail _ (mem_down x n h1 (by omega))
def vb (y m d : Int) : Bool := decide (1 ≤ y) && (decide (y ≤ 9999) && (decide (1 ≤ m) && (decide (m ≤ 12) && (decide (1 ≤ d) && decide (d ≤ mlen y m)))))
theorem vb_iff (y m d : Int) : vb y m d = true ↔ vld y m d := by unfold vb vld; simp
def cands : List (Int × Int × Int) := (down 9999).flatMap fun y => (down 12).flatMap fun m => (down 31).map fun d => (y, m, d)
def dt (s : Int) : Option (Int × Int × Int) := cands.find? fun t => vb t.1 t.2.1 t.2.2 && decide (num t.1 t.2.1 t.2.2 = s)
theorem mem_cands {y m d : Int} (h : vld y m d) : (y, m, d) ∈ cands := by
  have hm := mlen_bd y m
  obtain ⟨h1, h2, h3, h4, h5, h6⟩ := h
  unfold cands
  rw [List.mem_flatMap]
  refine ⟨y, mem_down y _ h1 h2, ?_⟩
  rw [List.mem_flatMap]
  refine ⟨m, mem_down m _ h3 h4, ?_⟩
  rw [List.mem_map]
  exact ⟨d, mem_down d _ h5 (by omega), rfl⟩
theorem dt_is {y m d s : Int} (h : vld y m d) (e : num y m d = s) : dt s = some (y, m, d) := by
  cases hq : dt s with
  | none =>
    unfold dt at hq
    have := List.find?_eq_none.1 hq _ (mem_cands h)
    simp only [(vb_iff y m d).2 h, e, decide_true, Bool.and_self, not_true_eq_false] at this
  | some t =>
    obtain ⟨y', m', d'⟩ := t
    unfold dt at hq
    have hp := List.find?_some hq
    simp only [Bool.and_eq_true, decide_eq_true_eq] at hp
    obtain ⟨rfl, rfl, rfl⟩ := num_inj _ _ _ _ _ _ ((vb_iff _ _ _).1 hp.1) h (hp.2.trans e.symm)
    rfl
end Cal
end Go.Proofs.YtandlmnbnjkklaaDoor
