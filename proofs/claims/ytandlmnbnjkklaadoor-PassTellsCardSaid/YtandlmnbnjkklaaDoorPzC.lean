/- Plain mathematics of passes: what a cut takes off. -/
import Derived.Test.YtandlmnbnjkklaaDoorPz
namespace Go.Proofs.YtandlmnbnjkklaaDoor
namespace Pz
def lowS (n : Int) (s : Spn.Sp) : Int := if n < s.1 then s.1 else n
def restS (n : Int) (s : Spn.Sp) : List Spn.Sp := if lowS n s < s.2 then [(lowS n s, s.2)] else []
def restL (l : List Spn.Sp) (n : Int) : List Spn.Sp := l.flatMap (restS n)
theorem rest_cons (s : Spn.Sp) (l : List Spn.Sp) (n : Int) : restL (s :: l) n = restS n s ++ restL l n := by unfold restL; rw [List.flatMap_cons]
theorem low_is (n : Int) (s : Spn.Sp) : (n < s.1 ∧ lowS n s = s.1) ∨ (s.1 ≤ n ∧ lowS n s = n) := by
  unfold lowS
  by_cases c : n < s.1
  · rw [if_pos c]; exact .inl ⟨c, rfl⟩
  · rw [if_neg c]; exact .inr ⟨by omega, rfl⟩
theorem rest_mem (l : List Spn.Sp) (n k : Int) : Spn.memB (restL l n) k = (Spn.memB l k && decide (n ≤ k)) := by
  induction l with
  | nil => rfl
  | cons s l ih =>
    have e2 : Spn.memB (restS n s ++ restL l n) k = (Spn.memB (restS n s) k || Spn.memB (restL l n) k) := by unfold Spn.memB; rw [List.any_append]
    rw [rest_cons, e2, ih, Spn.memB_cons, Bool.and_or_distrib_right]
    congr 1
    unfold restS
    by_cases c : lowS n s < s.2
    · rw [if_pos c]
      show ((decide (lowS n s ≤ k) && decide (k < s.2)) || false) = _
      rw [Bool.or_false, Bool.eq_iff_iff]
      simp
      rcases low_is n s with h | h <;> omega
    · rw [if_neg c]
      show false = _
      symm
      rw [Bool.eq_false_iff]
      simp
      rcases low_is n s with h | h <;> omega
theorem rest_len (n : Int) : ∀ l : List Spn.Sp, (restL l n).length ≤ l.length
  | [] => Nat.le_refl _
  | s :: l => by
    have h1 := rest_len n l
    have h2 : (restS n s).length ≤ 1 := by
      unfold restS
      split
      · exact Nat.le_refl _
      · exact Nat.zero_le _
    rw [rest_cons, List.length_append, List.length_cons]; omega
theorem rest_from (n : Int) : ∀ (l : List Spn.Sp) (lo : Int), Spn.canonFrom lo l → Spn.canonFrom lo (restL l n)
  | [], _, _ => trivial
  | s :: l, lo, h => by
    obtain ⟨h1, h2, h3⟩ := h
    have ih := rest_from n l s.2 h3
    rw [rest_cons]
    unfold restS
    by_cases c : lowS n s < s.2
    · rw [if_pos c]
      exact ⟨by show lo < lowS n s; rcases low_is n s with h | h <;> omega, c, ih⟩
    · rw [if_neg c]
      exact Spn.canonFrom_mono _ _ _ (by omega) ih
theorem rest_canon (l : List Spn.Sp) (n : Int) (h : Spn.canon l) : Spn.canon (restL l n) := by
  obtain ⟨lo, h⟩ := (Spn.canon_iff l).1 h
  exact (Spn.canon_iff _).2 ⟨lo, rest_from n l lo h⟩
theorem rest_in {l : List Spn.Sp} {n : Int} {s : Spn.Sp} (h : s ∈ restL l n) : ∃ t ∈ l, t.1 ≤ s.1 ∧ s.1 < s.2 ∧ s.2 = t.2 := by
  unfold restL at h
  rw [List.mem_flatMap] at h
  obtain ⟨t, ht, hs⟩ := h
  refine ⟨t, ht, ?_⟩
  unfold restS at hs
  by_cases c : lowS n t < t.2
  · rw [if_pos c, List.mem_singleton] at hs
    subst hs
    exact ⟨by show t.1 ≤ lowS n t; rcases low_is n t with h | h <;> omega, c, rfl⟩
  · rw [if_neg c] at hs; cases hs
theorem rest_chk {p : Pq} (h : Ok p) (n : Int) : Spn.chk (restL p.days n) = 0 := by
  obtain ⟨h1, _, h3⟩ := (Spn.chk_zero _).1 h.sp
  refine (Spn.chk_zero _).2 ⟨Nat.le_trans (rest_len n _) h1, fun s hs => ?_, rest_canon _ n h3⟩
  obtain ⟨t, ht, a, b, c⟩ := rest_in hs
  have := h.ins t ht
  exact ⟨far_no _ (by omega) (by omega), far_no _ (by omega) (by omega)⟩
theorem mem_in {p : Pq} (h : Ok p) {k : Int} (hk : Spn.memB p.days k = true) : 1 ≤ k ∧ k < 3652059 := by
  obtain ⟨s, hs, h1, h2⟩ := (Spn.memB_iff _ _).1 hk
  have := h.ins s hs
  omega
theorem off_chk {n : Int} (h1 : 1 ≤ n) (h2 : n ≤ 3652059) : Spn.chk [(n, 3652060)] = 0 :=
  (Spn.chk_zero _).2 ⟨by simp, fun s hs => by rw [List.mem_singleton] at hs; subst hs; exact ⟨far_no _ (by simp only; omega) (by simp only; omega), far_no _ (by simp only; omega) (by simp only; omega)⟩, show n < 3652060 by omega, trivial⟩
theorem off_mem (n k : Int) : Spn.memB [(n, 3652060)] k = (decide (n ≤ k) && decide (k < 3652060)) := by unfold Spn.memB; simp
theorem cut_parts {p : Pq} (h : Ok p) {n : Int} (h1 : 1 ≤ n) (h2 : n ≤ 3652059) :
    (Spn.code 1 p.days [(n, 3652060)] = 0 ∧ Spn.ans 1 p.days [(n, 3652060)] = restL p.days n) ∧ (Spn.code 2 p.days [(n, 3652060)] = 0 ∧ Spn.ans 2 p.days [(n, 3652060)] = cutL p.days n) ∧
    Spn.chk (restL p.days n) = 0 ∧ Spn.size (restL p.days n) = Spn.size p.days - Spn.size (cutL p.days n) := by
  obtain ⟨k1, _, k3⟩ := (Spn.chk_zero _).1 h.sp
  have u1 : restL p.days n = Spn.both 1 p.days [(n, 3652060)] := Spn.both_unique 1 _ _ _ (rest_canon _ n k3) (fun k => by
    rw [rest_mem, off_mem]
    have e : Spn.opB 1 (Spn.memB p.days k) (decide (n ≤ k) && decide (k < 3652060)) = (Spn.memB p.days k && (decide (n ≤ k) && decide (k < 3652060))) := by unfold Spn.opB; simp
    rw [e]
    cases hm : Spn.memB p.days k with
    | false => rfl
    | true =>
      have := mem_in h hm
      rw [decide_eq_true (show k < 3652060 by omega), Bool.and_true])
  have u2 : cutL p.days n = Spn.both 2 p.days [(n, 3652060)] := Spn.both_unique 2 _ _ _ (cut_canon _ n k3) (fun k => by
    rw [cut_mem, off_mem]
    have e : Spn.opB 2 (Spn.memB p.days k) (decide (n ≤ k) && decide (k < 3652060)) = (Spn.memB p.days k && !(decide (n ≤ k) && decide (k < 3652060))) := by unfold Spn.opB; simp
    rw [e]
    cases hm : Spn.memB p.days k with
    | false => rfl
    | true =>
      have := mem_in h hm
      rw [decide_eq_true (show k < 3652060 by omega), Bool.and_true, Bool.true_and, Bool.true_and, Bool.eq_iff_iff]
      simp)
  have c1 : Spn.code 1 p.days [(n, 3652060)] = 0 := by
    unfold Spn.code
    rw [if_pos h.sp, if_pos (off_chk h1 h2), ← u1, if_neg (by have := rest_len n p.days; omega)]
  have c2 : Spn.code 2 p.days [(n, 3652060)] = 0 := by
    unfold Spn.code
    rw [if_pos h.sp, if_pos (off_chk h1 h2), ← u2, if_neg (by have := cut_len n p.days; omega)]
  refine ⟨⟨c1, ?_⟩, ⟨c2, ?_⟩, rest_chk h n, ?_⟩
  · unfold Spn.ans; rw [if_pos c1, u1]
  · unfold Spn.ans; rw [if_pos c2, u2]
  · have := Spn.size_pair (restL p.days n) (cutL p.days n) p.days [] (rest_chk h n) (cut_ok h n).sp h.sp (by decide) (fun k => by
      rw [rest_mem, cut_mem]
      have e0 : Spn.memB [] k = false := rfl
      rw [e0]
      cases hm : Spn.memB p.days k with
      | false => rfl
      | true =>
        by_cases c : n ≤ k
        · have : ¬ k < n := by omega
          simp [c, this]
        · have : k < n := by omega
          simp [c, this])
    have e1 : Spn.size [] = 0 := rfl
    rw [e1] at this
    omega
end Pz
end Go.Proofs.YtandlmnbnjkklaaDoor
