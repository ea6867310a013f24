/- The walk of the reference's sweep over the ends of two lists of spans. -/
import Derived.Test.YtmhmdjlongimaabOwnS
import Derived.Lib.QuietBelow
namespace Go.Proofs.Ytmhmdjlongimaab
open Go.RowKit Go.BigFrame

namespace Spn
def opB (op : Int) (x y : Bool) : Bool := (decide (op = 0) && (x || y)) || (decide (op = 1) && (x && y)) || (decide (op = 2) && (x && !y))
theorem opB_ff (op : Int) : opB op false false = false := by simp [opB]
/-- the sweep so far: up to the k-th end -/
def At (es : List Int) (p : Int → Prop) (k : Nat) (out : List Sp) : Prop := (es = [] ∧ out = []) ∨ ∃ x, es[k]? = some x ∧ Swept p x out
theorem At.start (a b : List Sp) (op : Int) : At (ends (a ++ b)) (fun n => opB op (memB a n) (memB b n) = true) 0 [] := by
  obtain ⟨h1, h2, h3⟩ := ends_all (a ++ b)
  cases he : ends (a ++ b) with
  | nil => exact .inl ⟨rfl, rfl⟩
  | cons x es =>
    refine .inr ⟨x, rfl, trivial, (fun s hs => by cases hs), fun n => ?_⟩
    constructor
    · intro h; exact absurd h (mem_nil n)
    · rintro ⟨hp, hn⟩
      exfalso
      have hm : mem (a ++ b) n := by
        rw [mem_append]
        cases ha : memB a n with
        | true => exact .inl ((memB_iff a n).1 ha)
        | false =>
          cases hb : memB b n with
          | true => exact .inr ((memB_iff b n).1 hb)
          | false => rw [ha, hb, opB_ff] at hp; cases hp
      obtain ⟨s, hs, s1, s2⟩ := hm
      have hx : s.1 ∈ ends (a ++ b) := (h2 s.1).2 ⟨s, hs, .inl rfl⟩
      rw [he] at hx h1
      rw [List.pairwise_cons] at h1
      rcases List.mem_cons.1 hx with e | e
      · omega
      · have := h1.1 _ e; omega
theorem still_both (a b : List Sp) (k : Nat) (x y : Int) (hx : (ends (a ++ b))[k]? = some x) (hy : (ends (a ++ b))[k + 1]? = some y) :
    x < y ∧ ∀ n, x ≤ n → n < y → memB a n = memB a x ∧ memB b n = memB b x := by
  obtain ⟨h1, h2, h3⟩ := ends_all (a ++ b)
  obtain ⟨lt, nb⟩ := none_between _ h1 k x y hx hy
  refine ⟨lt, fun n n1 n2 => ⟨?_, ?_⟩⟩
  · refine memB_still a x n n1 fun s hs => ?_
    have e1 := nb s.1 ((h2 s.1).2 ⟨s, List.mem_append_left _ hs, .inl rfl⟩)
    have e2 := nb s.2 ((h2 s.2).2 ⟨s, List.mem_append_left _ hs, .inr rfl⟩)
    omega
  · refine memB_still b x n n1 fun s hs => ?_
    have e1 := nb s.1 ((h2 s.1).2 ⟨s, List.mem_append_right _ hs, .inl rfl⟩)
    have e2 := nb s.2 ((h2 s.2).2 ⟨s, List.mem_append_right _ hs, .inr rfl⟩)
    omega
theorem At.skip {a b : List Sp} {op : Int} {k : Nat} {x y : Int} {out : List Sp} (h : At (ends (a ++ b)) (fun n => opB op (memB a n) (memB b n) = true) k out)
    (hx : (ends (a ++ b))[k]? = some x) (hy : (ends (a ++ b))[k + 1]? = some y) (hp : opB op (memB a x) (memB b x) = false) : At (ends (a ++ b)) (fun n => opB op (memB a n) (memB b n) = true) (k + 1) out := by
  obtain ⟨lt, st⟩ := still_both a b k x y hx hy
  rcases h with ⟨e, _⟩ | ⟨x', hx', hs⟩
  · rw [e] at hx; cases hx
  · obtain rfl := Option.some.inj (hx.symm.trans hx')
    exact .inr ⟨y, hy, hs.skip (by omega) fun n n1 n2 => by rw [(st n n1 n2).1, (st n n1 n2).2, hp]; decide⟩
theorem At.push {a b : List Sp} {op : Int} {k : Nat} {x y : Int} {out : List Sp} (h : At (ends (a ++ b)) (fun n => opB op (memB a n) (memB b n) = true) k out)
    (hx : (ends (a ++ b))[k]? = some x) (hy : (ends (a ++ b))[k + 1]? = some y) (hp : opB op (memB a x) (memB b x) = true) : At (ends (a ++ b)) (fun n => opB op (memB a n) (memB b n) = true) (k + 1) (push out x y) := by
  obtain ⟨lt, st⟩ := still_both a b k x y hx hy
  rcases h with ⟨e, _⟩ | ⟨x', hx', hs⟩
  · rw [e] at hx; cases hx
  · obtain rfl := Option.some.inj (hx.symm.trans hx')
    exact .inr ⟨y, hy, hs.push lt fun n n1 n2 => by show opB op (memB a n) (memB b n) = true; rw [(st n n1 n2).1, (st n n1 n2).2, hp]⟩
theorem At.done {a b : List Sp} {op : Int} {k : Nat} {out : List Sp} (h : At (ends (a ++ b)) (fun n => opB op (memB a n) (memB b n) = true) k out) (hk : (ends (a ++ b)).length ≤ k + 1) :
    canon out ∧ ∀ n, memB out n = opB op (memB a n) (memB b n) := by
  obtain ⟨h1, h2, h3⟩ := ends_all (a ++ b)
  have hin : ∀ n, opB op (memB a n) (memB b n) = true → mem (a ++ b) n := by
    intro n hp
    rw [mem_append]
    cases ha : memB a n with
    | true => exact .inl ((memB_iff a n).1 ha)
    | false =>
      cases hb : memB b n with
      | true => exact .inr ((memB_iff b n).1 hb)
      | false => rw [ha, hb, opB_ff] at hp; cases hp
  rcases h with ⟨e, rfl⟩ | ⟨x, hx, hs⟩
  · refine ⟨trivial, fun n => ?_⟩
    cases hp : opB op (memB a n) (memB b n) with
    | false => rfl
    | true =>
      obtain ⟨s, hs, _⟩ := hin n hp
      have := (h2 s.1).2 ⟨s, hs, .inl rfl⟩
      rw [e] at this; cases this
  · refine ⟨hs.canon, fun n => ?_⟩
    rw [Bool.eq_iff_iff, memB_iff, hs.mem n]
    constructor
    · exact fun h => h.1
    · intro hp
      refine ⟨hp, ?_⟩
      obtain ⟨s, hs', s1, s2⟩ := hin n hp
      have hm := (h2 s.2).2 ⟨s, hs', .inr rfl⟩
      obtain ⟨i, hi, he⟩ := List.getElem_of_mem hm
      have hkl : k < (ends (a ++ b)).length := by
        rcases Nat.lt_or_ge k (ends (a ++ b)).length with c | c
        · exact c
        · rw [List.getElem?_eq_none c] at hx; cases hx
      rw [List.getElem?_eq_getElem hkl] at hx
      have ex := Option.some.inj hx
      rcases Nat.lt_or_ge i k with c | c
      · have := List.pairwise_iff_getElem.1 h1 i k hi hkl c
        rw [he, ex] at this; omega
      · have : i = k := by omega
        subst this
        rw [he] at ex; omega
theorem push_nil (x y : Int) : push [] x y = [(x, y)] := rfl
theorem push_same (l : List Sp) (s : Sp) (x y : Int) (h : s.2 = x) : push (l ++ [s]) x y = l ++ [(s.1, y)] := by
  unfold push; rw [List.getLast?_append]; simp [h]
theorem push_other (l : List Sp) (s : Sp) (x y : Int) (h : ¬ s.2 = x) : push (l ++ [s]) x y = (l ++ [s]) ++ [(x, y)] := by
  unfold push; rw [List.getLast?_append]; simp [h]
theorem push_len (l : List Sp) (x y : Int) : (push l x y).length ≤ l.length + 1 := by
  rcases List.eq_nil_or_concat l with rfl | ⟨l, s, rfl⟩
  · simp [push_nil]
  · rw [List.concat_eq_append]
    by_cases h : s.2 = x
    · rw [push_same l s x y h]; simp
    · rw [push_other l s x y h]; simp
end Spn
end Go.Proofs.Ytmhmdjlongimaab
