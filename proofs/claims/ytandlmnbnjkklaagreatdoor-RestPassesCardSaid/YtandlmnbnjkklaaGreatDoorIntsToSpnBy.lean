/- Walks over slices of whole numbers: read, and built by append. The walk of the reference's ends of spans. Plain mathematics of the ends of spans: rising, each once; between two neighbours nothing turns. The walk of the reference's sweep over the ends of two lists of spans. The reference's entry points on sets of days: the sweep's answer, or why not. Plain mathematics: the sweep's answer as a function, and what is told of two sets. -/
import Derived.Test.YtandlmnbnjkklaaGreatDoorBaseToAppAll
import Derived.Deep.RegionHeld3
import Derived.Test.YtandlmnbnjkklaaGreatDoorOwnS
import Derived.Lib.QuietBelow
namespace Go.Proofs.YtandlmnbnjkklaaGreatDoor
open Go.RowKit

namespace Spn
def insStep (n : Int) (s : List Int × Bool) (x : Int) : List Int × Bool :=
  ((if s.2 = false ∧ n ≤ x then s.1 ++ [n] else s.1) ++ (if x = n then [] else [x]), s.2 || decide (n ≤ x))
def insAt (l : List Int) (n : Int) (k : Nat) : List Int × Bool := (l.take k).foldl (insStep n) ([], false)
/-- a rising list with a number, once -/
def ins (l : List Int) (n : Int) : List Int := if (insAt l n l.length).2 = true then (insAt l n l.length).1 else (insAt l n l.length).1 ++ [n]
theorem insAt_succ (l : List Int) (n : Int) (k : Nat) (x : Int) (h : l[k]? = some x) : insAt l n (k + 1) = insStep n (insAt l n k) x := by
  unfold insAt; rw [List.take_add_one, h, List.foldl_append]; rfl
theorem insStep_len (n : Int) (s : List Int × Bool) (x : Int) : (insStep n s x).1.length ≤ s.1.length + 2 := by
  unfold insStep; split <;> split <;> simp
theorem insAt_len (l : List Int) (n : Int) : ∀ k, (insAt l n k).1.length ≤ 2 * k
  | 0 => by simp [insAt]
  | k + 1 => by
    have ih := insAt_len l n k
    cases h : l[k]? with
    | none =>
      have : insAt l n (k + 1) = insAt l n k := by unfold insAt; rw [List.take_add_one, h]; simp
      rw [this]; omega
    | some x =>
      rw [insAt_succ l n k x h]
      have := insStep_len n (insAt l n k) x; omega
end Spn
end Go.Proofs.YtandlmnbnjkklaaGreatDoor
namespace Go.Proofs.YtandlmnbnjkklaaGreatDoor
open Go.RowKit

namespace Spn
/-- the ends of spans, rising, each once -/
def ends (l : List Sp) : List Int := l.foldl (fun o s => ins (ins o s.1) s.2) []
theorem ends_succ (l : List Sp) (k : Nat) (x y : Int) (h : l[k]? = some (x, y)) : ends (l.take (k + 1)) = ins (ins (ends (l.take k)) x) y := by
  unfold ends; rw [take_succ_of l k x y h, List.foldl_append]; rfl
theorem ins_len (l : List Int) (n : Int) : (ins l n).length ≤ 2 * l.length + 1 := by
  have := insAt_len l n l.length
  unfold ins; split <;> simp <;> omega
end Spn
end Go.Proofs.YtandlmnbnjkklaaGreatDoor
namespace Go.Proofs.YtandlmnbnjkklaaGreatDoor
namespace Spn
def insR (n : Int) : List Int → List Int
  | [] => [n]
  | x :: l => if n < x then n :: x :: l else if n = x then x :: l else x :: insR n l
theorem fold_true (n : Int) : ∀ (l : List Int) (out : List Int), l.foldl (insStep n) (out, true) = (out ++ l.filter (fun x => !decide (x = n)), true)
  | [], out => by simp
  | x :: l, out => by
    have e : insStep n (out, true) x = (out ++ (if x = n then [] else [x]), true) := by simp [insStep]
    rw [List.foldl_cons, e, fold_true n l]
    by_cases h : x = n <;> simp [h]
theorem fold_false (n : Int) : ∀ (l : List Int) (out : List Int), l.Pairwise (· < ·) →
    (if (l.foldl (insStep n) (out, false)).2 = true then (l.foldl (insStep n) (out, false)).1 else (l.foldl (insStep n) (out, false)).1 ++ [n]) = out ++ insR n l
  | [], out, _ => by simp [insR]
  | x :: l, out, h => by
    rw [List.pairwise_cons] at h
    by_cases c : n ≤ x
    · have e : insStep n (out, false) x = (out ++ [n] ++ (if x = n then [] else [x]), true) := by simp [insStep, c]
      have ef : l.filter (fun y => !decide (y = n)) = l := by
        rw [List.filter_eq_self]
        intro y hy
        have := h.1 y hy
        simp; omega
      rw [List.foldl_cons, e, fold_true n l]
      simp only [if_true, ef]
      by_cases d : x = n
      · subst d; simp [insR]
      · have : n < x := by omega
        simp [insR, d, this]
    · have e : insStep n (out, false) x = (out ++ [x], false) := by
        have : ¬ x = n := by omega
        simp [insStep, c, this]
      have ih := fold_false n l (out ++ [x]) h.2
      rw [List.foldl_cons, e, ih]
      have d1 : ¬ n < x := by omega
      have d2 : ¬ n = x := by omega
      simp [insR, d1, d2]
theorem ins_eq (l : List Int) (n : Int) (h : l.Pairwise (· < ·)) : ins l n = insR n l := by
  have := fold_false n l [] h
  unfold ins insAt
  rw [List.take_length]
  simpa using this
theorem insR_mem (n : Int) : ∀ (l : List Int) (x : Int), x ∈ insR n l ↔ x = n ∨ x ∈ l
  | [], x => by simp [insR]
  | y :: l, x => by
    unfold insR
    by_cases c : n < y
    · rw [if_pos c]; simp
    · rw [if_neg c]
      by_cases d : n = y
      · rw [if_pos d]; subst d; simp
      · rw [if_neg d, List.mem_cons, List.mem_cons, insR_mem n l]
        constructor
        · rintro (a | a | a)
          · exact .inr (.inl a)
          · exact .inl a
          · exact .inr (.inr a)
        · rintro (a | a | a)
          · exact .inr (.inl a)
          · exact .inl a
          · exact .inr (.inr a)
theorem insR_sorted (n : Int) : ∀ (l : List Int), l.Pairwise (· < ·) → (insR n l).Pairwise (· < ·)
  | [], _ => by simp [insR]
  | y :: l, h => by
    rw [List.pairwise_cons] at h
    unfold insR
    by_cases c : n < y
    · rw [if_pos c, List.pairwise_cons, List.pairwise_cons]
      refine ⟨?_, h⟩
      intro x hx
      rcases List.mem_cons.1 hx with rfl | hx
      · exact c
      · have := h.1 x hx; omega
    · rw [if_neg c]
      by_cases d : n = y
      · rw [if_pos d, List.pairwise_cons]; exact h
      · rw [if_neg d, List.pairwise_cons]
        refine ⟨?_, insR_sorted n l h.2⟩
        intro x hx
        rcases (insR_mem n l x).1 hx with rfl | hx
        · omega
        · exact h.1 x hx
theorem insR_len (n : Int) : ∀ (l : List Int), (insR n l).length ≤ l.length + 1
  | [] => by simp [insR]
  | y :: l => by
    have := insR_len n l
    unfold insR; split
    · simp
    · split <;> simp <;> omega
theorem ends_all (l : List Sp) : (ends l).Pairwise (· < ·) ∧ (∀ x, x ∈ ends l ↔ ∃ s ∈ l, x = s.1 ∨ x = s.2) ∧ (ends l).length ≤ 2 * l.length := by
  have key : ∀ (l : List Sp) (o : List Int), o.Pairwise (· < ·) → (l.foldl (fun o s => ins (ins o s.1) s.2) o).Pairwise (· < ·) ∧ (∀ x, x ∈ l.foldl (fun o s => ins (ins o s.1) s.2) o ↔ x ∈ o ∨ ∃ s ∈ l, x = s.1 ∨ x = s.2) ∧ (l.foldl (fun o s => ins (ins o s.1) s.2) o).length ≤ o.length + 2 * l.length := by
    intro l
    induction l with
    | nil => intro o h; exact ⟨h, fun x => by simp, by simp⟩
    | cons s l ih =>
      intro o h
      have s1 : (ins o s.1).Pairwise (· < ·) := by rw [ins_eq o s.1 h]; exact insR_sorted s.1 o h
      have s2 : (ins (ins o s.1) s.2).Pairwise (· < ·) := by rw [ins_eq _ s.2 s1]; exact insR_sorted s.2 _ s1
      obtain ⟨a, b, c⟩ := ih _ s2
      refine ⟨a, fun x => ?_, ?_⟩
      · rw [List.foldl_cons, b, ins_eq _ s.2 s1, insR_mem, ins_eq o s.1 h, insR_mem]
        simp only [List.mem_cons, exists_eq_or_imp]
        constructor
        · rintro ((h | h | h) | h)
          · exact .inr (.inl (.inr h))
          · exact .inr (.inl (.inl h))
          · exact .inl h
          · exact .inr (.inr h)
        · rintro (h | (h | h) | h)
          · exact .inl (.inr (.inr h))
          · exact .inl (.inr (.inl h))
          · exact .inl (.inl h)
          · exact .inr h
      · rw [List.foldl_cons]
        have l1 := insR_len s.1 o
        have l2 := insR_len s.2 (ins o s.1)
        rw [← ins_eq o s.1 h] at l1
        rw [← ins_eq _ s.2 s1] at l2
        simp only [List.length_cons]
        omega
  have k := key l [] List.Pairwise.nil
  refine ⟨k.1, fun x => ?_, ?_⟩
  · have := k.2.1 x; simpa [ends] using this
  · have := k.2.2; simpa [ends] using this
theorem ins_ends_len (l : List Sp) (x : Int) : (ins (ends l) x).length ≤ 2 * l.length + 1 := by
  have h := ends_all l
  rw [ins_eq _ _ h.1]
  have := insR_len x (ends l)
  omega
/-- where no end lies between, nothing turns -/
theorem mem_still (l : List Sp) (e n : Int) (hen : e ≤ n) (h : ∀ s ∈ l, ¬ (e < s.1 ∧ s.1 ≤ n) ∧ ¬ (e < s.2 ∧ s.2 ≤ n)) : mem l n ↔ mem l e := by
  constructor
  · rintro ⟨s, hs, h1, h2⟩
    have := h s hs
    exact ⟨s, hs, by omega, by omega⟩
  · rintro ⟨s, hs, h1, h2⟩
    have := h s hs
    exact ⟨s, hs, by omega, by omega⟩
theorem memB_still (l : List Sp) (e n : Int) (hen : e ≤ n) (h : ∀ s ∈ l, ¬ (e < s.1 ∧ s.1 ≤ n) ∧ ¬ (e < s.2 ∧ s.2 ≤ n)) : memB l n = memB l e := by
  rw [Bool.eq_iff_iff, memB_iff, memB_iff]; exact mem_still l e n hen h
/-- neighbours of a rising list: no member lies between -/
theorem none_between (es : List Int) (hs : es.Pairwise (· < ·)) (k : Nat) (x y : Int) (hx : es[k]? = some x) (hy : es[k + 1]? = some y) : x < y ∧ ∀ z ∈ es, z ≤ x ∨ y ≤ z := by
  have hk1 : k + 1 < es.length := by
    rcases Nat.lt_or_ge (k + 1) es.length with c | c
    · exact c
    · rw [List.getElem?_eq_none c] at hy; cases hy
  rw [List.getElem?_eq_getElem (by omega)] at hx
  rw [List.getElem?_eq_getElem hk1] at hy
  have ex := Option.some.inj hx
  have ey := Option.some.inj hy
  have lt : ∀ i j (hi : i < es.length) (hj : j < es.length), i < j → es[i] < es[j] := fun i j hi hj h => List.pairwise_iff_getElem.1 hs i j hi hj h
  refine ⟨by rw [← ex, ← ey]; exact lt k (k + 1) _ _ (by omega), ?_⟩
  intro z hz
  obtain ⟨i, hi, rfl⟩ := List.getElem_of_mem hz
  rcases Nat.lt_trichotomy i k with c | c | c
  · left; have := lt i k hi (by omega) c; omega
  · left; subst c; omega
  · right
    by_cases d : i = k + 1
    · subst d; omega
    · have := lt (k + 1) i hk1 hi (by omega); omega
end Spn
end Go.Proofs.YtandlmnbnjkklaaGreatDoor
namespace Go.Proofs.YtandlmnbnjkklaaGreatDoor
open Go.RowKit Go.BigFrame

namespace Spn
def opB (op : Int) (x y : Bool) : Bool := (decide (op = 0) && (x || y)) || (decide (op = 1) && (x && y)) || (decide (op = 2) && (x && !y))
theorem opB_ff (op : Int) : opB op false false = false := by simp [opB]
/-- the sweep so far: up to the k-th end -/
def At (es : List Int) (p : Int → Prop) (k : Nat) (out : List Sp) : Prop := (es = [] ∧ out = []) ∨ ∃ x, es[k]? = some x ∧ Swept p x out
theorem At.start (a b : List Sp) (op : Int) : At (ends (a ++ b)) (fun n => opB op (memB a n) (memB b n) = true) 0 [] := by
  obtain ⟨h1, h2, h3⟩ := ends_all (a ++ b)
  cases he : ends (a ++ b) with
  | nil => exact .inl ⟨rfl, rfl⟩
  | cons x es =>
    refine .inr ⟨x, rfl, trivial, (fun s hs => by cases hs), fun n => ?_⟩
    constructor
    · intro h; exact absurd h (mem_nil n)
    · rintro ⟨hp, hn⟩
      exfalso
      have hm : mem (a ++ b) n := by
        rw [mem_append]
        cases ha : memB a n with
        | true => exact .inl ((memB_iff a n).1 ha)
        | false =>
          cases hb : memB b n with
          | true => exact .inr ((memB_iff b n).1 hb)
          | false => rw [ha, hb, opB_ff] at hp; cases hp
      obtain ⟨s, hs, s1, s2⟩ := hm
      have hx : s.1 ∈ ends (a ++ b) := (h2 s.1).2 ⟨s, hs, .inl rfl⟩
      rw [he] at hx h1
      rw [List.pairwise_cons] at h1
      rcases List.mem_cons.1 hx with e | e
      · omega
      · have := h1.1 _ e; omega
theorem still_both (a b : List Sp) (k : Nat) (x y : Int) (hx : (ends (a ++ b))[k]? = some x) (hy : (ends (a ++ b))[k + 1]? = some y) :
    x < y ∧ ∀ n, x ≤ n → n < y → memB a n = memB a x ∧ memB b n = memB b x := by
  obtain ⟨h1, h2, h3⟩ := ends_all (a ++ b)
  obtain ⟨lt, nb⟩ := none_between _ h1 k x y hx hy
  refine ⟨lt, fun n n1 n2 => ⟨?_, ?_⟩⟩
  · refine memB_still a x n n1 fun s hs => ?_
    have e1 := nb s.1 ((h2 s.1).2 ⟨s, List.mem_append_left _ hs, .inl rfl⟩)
    have e2 := nb s.2 ((h2 s.2).2 ⟨s, List.mem_append_left _ hs, .inr rfl⟩)
    omega
  · refine memB_still b x n n1 fun s hs => ?_
    have e1 := nb s.1 ((h2 s.1).2 ⟨s, List.mem_append_right _ hs, .inl rfl⟩)
    have e2 := nb s.2 ((h2 s.2).2 ⟨s, List.mem_append_right _ hs, .inr rfl⟩)
    omega
theorem At.skip {a b : List Sp} {op : Int} {k : Nat} {x y : Int} {out : List Sp} (h : At (ends (a ++ b)) (fun n => opB op (memB a n) (memB b n) = true) k out)
    (hx : (ends (a ++ b))[k]? = some x) (hy : (ends (a ++ b))[k + 1]? = some y) (hp : opB op (memB a x) (memB b x) = false) : At (ends (a ++ b)) (fun n => opB op (memB a n) (memB b n) = true) (k + 1) out := by
  obtain ⟨lt, st⟩ := still_both a b k x y hx hy
  rcases h with ⟨e, _⟩ | ⟨x', hx', hs⟩
  · rw [e] at hx; cases hx
  · obtain rfl := Option.some.inj (hx.symm.trans hx')
    exact .inr ⟨y, hy, hs.skip (by omega) fun n n1 n2 => by rw [(st n n1 n2).1, (st n n1 n2).2, hp]; decide⟩
theorem At.push {a b : List Sp} {op : Int} {k : Nat} {x y : Int} {out : List Sp} (h : At (ends (a ++ b)) (fun n => opB op (memB a n) (memB b n) = true) k out)
    (hx : (ends (a ++ b))[k]? = some x) (hy : (ends (a ++ b))[k + 1]? = some y) (hp : opB op (memB a x) (memB b x) = true) : At (ends (a ++ b)) (fun n => opB op (memB a n) (memB b n) = true) (k + 1) (push out x y) := by
  obtain ⟨lt, st⟩ := still_both a b k x y hx hy
  rcases h with ⟨e, _⟩ | ⟨x', hx', hs⟩
  · rw [e] at hx; cases hx
  · obtain rfl := Option.some.inj (hx.symm.trans hx')
    exact .inr ⟨y, hy, hs.push lt fun n n1 n2 => by show opB op (memB a n) (memB b n) = true; rw [(st n n1 n2).1, (st n n1 n2).2, hp]⟩
theorem At.done {a b : List Sp} {op : Int} {k : Nat} {out : List Sp} (h : At (ends (a ++ b)) (fun n => opB op (memB a n) (memB b n) = true) k out) (hk : (ends (a ++ b)).length ≤ k + 1) :
    canon out ∧ ∀ n, memB out n = opB op (memB a n) (memB b n) := by
  obtain ⟨h1, h2, h3⟩ := ends_all (a ++ b)
  have hin : ∀ n, opB op (memB a n) (memB b n) = true → mem (a ++ b) n := by
    intro n hp
    rw [mem_append]
    cases ha : memB a n with
    | true => exact .inl ((memB_iff a n).1 ha)
    | false =>
      cases hb : memB b n with
      | true => exact .inr ((memB_iff b n).1 hb)
      | false => rw [ha, hb, opB_ff] at hp; cases hp
  rcases h with ⟨e, rfl⟩ | ⟨x, hx, hs⟩
  · refine ⟨trivial, fun n => ?_⟩
    cases hp : opB op (memB a n) (memB b n) with
    | false => rfl
    | true =>
      obtain ⟨s, hs, _⟩ := hin n hp
      have := (h2 s.1).2 ⟨s, hs, .inl rfl⟩
      rw [e] at this; cases this
  · refine ⟨hs.canon, fun n => ?_⟩
    rw [Bool.eq_iff_iff, memB_iff, hs.mem n]
    constructor
    · exact fun h => h.1
    · intro hp
      refine ⟨hp, ?_⟩
      obtain ⟨s, hs', s1, s2⟩ := hin n hp
      have hm := (h2 s.2).2 ⟨s, hs', .inr rfl⟩
      obtain ⟨i, hi, he⟩ := List.getElem_of_mem hm
      have hkl : k < (ends (a ++ b)).length := by
        rcases Nat.lt_or_ge k (ends (a ++ b)).length with c | c
        · exact c
        · rw [List.getElem?_eq_none c] at hx; cases hx
      rw [List.getElem?_eq_getElem hkl] at hx
      have ex := Option.some.inj hx
      rcases Nat.lt_or_ge i k with c | c
      · have := List.pairwise_iff_getElem.1 h1 i k hi hkl c
        rw [he, ex] at this; omega
      · have : i = k := by omega
        subst this
        rw [he] at ex; omega
theorem push_nil (x y : Int) : push [] x y = [(x, y)] := rfl
theorem push_same (l : List Sp) (s : Sp) (x y : Int) (h : s.2 = x) : push (l ++ [s]) x y = l ++ [(s.1, y)] := by
  unfold push; rw [List.getLast?_append]; simp [h]
theorem push_other (l : List Sp) (s : Sp) (x y : Int) (h : ¬ s.2 = x) : push (l ++ [s]) x y = (l ++ [s]) ++ [(x, y)] := by
  unfold push; rw [List.getLast?_append]; simp [h]
theorem push_len (l : List Sp) (x y : Int) : (push l x y).length ≤ l.length + 1 := by
  rcases List.eq_nil_or_concat l with rfl | ⟨l, s, rfl⟩
  · simp [push_nil]
  · rw [List.concat_eq_append]
    by_cases h : s.2 = x
    · rw [push_same l s x y h]; simp
    · rw [push_other l s x y h]; simp
end Spn
end Go.Proofs.YtandlmnbnjkklaaGreatDoor
namespace Go.Proofs.YtandlmnbnjkklaaGreatDoor
open Go.RowKit Go.BigFrame

namespace Spn
/-- the look over spans that may stand however they like -/
def chkO : List Sp → Int
  | [] => 0
  | s :: l => if (far s.1 || far s.2) = true then 3 else if s.2 < s.1 then 1 else chkO l
def chkOf (l : List Sp) : Int := if 64 < l.length then 2 else chkO l
theorem chkO_end (l : List Sp) (k : Nat) (h : l.length ≤ k) : chkO (l.drop k) = 0 := by rw [List.drop_eq_nil_of_le h]; rfl
theorem drop_at (l : List Sp) (k : Nat) (x y : Int) (h : l[k]? = some (x, y)) : l.drop k = (x, y) :: l.drop (k + 1) := by
  have hk : k < l.length := by
    rcases Nat.lt_or_ge k l.length with c | c
    · exact c
    · rw [List.getElem?_eq_none c] at h; cases h
  rw [List.drop_eq_getElem_cons hk]
  rw [List.getElem?_eq_getElem hk] at h
  rw [Option.some.inj h]
theorem chkO_succ (l : List Sp) (k : Nat) (x y : Int) (h : l[k]? = some (x, y)) : chkO (l.drop k) = if (far x || far y) = true then 3 else if y < x then 1 else chkO (l.drop (k + 1)) := by
  rw [drop_at l k x y h]; rfl
theorem size_take (l : List Sp) (k : Nat) (x y : Int) (h : l[k]? = some (x, y)) : size (l.drop k) = (y - x) + size (l.drop (k + 1)) := by
  rw [drop_at l k x y h]; rfl
theorem far_bd (n : Int) (h : far n = false) : -1099511627776 ≤ n ∧ n ≤ 1099511627776 := by
  simp [far] at h; omega
theorem size_bd : ∀ (l : List Sp), (∀ s ∈ l, far s.1 = false ∧ far s.2 = false ∧ s.1 ≤ s.2) → 0 ≤ size l ∧ size l ≤ 2199023255552 * l.length
  | [], _ => by simp [size]
  | s :: l, h => by
    have ih := size_bd l (fun t ht => h t (List.mem_cons_of_mem _ ht))
    have hs := h s List.mem_cons_self
    have b1 := far_bd s.1 hs.1
    have b2 := far_bd s.2 hs.2.1
    simp only [size, List.length_cons]
    omega
end Spn
end Go.Proofs.YtandlmnbnjkklaaGreatDoor
namespace Go.Proofs.YtandlmnbnjkklaaGreatDoor
open Go.RowKit

namespace Spn
def byAt (op : Int) (a b : List Sp) : Nat → List Sp
  | 0 => []
  | k + 1 => match (ends (a ++ b))[k]?, (ends (a ++ b))[k + 1]? with
    | some x, some y => if opB op (memB a x) (memB b x) = true then push (byAt op a b k) x y else byAt op a b k
    | _, _ => byAt op a b k
/-- the set that an operation makes of two, in the one form -/
def both (op : Int) (a b : List Sp) : List Sp := byAt op a b ((ends (a ++ b)).length - 1)
theorem byAt_at (op : Int) (a b : List Sp) : ∀ k, k + 1 ≤ (ends (a ++ b)).length ∨ k = 0 → At (ends (a ++ b)) (fun n => opB op (memB a n) (memB b n) = true) k (byAt op a b k)
  | 0, _ => At.start a b op
  | k + 1, h => by
    have hk : k + 2 ≤ (ends (a ++ b)).length := by omega
    have ih := byAt_at op a b k (.inl (by omega))
    have hx : (ends (a ++ b))[k]? = some ((ends (a ++ b))[k]'(by omega)) := List.getElem?_eq_getElem _
    have hy : (ends (a ++ b))[k + 1]? = some ((ends (a ++ b))[k + 1]'(by omega)) := List.getElem?_eq_getElem _
    unfold byAt
    rw [hx, hy]
    dsimp only
    cases hp : opB op (memB a ((ends (a ++ b))[k]'(by omega))) (memB b ((ends (a ++ b))[k]'(by omega))) with
    | true => rw [if_pos rfl]; exact ih.push hx hy hp
    | false => rw [if_neg (by decide)]; exact ih.skip hx hy hp
theorem both_spec (op : Int) (a b : List Sp) : canon (both op a b) ∧ ∀ n, memB (both op a b) n = opB op (memB a n) (memB b n) :=
  (byAt_at op a b _ (by omega)).done (by omega)
theorem both_unique (op : Int) (a b r : List Sp) (hc : canon r) (hm : ∀ n, memB r n = opB op (memB a n) (memB b n)) : r = both op a b := by
  have h := both_spec op a b
  exact canon_unique r _ hc h.1 fun n => by rw [← memB_iff, ← memB_iff, hm n, h.2 n]
/-- why not, of two sets -/
def code (op : Int) (a b : List Sp) : Int := if chk a = 0 then (if chk b = 0 then (if 64 < (both op a b).length then 2 else 0) else chk b) else chk a
/-- what comes back of two sets: the set, or nothing -/
def ans (op : Int) (a b : List Sp) : List Sp := if code op a b = 0 then both op a b else []
theorem ans_len (op : Int) (a b : List Sp) : (ans op a b).length ≤ 64 := by
  unfold ans
  by_cases h : code op a b = 0
  · rw [if_pos h]
    unfold code at h
    by_cases h1 : chk a = 0
    · rw [if_pos h1] at h
      by_cases h2 : chk b = 0
      · rw [if_pos h2] at h
        by_cases h3 : 64 < (both op a b).length
        · rw [if_pos h3] at h; cases h
        · omega
      · rw [if_neg h2] at h; exact absurd h h2
    · rw [if_neg h1] at h; exact absurd h h1
  · rw [if_neg h]; simp
/-- the set of whatever spans -/
def setOf (l : List Sp) : List Sp := if chkOf l = 0 then both 0 l [] else []
end Spn
end Go.Proofs.YtandlmnbnjkklaaGreatDoor
