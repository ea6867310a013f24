/- Plain mathematics of what is due: the look over dues, what is paid, a plan. -/
namespace Go.Proofs.YtehopfpcikbaiaaDoor
namespace Dp
/-- a due: its day, its pence -/
abbrev Du := Int × Int
abbrev bad (x : Du) : Prop := x.1 < 1 ∨ 3652059 < x.1 ∨ x.2 < 0 ∨ 1099511627776 < x.2
def crec : Int → List Du → Int
  | _, [] => 0
  | pr, x :: r => if bad x then 3 else if x.1 < pr then 4 else crec x.1 r
def chk (l : List Du) : Int := if 32 < l.length then 2 else crec 0 l
/-- the day ahead of place k, 0 ahead of the first -/
def prev (l : List Du) (k : Nat) : Int := if k = 0 then 0 else (l.getD (k - 1) (0, 0)).1
def cat (l : List Du) (k : Nat) : Int := crec (prev l k) (l.drop k)
theorem cat_zero (l : List Du) : cat l 0 = crec 0 l := rfl
theorem cat_end (l : List Du) : cat l l.length = 0 := by unfold cat; rw [List.drop_length]; rfl
theorem drop_cons {α : Type} (l : List α) (k : Nat) (x : α) (h : l[k]? = some x) : l.drop k = x :: l.drop (k + 1) := by
  have hk : k < l.length := by
    rcases Nat.lt_or_ge k l.length with c | c
    · exact c
    · rw [List.getElem?_eq_none c] at h; cases h
  rw [List.drop_eq_getElem_cons hk]
  rw [List.getElem?_eq_getElem hk] at h
  rw [Option.some.inj h]
theorem take_snoc {α : Type} (l : List α) (k : Nat) (x : α) (h : l[k]? = some x) : l.take (k + 1) = l.take k ++ [x] := by
  rw [List.take_add_one, h]; rfl
theorem prev_succ (l : List Du) (k : Nat) (x : Du) (h : l[k]? = some x) : prev l (k + 1) = x.1 := by
  unfold prev
  rw [if_neg (by omega), Nat.add_sub_cancel, List.getD_eq_getElem?_getD, h]; rfl
theorem cat_step (l : List Du) (k : Nat) (x : Du) (h : l[k]? = some x) : cat l k = if bad x then 3 else if x.1 < prev l k then 4 else cat l (k + 1) := by
  unfold cat
  rw [drop_cons l k x h, prev_succ l k x h]
  rfl
/-- pence up to a day -/
def due (l : List Du) (n : Int) : Int := (l.map fun x => if x.1 ≤ n then x.2 else 0).sum
def all (l : List Du) : Int := (l.map fun x => x.2).sum
theorem due_take (l : List Du) (k : Nat) (x : Du) (h : l[k]? = some x) (n : Int) : due (l.take (k + 1)) n = due (l.take k) n + if x.1 ≤ n then x.2 else 0 := by
  rw [take_snoc l k x h]; unfold due; rw [List.map_append, List.sum_append]; simp
theorem all_take (l : List Du) (k : Nat) (x : Du) (h : l[k]? = some x) : all (l.take (k + 1)) = all (l.take k) + x.2 := by
  rw [take_snoc l k x h]; unfold all; rw [List.map_append, List.sum_append]; simp
/-- dues that are right -/
structure Ok (l : List Du) : Prop where
  few : l.length ≤ 32
  each : ∀ x ∈ l, 1 ≤ x.1 ∧ x.1 ≤ 3652059 ∧ 0 ≤ x.2 ∧ x.2 ≤ 1099511627776
  rises : ∀ (i : Nat) (x y : Du), l[i]? = some x → l[i + 1]? = some y → x.1 ≤ y.1
theorem crec_ok : ∀ (l : List Du) (pr : Int), crec pr l = 0 ↔ (∀ x ∈ l, 1 ≤ x.1 ∧ x.1 ≤ 3652059 ∧ 0 ≤ x.2 ∧ x.2 ≤ 1099511627776) ∧ (∀ x, l[0]? = some x → pr ≤ x.1) ∧ ∀ (i : Nat) (x y : Du), l[i]? = some x → l[i + 1]? = some y → x.1 ≤ y.1
  | [], pr => by unfold crec; simp
  | x :: r, pr => by
    unfold crec
    by_cases hb : bad x
    · rw [if_pos hb]
      refine ⟨fun e => absurd e (by decide), fun h => ?_⟩
      have := h.1 x (.head _)
      unfold bad at hb; omega
    · rw [if_neg hb]
      by_cases hp : x.1 < pr
      · rw [if_pos hp]
        refine ⟨fun e => absurd e (by decide), fun h => ?_⟩
        have := h.2.1 x rfl
        omega
      · rw [if_neg hp, crec_ok r x.1]
        unfold bad at hb
        constructor
        · rintro ⟨h1, h2, h3⟩
          refine ⟨?_, fun y hy => ?_, fun i y z hy hz => ?_⟩
          · intro y hy
            rcases List.mem_cons.1 hy with rfl | hy
            · omega
            · exact h1 y hy
          · simp at hy; subst hy; omega
          · cases i with
            | zero => simp at hy; subst hy; exact h2 z (by simpa using hz)
            | succ i => exact h3 i y z (by simpa using hy) (by simpa using hz)
        · rintro ⟨h1, h2, h3⟩
          exact ⟨fun y hy => h1 y (.tail _ hy), fun y hy => h3 0 x y rfl (by simpa using hy), fun i y z hy hz => h3 (i + 1) y z (by simpa using hy) (by simpa using hz)⟩
theorem chk_ok (l : List Du) : chk l = 0 ↔ Ok l := by
  unfold chk
  by_cases h : 32 < l.length
  · rw [if_pos h]; exact ⟨fun e => absurd e (by decide), fun e => by have := e.few; omega⟩
  · rw [if_neg h, crec_ok]
    constructor
    · rintro ⟨h1, _, h3⟩
      exact ⟨by omega, h1, h3⟩
    · intro ok
      exact ⟨ok.each, fun x hx => by have := (ok.each x (List.mem_of_getElem? hx)).1; omega, ok.rises⟩
theorem due_bd : ∀ (l : List Du) (n : Int), (∀ x ∈ l, 0 ≤ x.2 ∧ x.2 ≤ 1099511627776) → 0 ≤ due l n ∧ due l n ≤ all l ∧ all l ≤ l.length * 1099511627776
  | [], n, _ => by unfold due all; simp
  | x :: l, n, h => by
    have h1 := due_bd l n (fun y hy => h y (.tail _ hy))
    have h2 := h x (.head _)
    unfold due all at *
    rw [List.map_cons, List.sum_cons, List.map_cons, List.sum_cons, List.length_cons]
    by_cases c : x.1 ≤ n
    · simp only [c, if_true]; omega
    · simp only [c, if_false]; omega
theorem due_mono : ∀ (l : List Du) (n m : Int), (∀ x ∈ l, 0 ≤ x.2) → n ≤ m → due l n ≤ due l m
  | [], n, m, _, _ => by unfold due; simp
  | x :: l, n, m, h, hnm => by
    have h1 := due_mono l n m (fun y hy => h y (.tail _ hy)) hnm
    have h2 := h x (.head _)
    unfold due at *
    rw [List.map_cons, List.sum_cons, List.map_cons, List.sum_cons]
    by_cases c : x.1 ≤ n
    · have c2 : x.1 ≤ m := by omega
      simp only [c, c2, if_true]; omega
    · by_cases c2 : x.1 ≤ m
      · simp only [c, c2, if_true, if_false]; omega
      · simp only [c, c2, if_false]; omega
theorem due_last : ∀ (l : List Du), (∀ x ∈ l, x.1 ≤ 3652059) → due l 3652059 = all l
  | [], _ => rfl
  | x :: l, h => by
    have h1 := due_last l (fun y hy => h y (.tail _ hy))
    have h2 := h x (.head _)
    unfold due all at *
    rw [List.map_cons, List.sum_cons, List.map_cons, List.sum_cons, h1, if_pos h2]
/-- what Paid answers -/
def pd (l : List Du) (n : Int) : Int := if chk l = 0 then due l n else 0
def op (l : List Du) (n : Int) : Int := if chk l = 0 then all l - due l n else 0

/-! A plan: f k is the day of the kth instalment, or why not. -/
def pE (f : Nat → Int × Int) : Nat → Nat → Int
  | _, 0 => 0
  | k, n + 1 => if (f k).2 = 0 then pE f (k + 1) n else (f k).2
def pL (f : Nat → Int × Int) (xs : List Int) (k : Nat) : List Du := (List.range k).map fun j => ((f j).1, xs.getD j 0)
def plan (f : Nat → Int × Int) (xs : List Int) (c : Int) : List Du × Int := if c = 0 then (if pE f 0 xs.length = 0 then (pL f xs xs.length, 0) else ([], pE f 0 xs.length)) else ([], c)
theorem pL_succ (f : Nat → Int × Int) (xs : List Int) (k : Nat) (x : Int) (h : xs[k]? = some x) : pL f xs (k + 1) = pL f xs k ++ [((f k).1, x)] := by
  unfold pL
  rw [List.range_succ, List.map_append]
  simp [List.getD_eq_getElem?_getD, h]
theorem pL_len (f : Nat → Int × Int) (xs : List Int) (k : Nat) : (pL f xs k).length = k := by unfold pL; simp
theorem pE_step (f : Nat → Int × Int) (k n : Nat) (h : k < n) : pE f k (n - k) = if (f k).2 = 0 then pE f (k + 1) (n - (k + 1)) else (f k).2 := by
  obtain ⟨j, hj⟩ : ∃ j, n - k = j + 1 := ⟨n - k - 1, by omega⟩
  have e : n - (k + 1) = j := by omega
  rw [hj, e]
  rfl
theorem pE_end (f : Nat → Int × Int) (n : Nat) : pE f n (n - n) = 0 := by rw [Nat.sub_self]; rfl
theorem pE_zero (f : Nat → Int × Int) : ∀ (n k : Nat), pE f k n = 0 → ∀ j, k ≤ j → j < k + n → (f j).2 = 0
  | 0, k, _, j, h1, h2 => by omega
  | n + 1, k, h, j, h1, h2 => by
    unfold pE at h
    by_cases c : (f k).2 = 0
    · rw [if_pos c] at h
      by_cases e : j = k
      · subst e; exact c
      · exact pE_zero f n (k + 1) h j (by omega) (by omega)
    · rw [if_neg c] at h
      exact absurd h c
end Dp
end Go.Proofs.YtehopfpcikbaiaaDoor
