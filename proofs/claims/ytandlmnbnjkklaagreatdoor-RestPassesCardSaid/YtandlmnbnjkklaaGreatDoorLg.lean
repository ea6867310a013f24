/- Plain mathematics of a ledger: what is right, a posting more, balances, a posting turned round. -/
namespace Go.Proofs.YtandlmnbnjkklaaGreatDoor
namespace Lg
/-- a line: its account, its pence -/
abbrev Ln := Int × Int
/-- a posting: its id, its lines -/
abbrev Ps := Int × List Ln
def far (n : Int) : Bool := decide (n < -1099511627776 ∨ 1099511627776 < n)
def hasA (pre : List Ln) (a : Int) : Bool := pre.any (fun x => decide (x.1 = a))
def hasI (pre : List Ps) (i : Int) : Bool := pre.any (fun x => decide (x.1 = i))
def sum (l : List Ln) : Int := (l.map (·.2)).sum
/-- what is wrong with a line behind others -/
def ln (pre : List Ln) (x : Ln) : Int := if x.1 < 1 ∨ 5 < x.1 then 7 else if far x.2 = true ∨ x.2 = 0 then 3 else if hasA pre x.1 then 6 else 0
def lrec : List Ln → List Ln → Int
  | pre, [] => if sum pre = 0 then 0 else 4
  | pre, x :: r => if ln pre x = 0 then lrec (pre ++ [x]) r else ln pre x
def pchk (p : Ps) : Int := if p.1 < 1 then 3 else if p.2.length < 2 then 1 else if 6 < p.2.length then 2 else lrec [] p.2
def grec : List Ps → List Ps → Int
  | _, [] => 0
  | pre, p :: r => if pchk p = 0 then (if hasI pre p.1 then 6 else grec (pre ++ [p]) r) else pchk p
def chk (l : List Ps) : Int := if 100 < l.length then 2 else grec [] l
theorem drop_cons {α : Type} (l : List α) (k : Nat) (x : α) (h : l[k]? = some x) : l.drop k = x :: l.drop (k + 1) := by
  have hk : k < l.length := by
    rcases Nat.lt_or_ge k l.length with c | c
    · exact c
    · rw [List.getElem?_eq_none c] at h; cases h
  rw [List.drop_eq_getElem_cons hk]
  rw [List.getElem?_eq_getElem hk] at h
  rw [Option.some.inj h]
theorem take_snoc {α : Type} (l : List α) (k : Nat) (x : α) (h : l[k]? = some x) : l.take (k + 1) = l.take k ++ [x] := by
  rw [List.take_add_one, h]; rfl
/-- the lines' look at place k -/
def lat (l : List Ln) (k : Nat) : Int := lrec (l.take k) (l.drop k)
theorem lat_zero (l : List Ln) : lat l 0 = lrec [] l := rfl
theorem lat_end (l : List Ln) : lat l l.length = if sum l = 0 then 0 else 4 := by unfold lat; rw [List.take_length, List.drop_length]; rfl
theorem lat_step (l : List Ln) (k : Nat) (x : Ln) (h : l[k]? = some x) : lat l k = if ln (l.take k) x = 0 then lat l (k + 1) else ln (l.take k) x := by
  unfold lat
  rw [drop_cons l k x h, take_snoc l k x h]
  rfl
def gat (l : List Ps) (k : Nat) : Int := grec (l.take k) (l.drop k)
theorem gat_zero (l : List Ps) : gat l 0 = grec [] l := rfl
theorem gat_end (l : List Ps) : gat l l.length = 0 := by unfold gat; rw [List.drop_length]; rfl
theorem gat_step (l : List Ps) (k : Nat) (p : Ps) (h : l[k]? = some p) : gat l k = if pchk p = 0 then (if hasI (l.take k) p.1 then 6 else gat l (k + 1)) else pchk p := by
  unfold gat
  rw [drop_cons l k p h, take_snoc l k p h]
  rfl
theorem hasA_take (l : List Ln) (k : Nat) (x : Ln) (h : l[k]? = some x) (a : Int) : hasA (l.take (k + 1)) a = (hasA (l.take k) a || decide (x.1 = a)) := by
  rw [take_snoc l k x h]; unfold hasA; rw [List.any_append]; simp
theorem hasI_take (l : List Ps) (k : Nat) (x : Ps) (h : l[k]? = some x) (a : Int) : hasI (l.take (k + 1)) a = (hasI (l.take k) a || decide (x.1 = a)) := by
  rw [take_snoc l k x h]; unfold hasI; rw [List.any_append]; simp
theorem hasA_mem (l : List Ln) (a : Int) : hasA l a = true ↔ ∃ x ∈ l, x.1 = a := by unfold hasA; simp
theorem hasI_mem (l : List Ps) (a : Int) : hasI l a = true ↔ ∃ x ∈ l, x.1 = a := by unfold hasI; simp

/-! What a right posting, a right ledger is. -/
structure POk (p : Ps) : Prop where
  id : 1 ≤ p.1
  two : 2 ≤ p.2.length
  six : p.2.length ≤ 6
  line : ∀ x ∈ p.2, 1 ≤ x.1 ∧ x.1 ≤ 5 ∧ -1099511627776 ≤ x.2 ∧ x.2 ≤ 1099511627776 ∧ x.2 ≠ 0
  once : ∀ (i j : Nat) (x y : Ln), p.2[i]? = some x → p.2[j]? = some y → x.1 = y.1 → i = j
  zero : sum p.2 = 0
theorem far_iff (n : Int) : far n = false ↔ -1099511627776 ≤ n ∧ n ≤ 1099511627776 := by unfold far; rw [decide_eq_false_iff_not]; omega
theorem ln_ok (pre : List Ln) (x : Ln) : ln pre x = 0 ↔ (1 ≤ x.1 ∧ x.1 ≤ 5) ∧ (-1099511627776 ≤ x.2 ∧ x.2 ≤ 1099511627776 ∧ x.2 ≠ 0) ∧ hasA pre x.1 = false := by
  unfold ln
  by_cases h1 : x.1 < 1 ∨ 5 < x.1
  · rw [if_pos h1]
    exact ⟨fun e => absurd e (by decide), fun e => absurd e.1 (by omega)⟩
  · rw [if_neg h1]
    by_cases h2 : far x.2 = true ∨ x.2 = 0
    · rw [if_pos h2]
      refine ⟨fun e => absurd e (by decide), fun e => ?_⟩
      have hf := (far_iff x.2).2 ⟨e.2.1.1, e.2.1.2.1⟩
      rcases h2 with h2 | h2
      · rw [hf] at h2; cases h2
      · exact absurd h2 e.2.1.2.2
    · rw [if_neg h2]
      have hf : far x.2 = false := by cases hq : far x.2 with | false => rfl | true => exact absurd (.inl hq) h2
      have hb := (far_iff x.2).1 hf
      have hz : x.2 ≠ 0 := fun e => h2 (.inr e)
      by_cases h3 : hasA pre x.1 = true
      · rw [if_pos h3]
        exact ⟨fun e => absurd e (by decide), fun e => by rw [h3] at e; exact absurd e.2.2 (by decide)⟩
      · rw [if_neg h3]
        exact ⟨fun _ => ⟨by omega, ⟨hb.1, hb.2, hz⟩, by simpa using h3⟩, fun _ => rfl⟩
theorem lrec_ok : ∀ (r pre : List Ln), lrec pre r = 0 ↔ (∀ (k : Nat) (x : Ln), r[k]? = some x → ln (pre ++ r.take k) x = 0) ∧ sum (pre ++ r) = 0
  | [], pre => by
    unfold lrec
    simp
  | x :: r, pre => by
    unfold lrec
    by_cases h : ln pre x = 0
    · rw [if_pos h, lrec_ok r (pre ++ [x])]
      constructor
      · rintro ⟨h1, h2⟩
        refine ⟨fun k y hk => ?_, by simpa using h2⟩
        cases k with
        | zero => simp at hk; subst hk; simpa using h
        | succ k => have := h1 k y (by simpa using hk); simpa using this
      · rintro ⟨h1, h2⟩
        exact ⟨fun k y hk => by have := h1 (k + 1) y (by simpa using hk); simpa using this, by simpa using h2⟩
    · rw [if_neg h]
      exact ⟨fun e => absurd e h, fun e => absurd (by simpa using e.1 0 x rfl) h⟩
theorem pchk_ok (p : Ps) : pchk p = 0 ↔ POk p := by
  unfold pchk
  by_cases h1 : p.1 < 1
  · rw [if_pos h1]; exact ⟨fun e => absurd e (by decide), fun e => by have := e.id; omega⟩
  rw [if_neg h1]
  by_cases h2 : p.2.length < 2
  · rw [if_pos h2]; exact ⟨fun e => absurd e (by decide), fun e => by have := e.two; omega⟩
  rw [if_neg h2]
  by_cases h3 : 6 < p.2.length
  · rw [if_pos h3]; exact ⟨fun e => absurd e (by decide), fun e => by have := e.six; omega⟩
  rw [if_neg h3, lrec_ok]
  simp only [List.nil_append]
  constructor
  · rintro ⟨h4, h5⟩
    refine ⟨by omega, by omega, by omega, fun x hx => ?_, ?_, h5⟩
    · obtain ⟨k, hk, rfl⟩ := List.mem_iff_getElem.1 hx
      have := (ln_ok _ _).1 (h4 k _ (List.getElem?_eq_getElem hk))
      exact ⟨this.1.1, this.1.2, this.2.1.1, this.2.1.2.1, this.2.1.2.2⟩
    · have key : ∀ (i j : Nat) (x y : Ln), i < j → p.2[i]? = some x → p.2[j]? = some y → x.1 ≠ y.1 := by
        intro i j x y hij hx hy e
        have h6 := ((ln_ok _ _).1 (h4 j y hy)).2.2
        have : hasA (p.2.take j) y.1 = true := by
          rw [hasA_mem]
          refine ⟨x, List.mem_of_getElem? (i := i) ?_, e⟩
          rw [List.getElem?_take_of_lt hij]; exact hx
        rw [this] at h6; cases h6
      intro i j x y hx hy e
      rcases Nat.lt_trichotomy i j with c | c | c
      · exact absurd e (key i j x y c hx hy)
      · exact c
      · exact absurd e.symm (key j i y x c hy hx)
  · intro ok
    refine ⟨fun k x hk => ?_, ok.zero⟩
    rw [ln_ok]
    obtain ⟨a1, a2, a3, a4, a5⟩ := ok.line x (List.mem_of_getElem? hk)
    refine ⟨⟨a1, a2⟩, ⟨a3, a4, a5⟩, ?_⟩
    cases hq : hasA (p.2.take k) x.1 with
    | false => rfl
    | true =>
      exfalso
      obtain ⟨y, hy, e⟩ := (hasA_mem _ _).1 hq
      obtain ⟨j, hj, rfl⟩ := List.mem_iff_getElem.1 hy
      rw [List.length_take] at hj
      have e2 : p.2[j]? = some ((p.2.take k)[j]'(by rw [List.length_take]; exact hj)) := by
        rw [← List.getElem?_eq_getElem, List.getElem?_take_of_lt (by omega)]
      have := ok.once j k _ x e2 hk e
      omega
structure LOk (l : List Ps) : Prop where
  len : l.length ≤ 100
  each : ∀ p ∈ l, POk p
  once : ∀ (i j : Nat) (p q : Ps), l[i]? = some p → l[j]? = some q → p.1 = q.1 → i = j
theorem grec_ok : ∀ (r pre : List Ps), grec pre r = 0 ↔ (∀ (k : Nat) (p : Ps), r[k]? = some p → POk p ∧ hasI (pre ++ r.take k) p.1 = false)
  | [], pre => by
    unfold grec
    simp
  | p :: r, pre => by
    unfold grec
    by_cases h : pchk p = 0
    · rw [if_pos h]
      by_cases h2 : hasI pre p.1 = true
      · rw [if_pos h2]
        exact ⟨fun e => absurd e (by decide), fun e => by have := (e 0 p rfl).2; simp [h2] at this⟩
      · rw [if_neg h2, grec_ok r (pre ++ [p])]
        constructor
        · intro h1 k q hk
          cases k with
          | zero =>
            simp at hk; subst hk
            exact ⟨(pchk_ok _).1 h, by simpa using h2⟩
          | succ k => have := h1 k q (by simpa using hk); simpa using this
        · intro h1 k q hk
          have := h1 (k + 1) q (by simpa using hk); simpa using this
    · rw [if_neg h]
      exact ⟨fun e => absurd e h, fun e => absurd ((pchk_ok _).2 (e 0 p rfl).1) h⟩
theorem chk_ok (l : List Ps) : chk l = 0 ↔ LOk l := by
  unfold chk
  by_cases h1 : 100 < l.length
  · rw [if_pos h1]; exact ⟨fun e => absurd e (by decide), fun e => by have := e.len; omega⟩
  rw [if_neg h1, grec_ok]
  simp only [List.nil_append]
  constructor
  · intro h4
    refine ⟨by omega, fun p hp => ?_, ?_⟩
    · obtain ⟨k, hk, rfl⟩ := List.mem_iff_getElem.1 hp
      exact (h4 k _ (List.getElem?_eq_getElem hk)).1
    · have key : ∀ (i j : Nat) (x y : Ps), i < j → l[i]? = some x → l[j]? = some y → x.1 ≠ y.1 := by
        intro i j x y hij hx hy e
        have h6 := (h4 j y hy).2
        have : hasI (l.take j) y.1 = true := by
          rw [hasI_mem]
          refine ⟨x, List.mem_of_getElem? (i := i) ?_, e⟩
          rw [List.getElem?_take_of_lt hij]; exact hx
        rw [this] at h6; cases h6
      intro i j x y hx hy e
      rcases Nat.lt_trichotomy i j with c | c | c
      · exact absurd e (key i j x y c hx hy)
      · exact c
      · exact absurd e.symm (key j i y x c hy hx)
  · intro ok k p hk
    refine ⟨ok.each p (List.mem_of_getElem? hk), ?_⟩
    cases hq : hasI (l.take k) p.1 with
    | false => rfl
    | true =>
      exfalso
      obtain ⟨y, hy, e⟩ := (hasI_mem _ _).1 hq
      obtain ⟨j, hj, rfl⟩ := List.mem_iff_getElem.1 hy
      rw [List.length_take] at hj
      have e2 : l[j]? = some ((l.take k)[j]'(by rw [List.length_take]; exact hj)) := by
        rw [← List.getElem?_eq_getElem, List.getElem?_take_of_lt (by omega)]
      have := ok.once j k _ p e2 hk e
      omega
end Lg
end Go.Proofs.YtandlmnbnjkklaaGreatDoor
