/- Plain mathematics of a ledger, further: a posting more, balances, a posting turned round, and what P8 says. Plain mathematics of amounts and of their parts: no program is named here. -/
import Derived.Test.YtandlmnbnjkklaaGreatDoorLg
namespace Go.Proofs.YtandlmnbnjkklaaGreatDoor
namespace Lg
def lsum (ls : List Ln) (a : Int) : Int := (ls.map fun x => if x.1 = a then x.2 else 0).sum
def bal (l : List Ps) (a : Int) : Int := (l.map fun p => lsum p.2 a).sum
def look (l : List Ps) (i : Int) : Option Ps := l.find? (fun p => decide (p.1 = i))
def post (l : List Ps) (p : Ps) : List Ps × Int :=
  if chk l = 0 then (if pchk p = 0 then (match look l p.1 with
    | some q => if q.2 = p.2 then (l, 0) else ([], 6)
    | none => if l.length = 100 then ([], 2) else (l ++ [p], 0)) else ([], pchk p)) else ([], chk l)
def neg (ls : List Ln) : List Ln := ls.map fun x => (x.1, 0 - x.2)
def rev (l : List Ps) (id as' : Int) : List Ps × Int :=
  if chk l = 0 then (match look l id with
    | some p => post l (as', neg p.2)
    | none => ([], 5)) else ([], chk l)
theorem look_some {l : List Ps} {i : Int} {p : Ps} (h : look l i = some p) : p ∈ l ∧ p.1 = i := by
  unfold look at h
  exact ⟨List.mem_of_find?_eq_some h, by simpa using List.find?_some h⟩
theorem look_none {l : List Ps} {i : Int} (h : look l i = none) : ∀ p ∈ l, p.1 ≠ i := by
  unfold look at h
  intro p hp e
  have := List.find?_eq_none.1 h p hp
  simp [e] at this
theorem LOk.uniq {l : List Ps} (h : LOk l) {p q : Ps} (hp : p ∈ l) (hq : q ∈ l) (e : p.1 = q.1) : p = q := by
  obtain ⟨i, hi, rfl⟩ := List.mem_iff_getElem.1 hp
  obtain ⟨j, hj, rfl⟩ := List.mem_iff_getElem.1 hq
  have := h.once i j _ _ (List.getElem?_eq_getElem hi) (List.getElem?_eq_getElem hj) e
  subst this; rfl
theorem look_mem {l : List Ps} (h : LOk l) {p : Ps} (hp : p ∈ l) : look l p.1 = some p := by
  cases hq : look l p.1 with
  | none => exact absurd rfl (look_none hq p hp)
  | some q =>
    obtain ⟨h1, h2⟩ := look_some hq
    rw [h.uniq h1 hp h2]
theorem LOk.pw {l : List Ps} (h : LOk l) : l.Pairwise (fun p q => p.1 ≠ q.1) := by
  rw [List.pairwise_iff_getElem]
  intro i j hi hj hij e
  have := h.once i j _ _ (List.getElem?_eq_getElem hi) (List.getElem?_eq_getElem hj) e
  omega
theorem LOk.of_pw {l : List Ps} (h1 : l.length ≤ 100) (h2 : ∀ p ∈ l, POk p) (h3 : l.Pairwise (fun p q => p.1 ≠ q.1)) : LOk l := by
  refine ⟨h1, h2, fun i j p q hp hq e => ?_⟩
  rw [List.pairwise_iff_getElem] at h3
  have hi : i < l.length := by
    rcases Nat.lt_or_ge i l.length with c | c
    · exact c
    · rw [List.getElem?_eq_none c] at hp; cases hp
  have hj : j < l.length := by
    rcases Nat.lt_or_ge j l.length with c | c
    · exact c
    · rw [List.getElem?_eq_none c] at hq; cases hq
  rw [List.getElem?_eq_getElem hi] at hp
  rw [List.getElem?_eq_getElem hj] at hq
  cases hp; cases hq
  rcases Nat.lt_trichotomy i j with c | c | c
  · exact absurd e (h3 i j hi hj c)
  · exact c
  · exact absurd e.symm (h3 j i hj hi c)
theorem LOk.snoc {l : List Ps} (h : LOk l) {p : Ps} (hp : POk p) (hn : ∀ q ∈ l, q.1 ≠ p.1) (hl : l.length < 100) : LOk (l ++ [p]) := by
  refine .of_pw (by simp; omega) (fun q hq => ?_) ?_
  · rcases List.mem_append.1 hq with hq | hq
    · exact h.each q hq
    · rw [List.mem_singleton] at hq; subst hq; exact hp
  · rw [List.pairwise_append]
    refine ⟨h.pw, List.pairwise_singleton _ _, fun q hq r hr => ?_⟩
    rw [List.mem_singleton] at hr; subst hr
    exact hn q hq
/-- what a posting more makes -/
theorem post_cases {l a : List Ps} {p : Ps} (h : post l p = (a, 0)) : LOk l ∧ POk p ∧ ((a = l ∧ p ∈ l) ∨ (a = l ++ [p] ∧ (∀ q ∈ l, q.1 ≠ p.1) ∧ l.length < 100)) := by
  unfold post at h
  by_cases h1 : chk l = 0
  · rw [if_pos h1] at h
    have ok := (chk_ok l).1 h1
    by_cases h2 : pchk p = 0
    · rw [if_pos h2] at h
      refine ⟨ok, (pchk_ok p).1 h2, ?_⟩
      cases hq : look l p.1 with
      | some q =>
        rw [hq] at h
        obtain ⟨m1, m2⟩ := look_some hq
        by_cases h3 : q.2 = p.2
        · simp only [h3, if_true] at h
          have e : q = p := Prod.ext m2 h3
          subst e
          exact .inl ⟨(Prod.mk.inj h).1.symm, m1⟩
        · simp only [h3, if_false] at h
          exact absurd (Prod.mk.inj h).2 (by decide)
      | none =>
        rw [hq] at h
        by_cases h3 : l.length = 100
        · simp only [h3, if_true] at h
          exact absurd (Prod.mk.inj h).2 (by decide)
        · simp only [h3, if_false] at h
          exact .inr ⟨(Prod.mk.inj h).1.symm, look_none hq, by have := ok.len; omega⟩
    · rw [if_neg h2] at h
      exact absurd (Prod.mk.inj h).2 h2
  · rw [if_neg h1] at h
    exact absurd (Prod.mk.inj h).2 h1
theorem post_err (l : List Ps) (p : Ps) (h : (post l p).2 ≠ 0) : (post l p).1 = [] := by
  unfold post at h ⊢
  by_cases h1 : chk l = 0
  · rw [if_pos h1] at h ⊢
    by_cases h2 : pchk p = 0
    · rw [if_pos h2] at h ⊢
      cases hq : look l p.1 with
      | some q =>
        rw [hq] at h
        by_cases h3 : q.2 = p.2
        · simp [h3] at h
        · simp [h3]
      | none =>
        rw [hq] at h
        by_cases h3 : l.length = 100
        · simp [h3]
        · simp [h3] at h
    · rw [if_neg h2]
  · rw [if_neg h1]
theorem post_ok {l a : List Ps} {p : Ps} (h : post l p = (a, 0)) : LOk a ∧ p ∈ a := by
  obtain ⟨ok, pok, h | ⟨h, hn, hl⟩⟩ := post_cases h
  · rw [h.1]; exact ⟨ok, h.2⟩
  · rw [h]; exact ⟨ok.snoc pok hn hl, by simp⟩
theorem post_there {l : List Ps} (ok : LOk l) {p : Ps} (hp : p ∈ l) : post l p = (l, 0) := by
  unfold post
  rw [if_pos ((chk_ok l).2 ok), if_pos ((pchk_ok p).2 (ok.each p hp)), look_mem ok hp]
  exact if_pos rfl
theorem post_new {l : List Ps} (ok : LOk l) {p : Ps} (hp : POk p) (hn : ∀ q ∈ l, q.1 ≠ p.1) (hl : l.length < 100) : post l p = (l ++ [p], 0) := by
  unfold post
  rw [if_pos ((chk_ok l).2 ok), if_pos ((pchk_ok p).2 hp)]
  cases hq : look l p.1 with
  | some q => exact absurd (look_some hq).2 (hn q (look_some hq).1)
  | none => exact if_neg (by omega)
theorem post_again {l a : List Ps} {p : Ps} (h : post l p = (a, 0)) : post a p = (a, 0) := post_there (post_ok h).1 (post_ok h).2
theorem bal_append (l r : List Ps) (a : Int) : bal (l ++ r) a = bal l a + bal r a := by unfold bal; rw [List.map_append, List.sum_append]
theorem bal_one (p : Ps) (a : Int) : bal [p] a = lsum p.2 a := by unfold bal; simp
theorem bal_cons (p : Ps) (l : List Ps) (a : Int) : bal (p :: l) a = lsum p.2 a + bal l a := by unfold bal; rw [List.map_cons, List.sum_cons]
theorem bal_reverse : ∀ (l : List Ps) (a : Int), bal l.reverse a = bal l a
  | [], a => rfl
  | p :: l, a => by
    rw [List.reverse_cons, bal_append, bal_reverse l a, bal_one, bal_cons]; omega
/-- HOWEVER OFTEN: a balance has just its pence more. -/
theorem post_bal {l a : List Ps} {p : Ps} (h : post l p = (a, 0)) (c : Int) : bal a c = bal l c + (if l.length < a.length then bal [p] c else 0) := by
  obtain ⟨_, _, h | ⟨h, _, _⟩⟩ := post_cases h
  · rw [h.1, if_neg (by omega)]; omega
  · rw [h, if_pos (by simp), bal_append]
/-- ALL ACCOUNTS TOGETHER ARE 0. -/
theorem lsum_all : ∀ (ls : List Ln), (∀ x ∈ ls, 1 ≤ x.1 ∧ x.1 ≤ 5) → lsum ls 1 + lsum ls 2 + lsum ls 3 + lsum ls 4 + lsum ls 5 = sum ls
  | [], _ => rfl
  | x :: ls, h => by
    have ih := lsum_all ls (fun y hy => h y (.tail _ hy))
    have hx := h x (.head _)
    unfold lsum sum at *
    simp only [List.map_cons, List.sum_cons]
    have : (if x.1 = 1 then x.2 else 0) + (if x.1 = 2 then x.2 else 0) + (if x.1 = 3 then x.2 else 0) + (if x.1 = 4 then x.2 else 0) + (if x.1 = 5 then x.2 else 0) = x.2 := by
      have h5 : x.1 = 1 ∨ x.1 = 2 ∨ x.1 = 3 ∨ x.1 = 4 ∨ x.1 = 5 := by omega
      rcases h5 with e | e | e | e | e <;> simp [e]
    omega
theorem bal_all : ∀ (l : List Ps), (∀ p ∈ l, POk p) → bal l 1 + bal l 2 + bal l 3 + bal l 4 + bal l 5 = 0
  | [], _ => rfl
  | p :: l, h => by
    have ih := bal_all l (fun q hq => h q (.tail _ hq))
    have hp := h p (.head _)
    have := lsum_all p.2 (fun x hx => ⟨(hp.line x hx).1, (hp.line x hx).2.1⟩)
    rw [hp.zero] at this
    simp only [bal_cons]
    omega
/-- Bounds, for sums that don't run over. -/
theorem lsum_bd : ∀ (ls : List Ln) (a : Int), (∀ x ∈ ls, -1099511627776 ≤ x.2 ∧ x.2 ≤ 1099511627776) → -(ls.length * 1099511627776) ≤ lsum ls a ∧ lsum ls a ≤ ls.length * 1099511627776
  | [], a, _ => by unfold lsum; simp
  | x :: ls, a, h => by
    have ih := lsum_bd ls a (fun y hy => h y (.tail _ hy))
    have hx := h x (.head _)
    unfold lsum at *
    simp only [List.map_cons, List.sum_cons, List.length_cons]
    split <;> omega
theorem bal_bd : ∀ (l : List Ps) (a : Int), (∀ p ∈ l, POk p) → -(l.length * 6597069766656) ≤ bal l a ∧ bal l a ≤ l.length * 6597069766656
  | [], a, _ => by unfold bal; simp
  | p :: l, a, h => by
    have ih := bal_bd l a (fun q hq => h q (.tail _ hq))
    have hp := h p (.head _)
    have := lsum_bd p.2 a (fun x hx => ⟨(hp.line x hx).2.2.1, (hp.line x hx).2.2.2.1⟩)
    have h6 := hp.six
    rw [bal_cons]
    simp only [List.length_cons]
    omega
/-- IN WHATEVER ORDER: the ledger told from its end. -/
theorem LOk.back {l : List Ps} (h : LOk l) (k : Nat) : LOk (l.drop k).reverse := by
  refine .of_pw (by have := h.len; simp; omega) (fun p hp => h.each p (List.mem_of_mem_drop (by simpa using hp))) ?_
  rw [List.pairwise_reverse]
  refine (h.pw.sublist (List.drop_sublist k l)).imp ?_
  intro p q e e2
  exact e e2.symm
theorem back_step {l : List Ps} (h : LOk l) (k : Nat) (p : Ps) (hp : l[k]? = some p) : post (l.drop (k + 1)).reverse p = ((l.drop k).reverse, 0) := by
  have e : (l.drop k).reverse = (l.drop (k + 1)).reverse ++ [p] := by rw [drop_cons l k p hp, List.reverse_cons]
  have hk : k < l.length := by
    rcases Nat.lt_or_ge k l.length with c | c
    · exact c
    · rw [List.getElem?_eq_none c] at hp; cases hp
  rw [e]
  refine post_new (h.back (k + 1)) (h.each p (List.mem_of_getElem? hp)) (fun q hq e2 => ?_) (by have := h.len; simp; omega)
  obtain ⟨j, hj, rfl⟩ := List.mem_iff_getElem.1 (show q ∈ l.drop (k + 1) by simpa using hq)
  have := h.once (k + 1 + j) k _ p (by rw [← List.getElem?_drop]; exact List.getElem?_eq_getElem hj) hp e2
  omega
theorem neg_neg (ls : List Ln) : neg (neg ls) = ls := by
  unfold neg
  rw [List.map_map]
  have : ((fun x : Ln => (x.1, 0 - x.2)) ∘ fun x : Ln => (x.1, 0 - x.2)) = id := by
    funext x; show (x.1, 0 - (0 - x.2)) = x
    exact Prod.ext rfl (by show 0 - (0 - x.2) = x.2; omega)
  rw [this, List.map_id]
theorem neg_lsum : ∀ (ls : List Ln) (a : Int), lsum (neg ls) a = - lsum ls a
  | [], a => rfl
  | x :: ls, a => by
    have ih := neg_lsum ls a
    unfold lsum neg at *
    simp only [List.map_cons, List.sum_cons]
    rw [ih]
    split <;> omega
/-- A POSTING AND ITS REVERSE. -/
theorem rev_cases {l a : List Ps} {id as' : Int} (h : rev l id as' = (a, 0)) : LOk l ∧ ∃ p, look l id = some p ∧ post l (as', neg p.2) = (a, 0) := by
  unfold rev at h
  by_cases h1 : chk l = 0
  · rw [if_pos h1] at h
    refine ⟨(chk_ok l).1 h1, ?_⟩
    cases hq : look l id with
    | some p => rw [hq] at h; exact ⟨p, rfl, h⟩
    | none => rw [hq] at h; exact absurd (Prod.mk.inj h).2 (by decide)
  · rw [if_neg h1] at h; exact absurd (Prod.mk.inj h).2 h1
theorem rev_err (l : List Ps) (id as' : Int) (h : (rev l id as').2 ≠ 0) : (rev l id as').1 = [] := by
  unfold rev at h ⊢
  by_cases h1 : chk l = 0
  · rw [if_pos h1] at h ⊢
    cases hq : look l id with
    | some p => rw [hq] at h; exact post_err _ _ h
    | none => rfl
  · rw [if_neg h1]
theorem rev_bal {l a : List Ps} {id as' : Int} {p : Ps} (h : rev l id as' = (a, 0)) (hp : look l id = some p) (c : Int) :
    (a.length = l.length ∧ a = l) ∨ (a.length = l.length + 1 ∧ a = l ++ [(as', neg p.2)] ∧ bal a c = bal l c - bal [p] c) := by
  obtain ⟨_, q, hq, h2⟩ := rev_cases h
  obtain rfl := Option.some.inj (hq.symm.trans hp)
  obtain ⟨_, _, h | ⟨h, _, _⟩⟩ := post_cases h2
  · exact .inl ⟨by rw [h.1], h.1⟩
  · refine .inr ⟨by rw [h]; simp, h, ?_⟩
    rw [h, bal_append, bal_one, bal_one, neg_lsum]; omega
theorem rev_twice {l a b : List Ps} {id as' other : Int} {p : Ps} (h : rev l id as' = (a, 0)) (hp : look l id = some p) (h2 : rev a as' other = (b, 0)) (hl : b.length = l.length + 2) (c : Int) : bal b c = bal l c := by
  rcases rev_bal h hp c with ⟨h3, h4⟩ | ⟨h3, h4, h5⟩
  · subst h4
    obtain ⟨_, q, hq, _⟩ := rev_cases h2
    rcases rev_bal h2 hq c with ⟨h6, _⟩ | ⟨h6, _, _⟩ <;> omega
  · obtain ⟨oka, q, hq, hpo⟩ := rev_cases h2
    have hm : (as', neg p.2) ∈ a := by rw [h4]; simp
    have e := look_mem oka hm
    obtain rfl := Option.some.inj (hq.symm.trans e)
    rcases rev_bal h2 hq c with ⟨h6, _⟩ | ⟨_, h6, h7⟩
    · omega
    · rw [h7, bal_one, neg_lsum, h5, bal_one]; omega
end Lg
end Go.Proofs.YtandlmnbnjkklaaGreatDoor
namespace Go.Proofs.YtandlmnbnjkklaaGreatDoor
namespace Pen
def amt (p : Int) : Bool := decide (-1099511627776 ≤ p) && decide (p ≤ 1099511627776)
theorem amt_yes (p : Int) (h : amt p = true) : -1099511627776 ≤ p ∧ p ≤ 1099511627776 := by simpa [amt] using h
theorem amt_no (p : Int) (h : amt p = false) : p < -1099511627776 ∨ 1099511627776 < p := by simp [amt] at h; omega
theorem amt_mk (p : Int) (h1 : -1099511627776 ≤ p) (h2 : p ≤ 1099511627776) : amt p = true := by simp [amt, h1, h2]
theorem amt_not (p : Int) (h : p < -1099511627776 ∨ 1099511627776 < p) : amt p = false := by simp [amt]; omega
theorem amt_neg (p : Int) : amt (-p) = amt p := by rw [Bool.eq_iff_iff]; simp [amt]; omega
/-- the sum of a list, or why not -/
def bad (l : List Int) : Bool := l.any fun p => !amt p
def tot (l : List Int) : Int := if bad l = true then 0 else if amt l.sum = true then l.sum else 0
def totE (l : List Int) : Int := if bad l = true then 3 else if amt l.sum = true then 0 else 8
theorem take_succ1 (l : List Int) (k : Nat) (x : Int) (h : l[k]? = some x) : l.take (k + 1) = l.take k ++ [x] := by
  rw [List.take_add_one, h]; rfl
theorem bad_succ (l : List Int) (k : Nat) (x : Int) (h : l[k]? = some x) (h0 : bad (l.take k) = false) (hx : amt x = true) : bad (l.take (k + 1)) = false := by
  rw [take_succ1 l k x h]; unfold bad at *; rw [List.any_append, h0]; simp [hx]
theorem bad_at (l : List Int) (k : Nat) (x : Int) (h : l[k]? = some x) (hx : amt x = false) : bad l = true := by
  unfold bad; rw [List.any_eq_true]; exact ⟨x, List.mem_of_getElem? h, by simp [hx]⟩
theorem sum_succ (l : List Int) (k : Nat) (x : Int) (h : l[k]? = some x) : (l.take (k + 1)).sum = (l.take k).sum + x := by
  rw [take_succ1 l k x h, List.sum_append]; simp
theorem sum_bd : ∀ (l : List Int), bad l = false → -1099511627776 * (l.length : Int) ≤ l.sum ∧ l.sum ≤ 1099511627776 * (l.length : Int)
  | [], _ => by simp
  | x :: l, h => by
    have h' : amt x = true ∧ bad l = false := by
      unfold bad at h ⊢; rw [List.any_cons, Bool.or_eq_false_iff] at h; exact ⟨by simpa using h.1, h.2⟩
    have ih := sum_bd l h'.2
    have hx := amt_yes x h'.1
    rw [List.sum_cons, List.length_cons]
    omega
/-- whether one more is asked for: of whole den-ths q, and r beside them -/
def upB (q r d way : Int) : Bool := decide ((way = 2 ∧ 0 < r) ∨ (way = 3 ∧ d ≤ 2 * r) ∨ (way = 4 ∧ (d < 2 * r ∨ (2 * r = d ∧ q % 2 = 1))))
def rnd (n d way : Int) : Int := if upB (n / d) (n % d) d way = true then n / d + 1 else n / d
/-- the part without its checks -/
def raw (p num d way : Int) : Int := if p < 0 then -(rnd (-(p * num)) d way) else rnd (p * num) d way
/-- why there is no part: 0 where there is one -/
def partE (p num d way : Int) : Int :=
  if amt p = false then 3 else if way < 1 ∨ 4 < way then 7 else if num < 0 ∨ 100000 < num ∨ d < 1 ∨ 100000 < d then 3 else if amt (raw p num d way) = false then 8 else 0
def part (p num d way : Int) : Int := if partE p num d way = 0 then raw p num d way else 0
theorem div_facts (n d : Int) (hd : 0 < d) : n = n / d * d + n % d ∧ 0 ≤ n % d ∧ n % d < d := by
  have h1 := Int.mul_ediv_add_emod n d
  have h2 := Int.emod_nonneg n (show d ≠ 0 by omega)
  have h3 := Int.emod_lt_of_pos n hd
  rw [Int.mul_comm] at h1
  omega
theorem div_one (n d q r : Int) (hd : 0 < d) (h : n = q * d + r) (h0 : 0 ≤ r) (h1 : r < d) : n / d = q ∧ n % d = r := by
  subst h
  constructor
  · rw [Int.add_comm, Int.add_mul_ediv_right _ _ (by omega), Int.ediv_eq_zero_of_lt h0 h1]; omega
  · rw [Int.add_comm, Int.add_mul_emod_self_right, Int.emod_eq_of_lt h0 h1]
theorem rnd_of (n d way q r : Int) (hd : 0 < d) (h : n = q * d + r) (h0 : 0 ≤ r) (h1 : r < d) : rnd n d way = if upB q r d way = true then q + 1 else q := by
  obtain ⟨e1, e2⟩ := div_one n d q r hd h h0 h1
  unfold rnd; rw [e1, e2]
theorem rnd_ex (n d way : Int) (hd : 0 < d) (hn : 0 ≤ n) : ∃ q r : Int, n = q * d + r ∧ 0 ≤ r ∧ r < d ∧ 0 ≤ q ∧ q ≤ n ∧ rnd n d way = if upB q r d way = true then q + 1 else q := by
  obtain ⟨a, b, c⟩ := div_facts n d hd
  refine ⟨n / d, n % d, a, b, c, Int.ediv_nonneg hn (by omega), Int.ediv_le_self _ hn, rfl⟩
theorem mul_bd (p num : Int) (h1 : -1099511627776 ≤ p) (h2 : p ≤ 1099511627776) (h3 : 0 ≤ num) (h4 : num ≤ 100000) : -109951162777600000 ≤ p * num ∧ p * num ≤ 109951162777600000 := by
  have a := Int.mul_le_mul_of_nonneg_right h1 h3
  have b := Int.mul_le_mul_of_nonneg_right h2 h3
  omega
end Pen
end Go.Proofs.YtandlmnbnjkklaaGreatDoor
