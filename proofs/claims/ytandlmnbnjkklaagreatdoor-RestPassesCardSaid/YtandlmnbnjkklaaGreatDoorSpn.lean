/- Plain mathematics of sets of days: spans that rise and don't touch are one form of a set; no program is named here. -/
namespace Go.Proofs.YtandlmnbnjkklaaGreatDoor
namespace Spn
abbrev Sp := Int × Int
/-- is a day one of the spans? -/
def mem (l : List Sp) (n : Int) : Prop := ∃ s ∈ l, s.1 ≤ n ∧ n < s.2
/-- none empty, rising, none touching the next; all from 'lo' on -/
def canonFrom : Int → List Sp → Prop
  | _, [] => True
  | lo, s :: l => lo < s.1 ∧ s.1 < s.2 ∧ canonFrom s.2 l
def canon : List Sp → Prop
  | [] => True
  | s :: l => s.1 < s.2 ∧ canonFrom s.2 l
theorem mem_nil (n : Int) : ¬ mem [] n := by rintro ⟨s, h, _⟩; cases h
theorem mem_cons (s : Sp) (l : List Sp) (n : Int) : mem (s :: l) n ↔ (s.1 ≤ n ∧ n < s.2) ∨ mem l n := by
  unfold mem
  constructor
  · rintro ⟨t, ht, h⟩
    rcases List.mem_cons.1 ht with rfl | ht
    · exact .inl h
    · exact .inr ⟨t, ht, h⟩
  · rintro (h | ⟨t, ht, h⟩)
    · exact ⟨s, List.mem_cons_self, h⟩
    · exact ⟨t, List.mem_cons_of_mem _ ht, h⟩
theorem mem_append (a b : List Sp) (n : Int) : mem (a ++ b) n ↔ mem a n ∨ mem b n := by
  induction a with
  | nil => simp [mem_nil]
  | cons s a ih => rw [List.cons_append, mem_cons, mem_cons, ih]; exact or_assoc.symm
theorem canonFrom_above : ∀ (l : List Sp) (lo : Int), canonFrom lo l → ∀ n, mem l n → lo < n
  | [], _, _, n, h => absurd h (mem_nil n)
  | s :: l, lo, ⟨h1, h2, h3⟩, n, h => by
    rcases (mem_cons s l n).1 h with h | h
    · omega
    · have := canonFrom_above l s.2 h3 n h; omega
theorem canonFrom_mono (l : List Sp) (lo lo' : Int) (h : lo' ≤ lo) (hc : canonFrom lo l) : canonFrom lo' l := by
  cases l with
  | nil => trivial
  | cons s l => exact ⟨by have := hc.1; omega, hc.2.1, hc.2.2⟩
theorem canon_iff (l : List Sp) : canon l ↔ ∃ lo, canonFrom lo l := by
  cases l with
  | nil => exact ⟨fun _ => ⟨0, trivial⟩, fun _ => trivial⟩
  | cons s l => exact ⟨fun h => ⟨s.1 - 1, by omega, h.1, h.2⟩, fun ⟨_, h⟩ => ⟨h.2.1, h.2.2⟩⟩
/-- A set has one form alone. -/
theorem canonFrom_unique : ∀ (a b : List Sp) (lo : Int), canonFrom lo a → canonFrom lo b → (∀ n, mem a n ↔ mem b n) → a = b
  | [], [], _, _, _, _ => rfl
  | [], t :: b, _, _, hb, h => absurd ((h t.1).2 ((mem_cons t b t.1).2 (.inl ⟨Int.le_refl _, hb.2.1⟩))) (mem_nil _)
  | s :: a, [], _, ha, _, h => absurd ((h s.1).1 ((mem_cons s a s.1).2 (.inl ⟨Int.le_refl _, ha.2.1⟩))) (mem_nil _)
  | s :: a, t :: b, lo, ⟨a1, a2, a3⟩, ⟨b1, b2, b3⟩, h => by
    have e1 : s.1 = t.1 := by
      have p := (h s.1).1 ((mem_cons s a s.1).2 (.inl ⟨Int.le_refl _, a2⟩))
      have q := (h t.1).2 ((mem_cons t b t.1).2 (.inl ⟨Int.le_refl _, b2⟩))
      have p' : t.1 ≤ s.1 := by
        rcases (mem_cons t b s.1).1 p with p | p
        · exact p.1
        · have := canonFrom_above b t.2 b3 _ p; omega
      have q' : s.1 ≤ t.1 := by
        rcases (mem_cons s a t.1).1 q with q | q
        · exact q.1
        · have := canonFrom_above a s.2 a3 _ q; omega
      omega
    have e2 : s.2 = t.2 := by
      rcases Int.lt_trichotomy s.2 t.2 with c | c | c
      · have q := (h s.2).2 ((mem_cons t b s.2).2 (.inl ⟨by omega, c⟩))
        rcases (mem_cons s a s.2).1 q with q | q
        · omega
        · have := canonFrom_above a s.2 a3 _ q; omega
      · exact c
      · have q := (h t.2).1 ((mem_cons s a t.2).2 (.inl ⟨by omega, c⟩))
        rcases (mem_cons t b t.2).1 q with q | q
        · omega
        · have := canonFrom_above b t.2 b3 _ q; omega
    have es : s = t := Prod.ext e1 e2
    subst es
    congr 1
    refine canonFrom_unique a b s.2 a3 b3 fun n => ?_
    by_cases hn : s.2 < n
    · have p := h n
      rw [mem_cons, mem_cons] at p
      constructor
      · intro q; rcases p.1 (.inr q) with r | r
        · omega
        · exact r
      · intro q; rcases p.2 (.inr q) with r | r
        · omega
        · exact r
    · constructor
      · intro q; have := canonFrom_above a s.2 a3 n q; omega
      · intro q; have := canonFrom_above b s.2 b3 n q; omega
theorem canon_unique (a b : List Sp) (ha : canon a) (hb : canon b) (h : ∀ n, mem a n ↔ mem b n) : a = b := by
  obtain ⟨x, hx⟩ := (canon_iff a).1 ha
  obtain ⟨y, hy⟩ := (canon_iff b).1 hb
  by_cases c : x ≤ y
  · exact canonFrom_unique a b x hx (canonFrom_mono b y x c hy) h
  · exact canonFrom_unique a b y (canonFrom_mono a x y (by omega) hx) hy h
/-- how many days -/
def size : List Sp → Int
  | [] => 0
  | s :: l => (s.2 - s.1) + size l
/-- is a day one of the spans? as a test -/
def memB (l : List Sp) (n : Int) : Bool := l.any fun s => decide (s.1 ≤ n) && decide (n < s.2)
theorem memB_iff (l : List Sp) (n : Int) : memB l n = true ↔ mem l n := by
  unfold memB mem; simp [List.any_eq_true]
theorem memB_cons (s : Sp) (l : List Sp) (n : Int) : memB (s :: l) n = ((decide (s.1 ≤ n) && decide (n < s.2)) || memB l n) := rfl
/-- the days from 'lo' on, 'k' of them, that are such -/
def cnt (p : Int → Bool) (lo : Int) : Nat → Int
  | 0 => 0
  | k + 1 => cnt p lo k + if p (lo + k) = true then 1 else 0
theorem cnt_add (p : Int → Bool) (lo : Int) (j : Nat) : ∀ k : Nat, cnt p lo (j + k) = cnt p lo j + cnt p (lo + j) k
  | 0 => by simp [cnt]
  | k + 1 => by
    have e : lo + (↑(j + k) : Int) = lo + ↑j + ↑k := by omega
    show cnt p lo (j + k) + (if p (lo + (↑(j + k) : Int)) = true then 1 else 0) = cnt p lo j + (cnt p (lo + j) k + (if p (lo + ↑j + ↑k) = true then 1 else 0))
    rw [cnt_add p lo j k, e]; omega
theorem cnt_congr (p q : Int → Bool) (lo : Int) : ∀ k : Nat, (∀ n, lo ≤ n → n < lo + k → p n = q n) → cnt p lo k = cnt q lo k
  | 0, _ => rfl
  | k + 1, h => by
    show cnt p lo k + _ = cnt q lo k + _
    rw [cnt_congr p q lo k (fun n a b => h n a (by omega)), h (lo + k) (by omega) (by omega)]
theorem cnt_all (p : Int → Bool) (lo : Int) : ∀ k : Nat, (∀ n, lo ≤ n → n < lo + k → p n = true) → cnt p lo k = k
  | 0, _ => rfl
  | k + 1, h => by
    show cnt p lo k + _ = _
    rw [cnt_all p lo k (fun n a b => h n a (by omega)), if_pos (h (lo + k) (by omega) (by omega))]; omega
theorem cnt_none (p : Int → Bool) (lo : Int) : ∀ k : Nat, (∀ n, lo ≤ n → n < lo + k → p n = false) → cnt p lo k = 0
  | 0, _ => rfl
  | k + 1, h => by
    show cnt p lo k + _ = _
    rw [cnt_none p lo k (fun n a b => h n a (by omega)), if_neg (by rw [h (lo + k) (by omega) (by omega)]; decide)]; rfl
/-- two pairs of tests that count alike on each day count alike -/
theorem cnt_pair (p q r t : Int → Bool) (lo : Int) (h : ∀ n, (if p n = true then (1 : Int) else 0) + (if q n = true then 1 else 0) = (if r n = true then 1 else 0) + (if t n = true then 1 else 0)) :
    ∀ k : Nat, cnt p lo k + cnt q lo k = cnt r lo k + cnt t lo k
  | 0 => rfl
  | k + 1 => by
    have := h (lo + k)
    have := cnt_pair p q r t lo h k
    show (cnt p lo k + _) + (cnt q lo k + _) = (cnt r lo k + _) + (cnt t lo k + _)
    omega
theorem size_cnt : ∀ (l : List Sp) (lo : Int) (k : Nat), canonFrom (lo - 1) l → (∀ s ∈ l, s.2 ≤ lo + k) → size l = cnt (memB l) lo k
  | [], lo, k, _, _ => (cnt_none _ lo k (fun _ _ _ => rfl)).symm
  | s :: l, lo, k, ⟨h1, h2, h3⟩, hb => by
    have hs := hb s List.mem_cons_self
    obtain ⟨i, hi⟩ : ∃ i : Nat, (i : Int) = s.1 - lo := ⟨(s.1 - lo).toNat, by omega⟩
    obtain ⟨j, hj⟩ : ∃ j : Nat, (j : Int) = s.2 - s.1 := ⟨(s.2 - s.1).toNat, by omega⟩
    obtain ⟨m, hm⟩ : ∃ m : Nat, (m : Int) = lo + k - s.2 := ⟨(lo + k - s.2).toNat, by omega⟩
    have hk : k = i + (j + m) := by omega
    subst hk
    rw [cnt_add, cnt_add]
    have e1 : lo + (i : Int) = s.1 := by omega
    have e2 : s.1 + (j : Int) = s.2 := by omega
    rw [e1, e2]
    have above : ∀ n, n ≤ s.2 → memB l n = false := by
      intro n hn
      cases hq : memB l n with
      | false => rfl
      | true =>
        have := canonFrom_above l s.2 h3 n ((memB_iff l n).1 hq); omega
    have c1 : cnt (memB (s :: l)) lo i = 0 := cnt_none _ _ _ fun n a b => by
      rw [memB_cons, above n (by omega)]; simp; omega
    have c2 : cnt (memB (s :: l)) s.1 j = j := cnt_all _ _ _ fun n a b => by
      rw [memB_cons]; simp; left; omega
    have c3 : cnt (memB (s :: l)) s.2 m = cnt (memB l) s.2 m := cnt_congr _ _ _ _ fun n a b => by
      rw [memB_cons]
      have : decide (n < s.2) = false := by simp; omega
      rw [this]; simp
    have ih := size_cnt l s.2 m (canonFrom_mono l s.2 (s.2 - 1) (by omega) h3) (fun t ht => by have := hb t (List.mem_cons_of_mem _ ht); omega)
    show (s.2 - s.1) + size l = _
    rw [c1, c2, c3, ← ih]; omega
/-- by neighbours: what a look over the spans asks, one by one -/
theorem canon_iff_pair (l : List Sp) : canon l ↔ (∀ s ∈ l, s.1 < s.2) ∧ l.Pairwise (fun s t => s.2 < t.1) := by
  have key : ∀ (l : List Sp) (lo : Int), canonFrom lo l ↔ (∀ s ∈ l, lo < s.1) ∧ (∀ s ∈ l, s.1 < s.2) ∧ l.Pairwise (fun s t => s.2 < t.1) := by
    intro l
    induction l with
    | nil => intro lo; simp [canonFrom]
    | cons s l ih =>
      intro lo
      show (lo < s.1 ∧ s.1 < s.2 ∧ canonFrom s.2 l) ↔ _
      rw [ih s.2, List.pairwise_cons]
      constructor
      · rintro ⟨a, b, c, d, e⟩
        refine ⟨?_, ?_, c, e⟩
        · intro t ht
          rcases List.mem_cons.1 ht with rfl | ht
          · exact a
          · have := c t ht; omega
        · intro t ht
          rcases List.mem_cons.1 ht with rfl | ht
          · exact b
          · exact d t ht
      · rintro ⟨a, b, c, e⟩
        exact ⟨a s List.mem_cons_self, b s List.mem_cons_self, c, fun t ht => b t (List.mem_cons_of_mem _ ht), e⟩
  cases l with
  | nil => simp [canon]
  | cons s l =>
    show (s.1 < s.2 ∧ canonFrom s.2 l) ↔ _
    rw [key l s.2, List.pairwise_cons]
    constructor
    · rintro ⟨b, c, d, e⟩
      refine ⟨?_, c, e⟩
      intro t ht
      rcases List.mem_cons.1 ht with rfl | ht
      · exact b
      · exact d t ht
    · rintro ⟨b, c, e⟩
      exact ⟨b s List.mem_cons_self, c, fun t ht => b t (List.mem_cons_of_mem _ ht), e⟩
theorem canon_snoc (l : List Sp) (x y : Int) : canon (l ++ [(x, y)]) ↔ canon l ∧ x < y ∧ ∀ s ∈ l, s.2 < x := by
  rw [canon_iff_pair, canon_iff_pair, List.pairwise_append]
  simp only [List.mem_append, List.mem_singleton]
  constructor
  · rintro ⟨a, b, _, d⟩
    exact ⟨⟨fun s hs => a s (.inl hs), b⟩, a (x, y) (.inr rfl), fun s hs => d s hs (x, y) rfl⟩
  · rintro ⟨⟨a, b⟩, c, d⟩
    refine ⟨?_, b, List.pairwise_singleton _ _, ?_⟩
    · rintro s (hs | rfl)
      · exact a s hs
      · exact c
    · rintro s hs t rfl
      exact d s hs
/-- one step of a sweep: days from x on ahead of y are added behind what is there -/
def push (out : List Sp) (x y : Int) : List Sp :=
  match out.getLast? with
  | none => [(x, y)]
  | some s => if s.2 = x then out.dropLast ++ [(s.1, y)] else out ++ [(x, y)]
/-- what has been swept up to x: right, and just the days below x that are such -/
structure Swept (p : Int → Prop) (x : Int) (out : List Sp) : Prop where
  canon : canon out
  upto : ∀ s ∈ out, s.2 ≤ x
  mem : ∀ n, mem out n ↔ p n ∧ n < x
theorem Swept.skip {p : Int → Prop} {x y : Int} {out : List Sp} (h : Swept p x out) (hxy : x ≤ y) (hp : ∀ n, x ≤ n → n < y → ¬ p n) : Swept p y out :=
  ⟨h.canon, fun s hs => by have := h.upto s hs; omega, fun n => by
    rw [h.mem n]
    constructor
    · rintro ⟨a, b⟩; exact ⟨a, by omega⟩
    · rintro ⟨a, b⟩
      by_cases c : n < x
      · exact ⟨a, c⟩
      · exact absurd a (hp n (by omega) b)⟩
theorem Swept.push {p : Int → Prop} {x y : Int} {out : List Sp} (h : Swept p x out) (hxy : x < y) (hp : ∀ n, x ≤ n → n < y → p n) : Swept p y (push out x y) := by
  rcases List.eq_nil_or_concat out with rfl | ⟨l, s, rfl⟩
  · refine ⟨⟨hxy, trivial⟩, ?_, ?_⟩
    · intro s hs
      rcases List.mem_singleton.1 hs with rfl
      exact Int.le_refl _
    · intro n
      show Spn.mem [(x, y)] n ↔ _
      rw [mem_cons]
      have := h.mem n
      simp only [mem_nil, false_iff, not_and, Int.not_lt, or_false] at this ⊢
      constructor
      · rintro ⟨a, b⟩; exact ⟨hp n a b, b⟩
      · rintro ⟨a, b⟩; exact ⟨this a, b⟩
  · rw [List.concat_eq_append] at h ⊢
    have hu := h.upto s (by simp)
    have hc : Spn.canon (l ++ [(s.1, s.2)]) := h.canon
    rw [canon_snoc] at hc
    have hm : ∀ n, (Spn.mem l n ∨ (s.1 ≤ n ∧ n < s.2)) ↔ p n ∧ n < x := by
      intro n
      rw [← h.mem n, mem_append, mem_cons]
      simp [mem_nil]
    have hul : ∀ t ∈ l, t.2 < s.1 := hc.2.2
    unfold Spn.push
    rw [List.getLast?_append]
    simp only [List.getLast?_singleton, Option.some_or, List.dropLast_concat]
    by_cases e : s.2 = x
    · rw [if_pos e]
      refine ⟨?_, ?_, ?_⟩
      · rw [canon_snoc]
        exact ⟨hc.1, by have := hc.2.1; omega, hul⟩
      · intro t ht
        rcases List.mem_append.1 ht with ht | ht
        · have := hul t ht; have := hc.2.1; omega
        · rcases List.mem_singleton.1 ht with rfl; exact Int.le_refl _
      · intro n
        rw [mem_append, mem_cons]
        simp only [mem_nil, or_false]
        have := hm n
        constructor
        · rintro (a | ⟨a, b⟩)
          · have := this.1 (.inl a); exact ⟨this.1, by omega⟩
          · by_cases c : n < x
            · exact ⟨(this.1 (.inr ⟨a, by omega⟩)).1, b⟩
            · exact ⟨hp n (by omega) b, b⟩
        · rintro ⟨a, b⟩
          by_cases c : n < x
          · rcases this.2 ⟨a, c⟩ with d | d
            · exact .inl d
            · exact .inr ⟨d.1, b⟩
          · exact .inr ⟨by have := hc.2.1; omega, b⟩
    · rw [if_neg e]
      refine ⟨?_, ?_, ?_⟩
      · rw [canon_snoc]
        refine ⟨h.canon, hxy, ?_⟩
        intro t ht
        rcases List.mem_append.1 ht with ht | ht
        · have := hul t ht; have := hc.2.1; omega
        · rcases List.mem_singleton.1 ht with rfl; omega
      · intro t ht
        rcases List.mem_append.1 ht with ht | ht
        · rcases List.mem_append.1 ht with ht | ht
          · have := hul t ht; have := hc.2.1; omega
          · rcases List.mem_singleton.1 ht with rfl; omega
        · rcases List.mem_singleton.1 ht with rfl; exact Int.le_refl _
      · intro n
        rw [mem_append, mem_append, mem_cons, mem_cons]
        simp only [mem_nil, or_false]
        have := hm n
        constructor
        · rintro (a | ⟨a, b⟩)
          · have := this.1 a; exact ⟨this.1, by omega⟩
          · exact ⟨hp n a b, b⟩
        · rintro ⟨a, b⟩
          by_cases c : n < x
          · exact .inl (this.2 ⟨a, c⟩)
          · exact .inr ⟨by omega, b⟩
/-- a number that is too far -/
def far (n : Int) : Bool := decide (n < -1099511627776) || decide (1099511627776 < n)
/-- the look over a set, span by span: what is told of the first that is not right -/
def chkFrom : Option Int → List Sp → Int
  | _, [] => 0
  | p, s :: l => if (far s.1 || far s.2) = true then 3 else if s.2 ≤ s.1 then 1 else if (match p with | none => false | some q => decide (s.1 ≤ q)) = true then 4 else chkFrom (some s.2) l
def chk (l : List Sp) : Int := if 64 < l.length then 2 else chkFrom none l
def chkAt (l : List Sp) (k : Nat) : Int := chkFrom (if k = 0 then none else (l[k - 1]?).map (·.2)) (l.drop k)
theorem chkAt_zero (l : List Sp) : chkAt l 0 = chkFrom none l := rfl
theorem chkAt_end (l : List Sp) (k : Nat) (h : l.length ≤ k) : chkAt l k = 0 := by
  unfold chkAt; rw [List.drop_eq_nil_of_le h]; rfl
theorem chkAt_succ (l : List Sp) (k : Nat) (x y : Int) (h : l[k]? = some (x, y)) :
    chkAt l k = if (far x || far y) = true then 3 else if y ≤ x then 1 else if (match (if k = 0 then none else (l[k - 1]?).map (·.2)) with | none => false | some q => decide (x ≤ q)) = true then 4 else chkAt l (k + 1) := by
  have hk : k < l.length := by
    rcases Nat.lt_or_ge k l.length with c | c
    · exact c
    · rw [List.getElem?_eq_none c] at h; cases h
  have hd : l.drop k = (x, y) :: l.drop (k + 1) := by
    rw [List.drop_eq_getElem_cons hk]
    rw [List.getElem?_eq_getElem hk] at h
    rw [Option.some.inj h]
  have e : chkAt l (k + 1) = chkFrom (some y) (l.drop (k + 1)) := by
    unfold chkAt
    rw [if_neg (by omega), Nat.add_sub_cancel, h]; rfl
  rw [e]
  unfold chkAt
  rw [hd]
  rfl
theorem chkFrom_zero : ∀ (l : List Sp) (p : Option Int), chkFrom p l = 0 ↔ (∀ s ∈ l, far s.1 = false ∧ far s.2 = false) ∧ (match p with | none => canon l | some q => canonFrom q l)
  | [], p => by cases p <;> simp [chkFrom, canon, canonFrom]
  | s :: l, p => by
    have ih := chkFrom_zero l (some s.2)
    simp only at ih
    unfold chkFrom
    cases hf : far s.1 <;> cases hg : far s.2 <;> simp [hf, hg]
    by_cases h1 : s.2 ≤ s.1
    · rw [if_pos h1]
      cases p with
      | none => simp [canon]; intro _ h; omega
      | some q => simp [canonFrom]; intro _ h1 h; omega
    · rw [if_neg h1]
      cases p with
      | none =>
        simp [canon]
        rw [ih]
        constructor
        · rintro ⟨a, b⟩; exact ⟨fun x y h => a (x, y) h, by omega, b⟩
        · rintro ⟨a, _, b⟩; exact ⟨fun t h => a t.1 t.2 h, b⟩
      | some q =>
        simp [canonFrom]
        by_cases h2 : s.1 ≤ q
        · rw [if_pos h2]; simp; intro _ h; omega
        · rw [if_neg h2, ih]
          constructor
          · rintro ⟨a, b⟩; exact ⟨fun x y h => a (x, y) h, by omega, by omega, b⟩
          · rintro ⟨a, _, _, b⟩; exact ⟨fun t h => a t.1 t.2 h, b⟩
/-- a set that is right: few spans, none too far, in the one form -/
theorem chk_zero (l : List Sp) : chk l = 0 ↔ l.length ≤ 64 ∧ (∀ s ∈ l, far s.1 = false ∧ far s.2 = false) ∧ canon l := by
  unfold chk
  by_cases h : 64 < l.length
  · rw [if_pos h]; simp; intro; omega
  · rw [if_neg h, chkFrom_zero]
    exact ⟨fun a => ⟨by omega, a⟩, fun a => a.2⟩
end Spn
end Go.Proofs.YtandlmnbnjkklaaGreatDoor
