/- Plain mathematics of the cheapest cover: the least price of so many days, the table that the program fills, the one that the document's answer fills, and the plan. -/
namespace Go.Proofs.Ythokgbbolijgiaa
namespace Cv
/-- an offer: its days, its price -/
abbrev Off := Int × Int
def okO (o : Off) : Bool := decide (1 ≤ o.1 ∧ o.1 ≤ 400 ∧ 0 ≤ o.2 ∧ o.2 ≤ 1000000)
theorem okO_iff (o : Off) : okO o = true ↔ 1 ≤ o.1 ∧ o.1 ≤ 400 ∧ 0 ≤ o.2 ∧ o.2 ≤ 1000000 := by unfold okO; exact decide_eq_true_iff
def chk (l : List Off) : Int := if l.length = 0 then 5 else if 8 < l.length then 2 else if l.all okO then 0 else 3
def code (l : List Off) (d : Int) : Int := if chk l = 0 then (if 0 ≤ d ∧ d ≤ 400 then 0 else 3) else chk l
/-- offers that there are -/
structure Ok (l : List Off) : Prop where
  n0 : 0 < l.length
  n8 : l.length ≤ 8
  all : ∀ o ∈ l, 1 ≤ o.1 ∧ o.1 ≤ 400 ∧ 0 ≤ o.2 ∧ o.2 ≤ 1000000
theorem chk_ok (l : List Off) : chk l = 0 ↔ Ok l := by
  unfold chk
  constructor
  · intro h
    by_cases h1 : l.length = 0
    · rw [if_pos h1] at h; cases h
    rw [if_neg h1] at h
    by_cases h2 : 8 < l.length
    · rw [if_pos h2] at h; cases h
    rw [if_neg h2] at h
    by_cases h3 : l.all okO = true
    · exact ⟨by omega, by omega, fun o ho => (okO_iff o).1 (List.all_eq_true.1 h3 o ho)⟩
    · rw [if_neg h3] at h; cases h
  · rintro ⟨h1, h2, h3⟩
    rw [if_neg (by omega), if_neg (by omega), if_pos (List.all_eq_true.2 fun o ho => (okO_iff o).2 (h3 o ho))]
theorem chk_cases (l : List Off) : chk l = 0 ∨ chk l = 2 ∨ chk l = 3 ∨ chk l = 5 := by
  unfold chk
  repeat' split
  all_goals simp
theorem code_ok (l : List Off) (d : Int) : code l d = 0 ↔ Ok l ∧ 0 ≤ d ∧ d ≤ 400 := by
  unfold code
  rw [← chk_ok]
  by_cases h : chk l = 0
  · rw [if_pos h]
    by_cases h2 : 0 ≤ d ∧ d ≤ 400
    · rw [if_pos h2]; exact ⟨fun _ => ⟨h, h2⟩, fun _ => rfl⟩
    · rw [if_neg h2]; exact ⟨fun e => absurd e (by decide), fun e => absurd e.2 h2⟩
  · rw [if_neg h]; exact ⟨fun e => absurd e h, fun e => e.1⟩
theorem code_cases (l : List Off) (d : Int) : code l d = 0 ∨ code l d = 2 ∨ code l d = 3 ∨ code l d = 5 := by
  unfold code
  have := chk_cases l
  repeat' split
  all_goals omega

/-- an offer for the first of d days: its price, and what is left -/
def wth (B : Nat → Int) (d : Nat) (o : Off) : Int := o.2 + B (d - o.1.toNat)
/-- of the first n offers the least one -/
def mn (B : Nat → Int) (d : Nat) : List Off → Int
  | [] => 0
  | o :: r => r.foldl (fun m p => min m (wth B d p)) (wth B d o)
def tab (l : List Off) : Nat → Nat → Int
  | 0 => fun _ => 0
  | n + 1 => fun d => if d = n + 1 then mn (tab l n) (n + 1) l else tab l n d
def best (l : List Off) (d : Nat) : Int := tab l d d
theorem tab_low (l : List Off) : ∀ n d, d ≤ n → tab l n d = best l d
  | 0, d, h => by
    obtain rfl : d = 0 := by omega
    rfl
  | n + 1, d, h => by
    by_cases e : d = n + 1
    · subst e; rfl
    · show (if d = n + 1 then _ else tab l n d) = _
      rw [if_neg e]
      exact tab_low l n d (by omega)
theorem tab_high (l : List Off) : ∀ n d, n < d → tab l n d = 0
  | 0, d, h => rfl
  | n + 1, d, h => by
    show (if d = n + 1 then _ else tab l n d) = _
    rw [if_neg (by omega)]
    exact tab_high l n d (by omega)
/-- the table: filled up to (not with) k, and m at k -/
def cut (B : Nat → Int) (k : Nat) (m : Int) (d : Nat) : Int := if d < k then B d else if d = k then m else 0
theorem mn_snoc (B : Nat → Int) (d : Nat) (o p : Off) (r : List Off) : mn B d ((o :: r) ++ [p]) = min (mn B d (o :: r)) (wth B d p) := by
  show (r ++ [p]).foldl _ _ = _
  rw [List.foldl_append]; rfl
theorem fold_le (B : Nat → Int) (d : Nat) : ∀ (r : List Off) (m : Int), r.foldl (fun m p => min m (wth B d p)) m ≤ m ∧ (∀ p ∈ r, r.foldl (fun m p => min m (wth B d p)) m ≤ wth B d p)
  | [], m => ⟨Int.le_refl _, fun p hp => by cases hp⟩
  | q :: r, m => by
    obtain ⟨h1, h2⟩ := fold_le B d r (min m (wth B d q))
    refine ⟨by rw [List.foldl_cons]; omega, fun p hp => ?_⟩
    rw [List.foldl_cons]
    rcases List.mem_cons.1 hp with rfl | hp
    · omega
    · exact h2 p hp
theorem fold_is (B : Nat → Int) (d : Nat) : ∀ (r : List Off) (m : Int), r.foldl (fun m p => min m (wth B d p)) m = m ∨ ∃ p ∈ r, r.foldl (fun m p => min m (wth B d p)) m = wth B d p
  | [], m => .inl rfl
  | q :: r, m => by
    rw [List.foldl_cons]
    rcases fold_is B d r (min m (wth B d q)) with h | ⟨p, hp, h⟩
    · rw [h]
      by_cases c : m ≤ wth B d q
      · exact .inl (by omega)
      · exact .inr ⟨q, .head _, by omega⟩
    · exact .inr ⟨p, .tail _ hp, h⟩
theorem mn_le (B : Nat → Int) (d : Nat) (l : List Off) (o : Off) (h : o ∈ l) : mn B d l ≤ wth B d o := by
  cases l with
  | nil => cases h
  | cons q r =>
    rcases List.mem_cons.1 h with rfl | h
    · exact (fold_le B d r _).1
    · exact (fold_le B d r _).2 o h
theorem mn_is (B : Nat → Int) (d : Nat) (l : List Off) (h : 0 < l.length) : ∃ o ∈ l, mn B d l = wth B d o := by
  cases l with
  | nil => cases h
  | cons q r =>
    rcases fold_is B d r (wth B d q) with e | ⟨p, hp, e⟩
    · exact ⟨q, .head _, e⟩
    · exact ⟨p, .tail _ hp, e⟩
theorem mn_congr (B C : Nat → Int) (d : Nat) (l : List Off) (h : ∀ o ∈ l, B (d - o.1.toNat) = C (d - o.1.toNat)) : mn B d l = mn C d l := by
  cases l with
  | nil => rfl
  | cons q r =>
    have e : wth B d q = wth C d q := by unfold wth; rw [h q (.head _)]
    show r.foldl _ (wth B d q) = r.foldl _ (wth C d q)
    rw [e]
    have : ∀ (r : List Off) (m : Int), (∀ o ∈ r, B (d - o.1.toNat) = C (d - o.1.toNat)) → r.foldl (fun m p => min m (wth B d p)) m = r.foldl (fun m p => min m (wth C d p)) m := by
      intro r
      induction r with
      | nil => intros; rfl
      | cons p r ih =>
        intro m hh
        rw [List.foldl_cons, List.foldl_cons]
        have e : wth B d p = wth C d p := by unfold wth; rw [hh p (.head _)]
        rw [e]
        exact ih _ (fun o ho => hh o (.tail _ ho))
    exact this r _ (fun o ho => h o (.tail _ ho))
theorem best_zero (l : List Off) : best l 0 = 0 := rfl
theorem best_succ (l : List Off) (ok : Ok l) (d : Nat) (hd : 0 < d) : best l d = mn (best l) d l := by
  obtain ⟨n, rfl⟩ : ∃ n, d = n + 1 := ⟨d - 1, by omega⟩
  show (if n + 1 = n + 1 then mn (tab l n) (n + 1) l else _) = _
  rw [if_pos rfl]
  refine mn_congr _ _ _ _ fun o ho => ?_
  have := ok.all o ho
  exact tab_low l n _ (by omega)
theorem best_le (l : List Off) (ok : Ok l) (d : Nat) (hd : 0 < d) (o : Off) (ho : o ∈ l) : best l d ≤ o.2 + best l (d - o.1.toNat) := by
  rw [best_succ l ok d hd]; exact mn_le _ _ _ _ ho
theorem best_is (l : List Off) (ok : Ok l) (d : Nat) (hd : 0 < d) : ∃ o ∈ l, best l d = o.2 + best l (d - o.1.toNat) := by
  rw [best_succ l ok d hd]; exact mn_is _ _ _ ok.n0
theorem best_nonneg (l : List Off) (ok : Ok l) (d : Nat) : 0 ≤ best l d := by
  induction d using Nat.strongRecOn with
  | ind d ih =>
    by_cases h : d = 0
    · subst h; exact Int.le_refl _
    · obtain ⟨o, ho, e⟩ := best_is l ok d (by omega)
      have hb := ok.all o ho
      have := ih (d - o.1.toNat) (by omega)
      omega
theorem best_top (l : List Off) (ok : Ok l) (d : Nat) : best l d ≤ d * 1000000 := by
  induction d using Nat.strongRecOn with
  | ind d ih =>
    by_cases h : d = 0
    · subst h; exact Int.le_refl _
    · obtain ⟨o, ho, e⟩ := best_is l ok d (by omega)
      have hb := ok.all o ho
      have := ih (d - o.1.toNat) (by omega)
      omega
theorem best_mono (l : List Off) (ok : Ok l) : ∀ b a : Nat, a ≤ b → best l a ≤ best l b := by
  intro b
  induction b using Nat.strongRecOn with
  | ind b ih =>
    intro a h
    by_cases h0 : a = 0
    · subst h0; exact best_nonneg l ok b
    · obtain ⟨o, ho, e⟩ := best_is l ok b (by omega)
      have hb := ok.all o ho
      have h1 := best_le l ok a (by omega) o ho
      have h2 := ih (b - o.1.toNat) (by omega) (a - o.1.toNat) (by omega)
      omega
/-- an offer more: covered as well -/
theorem best_off (l : List Off) (ok : Ok l) (d : Nat) (o : Off) (ho : o ∈ l) : best l d ≤ o.2 + best l (d - o.1.toNat) := by
  by_cases h : d = 0
  · subst h
    have := ok.all o ho
    have := best_nonneg l ok (0 - o.1.toNat)
    rw [best_zero]; omega
  · exact best_le l ok d (by omega) o ho
theorem best_add (l : List Off) (ok : Ok l) (b : Nat) : ∀ a : Nat, best l (a + b) ≤ best l a + best l b := by
  intro a
  induction a using Nat.strongRecOn with
  | ind a ih =>
    by_cases h0 : a = 0
    · subst h0; rw [Nat.zero_add, best_zero]; omega
    · obtain ⟨o, ho, e⟩ := best_is l ok a (by omega)
      have hb := ok.all o ho
      have h1 := best_le l ok (a + b) (by omega) o ho
      by_cases c : o.1.toNat ≤ a
      · have h2 := ih (a - o.1.toNat) (by omega)
        have e2 : a + b - o.1.toNat = a - o.1.toNat + b := by omega
        rw [e2] at h1
        omega
      · have h2 := best_mono l ok b (a + b - o.1.toNat) (by omega)
        have e2 : a - o.1.toNat = 0 := by omega
        rw [e2, best_zero] at e
        omega
theorem best_many (l : List Off) (ok : Ok l) (o : Off) (ho : o ∈ l) (d : Nat) : ∀ n : Nat, best l d ≤ n * o.2 + best l (d - n * o.1.toNat)
  | 0 => by simp
  | n + 1 => by
    have h1 := best_many l ok o ho d n
    have h2 := best_off l ok (d - n * o.1.toNat) o ho
    have e : d - n * o.1.toNat - o.1.toNat = d - (n + 1) * o.1.toNat := by rw [Nat.add_mul, Nat.one_mul]; omega
    rw [e] at h2
    have e2 : ((n + 1 : Nat) : Int) * o.2 = n * o.2 + o.2 := by rw [Int.natCast_add, Int.add_mul]; simp
    omega
theorem best_more (l r : List Off) (ok : Ok l) (ok2 : Ok (l ++ r)) (d : Nat) : best (l ++ r) d ≤ best l d := by
  induction d using Nat.strongRecOn with
  | ind d ih =>
    by_cases h0 : d = 0
    · subst h0; exact Int.le_refl _
    · obtain ⟨o, ho, e⟩ := best_is l ok d (by omega)
      have hb := ok.all o ho
      have h1 := best_le (l ++ r) ok2 d (by omega) o (List.mem_append_left _ ho)
      have h2 := ih (d - o.1.toNat) (by omega)
      omega
/-- The document's table: offer by offer. -/
def none' (d : Nat) : Int := if d = 0 then 0 else -1
def upd (B C : Nat → Int) (d : Nat) (o : Off) : Int := if 0 ≤ C (d - o.1.toNat) ∧ (B d < 0 ∨ C (d - o.1.toNat) + o.2 < B d) then C (d - o.1.toNat) + o.2 else B d
/-- behind i offers: nothing yet, or the best of these -/
def tabR (l : List Off) (i : Nat) (d : Nat) : Int := if i = 0 then none' d else best (l.take i) d
theorem Ok.take {l : List Off} (ok : Ok l) (i : Nat) (h : 0 < i) : Ok (l.take i) :=
  ⟨by rw [List.length_take]; have := ok.n0; omega, by rw [List.length_take]; have := ok.n8; omega, fun o ho => ok.all o (List.mem_of_mem_take ho)⟩
theorem bell_unique (l : List Off) (ok : Ok l) (C : Nat → Int) (h0 : C 0 = 0) (hle : ∀ d, 0 < d → ∀ o ∈ l, C d ≤ o.2 + C (d - o.1.toNat)) (his : ∀ d, 0 < d → ∃ o ∈ l, o.2 + C (d - o.1.toNat) ≤ C d) : ∀ d, C d = best l d := by
  intro d
  induction d using Nat.strongRecOn with
  | ind d ih =>
    by_cases h : d = 0
    · subst h; exact h0
    · obtain ⟨o, ho, e⟩ := his d (by omega)
      obtain ⟨p, hp, f⟩ := best_is l ok d (by omega)
      have ho' := ok.all o ho
      have hp' := ok.all p hp
      have h1 := hle d (by omega) p hp
      have h2 := best_le l ok d (by omega) o ho
      have h3 := ih (d - o.1.toNat) (by omega)
      have h4 := ih (d - p.1.toNat) (by omega)
      omega
/-- what one more offer makes of a table that is the best of those ahead of it -/
theorem knap (l : List Off) (o : Off) (ok : Ok (l ++ [o])) (h : 0 < l.length) (d : Nat) (hd : 0 < d) :
    best (l ++ [o]) d = min (best l d) (best (l ++ [o]) (d - o.1.toNat) + o.2) := by
  have okl : Ok l := ⟨h, by have := ok.n8; simp at this; omega, fun p hp => ok.all p (List.mem_append_left _ hp)⟩
  have h1 := best_more l [o] okl ok d
  have h2 := best_le (l ++ [o]) ok d hd o (by simp)
  obtain ⟨p, hp, e⟩ := best_is (l ++ [o]) ok d hd
  -- the other way: by the number of days
  have key : ∀ d : Nat, best l d ≤ best (l ++ [o]) d ∨ best (l ++ [o]) (d - o.1.toNat) + o.2 ≤ best (l ++ [o]) d := by
    intro d
    induction d using Nat.strongRecOn with
    | ind d ih =>
      by_cases h0 : d = 0
      · subst h0; exact .inl (Int.le_refl _)
      · obtain ⟨p, hp, e⟩ := best_is (l ++ [o]) ok d (by omega)
        have hpo := ok.all p hp
        have hoo := ok.all o (by simp)
        rcases List.mem_append.1 hp with hp | hp
        · rcases ih (d - p.1.toNat) (by omega) with c | c
          · have := best_le l okl d (by omega) p hp
            exact .inl (by omega)
          · have h3 := best_off (l ++ [o]) ok (d - o.1.toNat) p (List.mem_append_left _ hp)
            have e2 : d - o.1.toNat - p.1.toNat = d - p.1.toNat - o.1.toNat := by omega
            rw [e2] at h3
            exact .inr (by omega)
        · rw [List.mem_singleton] at hp
          subst hp
          exact .inr (by omega)
  rcases key d with c | c <;> omega
theorem one_best (o : Off) (ok : Ok [o]) (d : Nat) (hd : 0 < d) : best [o] d = best [o] (d - o.1.toNat) + o.2 := by
  obtain ⟨p, hp, e⟩ := best_is [o] ok d hd
  rw [List.mem_singleton] at hp
  subst hp
  omega
theorem take_snoc (l : List Off) (i : Nat) (o : Off) (h : l[i]? = some o) : l.take (i + 1) = l.take i ++ [o] := by
  rw [List.take_add_one, h]; rfl
/-- one place of the document's table -/
theorem tabR_step (l : List Off) (ok : Ok l) (i : Nat) (o : Off) (h : l[i]? = some o) (d : Nat) (hd : 0 < d) : upd (tabR l i) (tabR l (i + 1)) d o = tabR l (i + 1) d := by
  have hi : i < l.length := by
    rcases Nat.lt_or_ge i l.length with c | c
    · exact c
    · rw [List.getElem?_eq_none c] at h; cases h
  have ok1 := ok.take (i + 1) (by omega)
  have e1 : ∀ d, tabR l (i + 1) d = best (l.take (i + 1)) d := fun d => by unfold tabR; rw [if_neg (by omega)]
  have hnn := best_nonneg (l.take (i + 1)) ok1 (d - o.1.toNat)
  have ho := ok.all o (List.mem_of_getElem? h)
  have ts := take_snoc l i o h
  unfold upd
  rw [e1, e1]
  by_cases h0 : i = 0
  · subst h0
    have e0 : tabR l 0 d = -1 := by unfold tabR none'; rw [if_pos rfl, if_neg (by omega)]
    rw [e0, if_pos ⟨hnn, .inl (by omega)⟩]
    rw [ts] at ok1 ⊢
    simp only [List.take_zero, List.nil_append] at ok1 ⊢
    exact (one_best o ok1 d hd).symm
  · have e0 : tabR l i d = best (l.take i) d := by unfold tabR; rw [if_neg h0]
    have hl : 0 < (l.take i).length := by rw [List.length_take]; omega
    have hnn2 := best_nonneg (l.take i) (ok.take i (by omega)) d
    rw [e0]
    rw [ts] at ok1 hnn ⊢
    have k := knap (l.take i) o ok1 hl d hd
    by_cases c : best (l.take i ++ [o]) (d - o.1.toNat) + o.2 < best (l.take i) d
    · rw [if_pos ⟨hnn, .inr c⟩]; omega
    · rw [if_neg (by omega)]; omega
theorem tabR_zero (l : List Off) (i : Nat) : tabR l i 0 = 0 := by
  unfold tabR
  split
  · rfl
  · rfl
theorem tabR_all (l : List Off) (ok : Ok l) (d : Nat) : tabR l l.length d = best l d := by
  unfold tabR
  have := ok.n0
  rw [if_neg (by omega), List.take_length]
theorem tabR_bd (l : List Off) (ok : Ok l) (i d : Nat) : -1 ≤ tabR l i d ∧ tabR l i d ≤ d * 1000000 := by
  unfold tabR
  split
  · unfold none'; split <;> omega
  · have ok1 := ok.take i (by omega)
    have := best_nonneg _ ok1 d
    have := best_top _ ok1 d
    omega
/-- behind offer i, its days done up to (not with) k -/
def mix (l : List Off) (i k d : Nat) : Int := if d < k then tabR l (i + 1) d else tabR l i d

/-- The plan: the first offer of those as good. -/
def isBest (l : List Off) (d : Nat) (o : Off) : Bool := decide (wth (best l) d o = best l d)
def first (l : List Off) (d : Nat) : Nat := l.findIdx (isBest l d)
theorem first_lt (l : List Off) (ok : Ok l) (d : Nat) (hd : 0 < d) : first l d < l.length := by
  unfold first
  rw [List.findIdx_lt_length]
  obtain ⟨o, ho, e⟩ := best_is l ok d hd
  exact ⟨o, ho, by unfold isBest wth; exact decide_eq_true e.symm⟩
def plan (l : List Off) : Nat → Nat → List Int
  | 0, _ => []
  | n + 1, d => if d = 0 then [] else (first l d : Int) :: plan l n (d - (l.getD (first l d) (0, 0)).1.toNat)
theorem plan_zero (l : List Off) (n : Nat) : plan l n 0 = [] := by cases n <;> rfl
theorem first_is (l : List Off) (d i : Nat) (o : Off) (h : l[i]? = some o) (hb : o.2 + best l (d - o.1.toNat) = best l d) (hn : ∀ j, j < i → ∀ p, l[j]? = some p → p.2 + best l (d - p.1.toNat) ≠ best l d) : first l d = i := by
  have hi : i < l.length := by
    rcases Nat.lt_or_ge i l.length with c | c
    · exact c
    · rw [List.getElem?_eq_none c] at h; cases h
  have ho : l[i] = o := by rw [List.getElem?_eq_getElem hi] at h; exact Option.some.inj h
  unfold first
  rw [List.findIdx_eq hi]
  refine ⟨by rw [ho]; exact decide_eq_true hb, fun j hj => ?_⟩
  have hjl : j < l.length := by omega
  exact decide_eq_false (hn j hj _ (List.getElem?_eq_getElem hjl))
theorem plan_step (l : List Off) (n d i : Nat) (o : Off) (h : l[i]? = some o) (hf : first l d = i) (hd : 0 < d) (hn : 0 < n) : plan l n d = (i : Int) :: plan l (n - 1) (d - o.1.toNat) := by
  obtain ⟨m, rfl⟩ : ∃ m, n = m + 1 := ⟨n - 1, by omega⟩
  show (if d = 0 then [] else _) = _
  rw [if_neg (by omega), hf]
  have : l.getD i (0, 0) = o := by simp [List.getD, h]
  rw [this, Nat.add_sub_cancel]
/-- the answers -/
def val (l : List Off) (d : Int) : Int := if code l d = 0 then best l d.toNat else 0
def planOf (l : List Off) (d : Int) : List Int := if code l d = 0 then plan l d.toNat d.toNat else []
theorem code_chk (l : List Off) (d : Int) (h : chk l ≠ 0) : code l d = chk l := by unfold code; rw [if_neg h]
theorem code_in (l : List Off) (d : Int) (h : chk l = 0) (h2 : 0 ≤ d ∧ d ≤ 400) : code l d = 0 := by unfold code; rw [if_pos h, if_pos h2]
theorem code_out (l : List Off) (d : Int) (h : chk l = 0) (h2 : ¬ (0 ≤ d ∧ d ≤ 400)) : code l d = 3 := by unfold code; rw [if_pos h, if_neg h2]
end Cv
end Go.Proofs.Ythokgbbolijgiaa
