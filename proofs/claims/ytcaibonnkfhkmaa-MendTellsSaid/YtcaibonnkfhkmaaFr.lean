/- Plain mathematics of fares: prices of ranges of zones, the least sum of ranges that cover, what is fair. No program is named here. -/
namespace Go.Proofs.Ytcaibonnkfhkmaa
namespace Fr
/-- the least of a list and a number -/
def mn (d : Int) (l : List Int) : Int := l.foldl min d
theorem mn_snoc (d : Int) (l : List Int) (x : Int) : mn d (l ++ [x]) = min (mn d l) x := by unfold mn; rw [List.foldl_append]; rfl
theorem mn_le : ∀ (l : List Int) (d : Int), mn d l ≤ d ∧ ∀ x ∈ l, mn d l ≤ x
  | [], d => ⟨Int.le_refl _, fun x h => by cases h⟩
  | y :: l, d => by
    have ih := mn_le l (min d y)
    have e : mn d (y :: l) = mn (min d y) l := rfl
    rw [e]
    refine ⟨by have := ih.1; omega, fun x h => ?_⟩
    rcases List.mem_cons.1 h with rfl | h
    · have := ih.1; omega
    · exact ih.2 x h
theorem mn_is : ∀ (l : List Int) (d : Int), mn d l = d ∨ mn d l ∈ l
  | [], d => .inl rfl
  | y :: l, d => by
    have ih := mn_is l (min d y)
    have e : mn d (y :: l) = mn (min d y) l := rfl
    rw [e]
    rcases ih with h | h
    · rcases Int.le_total d y with c | c
      · rw [Int.min_eq_left c] at h; exact .inl (by rw [Int.min_eq_left c]; exact h)
      · rw [Int.min_eq_right c] at h; exact .inr (by rw [Int.min_eq_right c, h]; exact List.mem_cons_self)
    · exact .inr (List.mem_cons_of_mem _ h)
/-- the best so far, and one more; below 0: there is none yet -/
def bs (best p : Int) : Int := if best < 0 ∨ p < best then p else best
def mb (l : List Int) : Int := l.foldl bs (-1)
theorem mb_snoc (l : List Int) (x : Int) : mb (l ++ [x]) = bs (mb l) x := by unfold mb; rw [List.foldl_append]; rfl
theorem bs_pos (l : List Int) : ∀ (d : Int), 0 ≤ d → (∀ x ∈ l, 0 ≤ x) → l.foldl bs d = mn d l := by
  induction l with
  | nil => intros; rfl
  | cons y l ih =>
    intro d hd h
    have hy := h y List.mem_cons_self
    have e : bs d y = min d y := by
      unfold bs
      split <;> omega
    rw [List.foldl_cons, e, ih _ (by omega) (fun x hx => h x (List.mem_cons_of_mem _ hx))]
    rfl
theorem mb_is (l : List Int) (h0 : l ≠ []) (h : ∀ x ∈ l, 0 ≤ x) : mb l ∈ l ∧ ∀ x ∈ l, mb l ≤ x := by
  cases l with
  | nil => exact absurd rfl h0
  | cons y l =>
    have hy := h y List.mem_cons_self
    have e : mb (y :: l) = mn y l := by
      unfold mb
      rw [List.foldl_cons, show bs (-1) y = y from by unfold bs; rw [if_pos (.inl (by decide))]]
      exact bs_pos l y hy (fun x hx => h x (List.mem_cons_of_mem _ hx))
    rw [e]
    have h1 := mn_le l y
    refine ⟨?_, fun x hx => ?_⟩
    · rcases mn_is l y with h2 | h2
      · rw [h2]; exact List.mem_cons_self
      · exact List.mem_cons_of_mem _ h2
    · rcases List.mem_cons.1 hx with rfl | hx
      · exact h1.1
      · exact h1.2 x hx
theorem mb_lo : ∀ (l : List Int), (∀ x ∈ l, 0 ≤ x) → -1 ≤ mb l := by
  intro l h
  cases l with
  | nil => decide
  | cons y l => have := h _ (mb_is (y :: l) (by simp) h).1; omega
/-- ranges of so many zones, the shorter ones first -/
def rg (n : Nat) : List (Nat × Nat) := (List.range n).flatMap fun m => (List.range (n - m)).map fun a => (a, a + m)
theorem mem_rg (n a b : Nat) : (a, b) ∈ rg n ↔ a ≤ b ∧ b < n := by
  unfold rg
  rw [List.mem_flatMap]
  constructor
  · rintro ⟨m, hm, h⟩
    rw [List.mem_map] at h
    obtain ⟨c, hc, e⟩ := h
    simp at hm hc e
    omega
  · rintro ⟨h1, h2⟩
    exact ⟨b - a, by simp; omega, by rw [List.mem_map]; exact ⟨a, by simp; omega, by simp; omega⟩⟩
abbrev Pr := Nat → Nat → Int
/-- the least price of a range around -/
def la (P : Pr) (l : List (Nat × Nat)) (a b : Nat) : Int := mn (P a b) ((l.filter fun q => decide (q.1 ≤ a ∧ b ≤ q.2)).map fun q => P q.1 q.2)
theorem la_snoc (P : Pr) (l : List (Nat × Nat)) (a b : Nat) (q : Nat × Nat) : la P (l ++ [q]) a b = if q.1 ≤ a ∧ b ≤ q.2 then min (la P l a b) (P q.1 q.2) else la P l a b := by
  unfold la
  rw [List.filter_append]
  by_cases c : q.1 ≤ a ∧ b ≤ q.2
  · rw [if_pos c]
    simp only [List.filter_cons, c, List.filter_nil, if_true, decide_true, List.map_append, List.map_cons, List.map_nil, and_self]
    exact mn_snoc _ _ _
  · rw [if_neg c]
    simp [c]
theorem la_le (P : Pr) (n a b : Nat) : la P (rg n) a b ≤ P a b ∧ ∀ x y, x ≤ a → b ≤ y → x ≤ y → y < n → la P (rg n) a b ≤ P x y := by
  have h := mn_le ((((rg n).filter fun q => decide (q.1 ≤ a ∧ b ≤ q.2)).map fun q => P q.1 q.2)) (P a b)
  refine ⟨h.1, fun x y h1 h2 h3 h4 => h.2 _ ?_⟩
  rw [List.mem_map]
  exact ⟨(x, y), List.mem_filter.2 ⟨(mem_rg n x y).2 ⟨h3, h4⟩, by simp; exact ⟨h1, h2⟩⟩, rfl⟩
theorem la_is (P : Pr) (n a b : Nat) (h2 : b < n) : ∃ x y, x ≤ a ∧ b ≤ y ∧ y < n ∧ la P (rg n) a b = P x y := by
  rcases mn_is ((((rg n).filter fun q => decide (q.1 ≤ a ∧ b ≤ q.2)).map fun q => P q.1 q.2)) (P a b) with h | h
  · exact ⟨a, b, Nat.le_refl _, Nat.le_refl _, h2, h⟩
  · rw [List.mem_map] at h
    obtain ⟨q, hq, e⟩ := h
    rw [List.mem_filter] at hq
    have := (mem_rg n q.1 q.2).1 hq.1
    have h3 := hq.2
    simp at h3
    exact ⟨q.1, q.2, h3.1, h3.2, this.2, e.symm⟩
/-- the least price of two ranges, one behind the other; many parts so far -/
def lt (P : Pr) (a b k : Nat) : Int := mn 1000001 ((List.range k).map fun i => P a (a + i) + P (a + i + 1) b)
theorem lt_zero (P : Pr) (a b : Nat) : lt P a b 0 = 1000001 := rfl
theorem lt_succ (P : Pr) (a b k : Nat) : lt P a b (k + 1) = min (lt P a b k) (P a (a + k) + P (a + k + 1) b) := by
  unfold lt
  rw [List.range_succ, List.map_append]
  exact mn_snoc _ _ _
theorem lt_le (P : Pr) (a b k : Nat) : lt P a b k ≤ 1000001 ∧ ∀ i, i < k → lt P a b k ≤ P a (a + i) + P (a + i + 1) b := by
  have h := mn_le ((List.range k).map fun i => P a (a + i) + P (a + i + 1) b) 1000001
  exact ⟨h.1, fun i hi => h.2 _ (List.mem_map.2 ⟨i, List.mem_range.2 hi, rfl⟩)⟩
theorem lt_is (P : Pr) (a b k : Nat) : lt P a b k = 1000001 ∨ ∃ i, i < k ∧ lt P a b k = P a (a + i) + P (a + i + 1) b := by
  rcases mn_is ((List.range k).map fun i => P a (a + i) + P (a + i + 1) b) 1000001 with h | h
  · exact .inl h
  · rw [List.mem_map] at h
    obtain ⟨i, hi, e⟩ := h
    exact .inr ⟨i, List.mem_range.1 hi, e.symm⟩
theorem lt_congr (P Q : Pr) (a b k : Nat) (h : ∀ i, i < k → P a (a + i) = Q a (a + i) ∧ P (a + i + 1) b = Q (a + i + 1) b) : lt P a b k = lt Q a b k := by
  unfold lt
  congr 1
  apply List.map_congr_left
  intro i hi
  rw [(h i (List.mem_range.1 hi)).1, (h i (List.mem_range.1 hi)).2]
/-- the ranges that have zone a: where they begin, where they end -/
def ar (n a : Nat) : List (Nat × Nat) := (List.range (a + 1)).flatMap fun x => (List.range (n - a)).map fun i => (x, a + i)
theorem mem_ar (n a x y : Nat) : (x, y) ∈ ar n a ↔ x ≤ a ∧ a ≤ y ∧ y < n := by
  unfold ar
  rw [List.mem_flatMap]
  constructor
  · rintro ⟨m, hm, h⟩
    rw [List.mem_map] at h
    obtain ⟨c, hc, e⟩ := h
    simp at hm hc e
    omega
  · rintro ⟨h1, h2, h3⟩
    exact ⟨x, by simp; omega, by rw [List.mem_map]; exact ⟨y - a, by simp; omega, by simp; omega⟩⟩
/-- the least sum of ranges that have all zones from a to b; so many steps at most -/
def cvf (P : Pr) (n b : Nat) : Nat → Nat → Int
  | 0, _ => 0
  | k + 1, a => if b < a then 0 else mb ((ar n a).map fun q => P q.1 q.2 + cvf P n b k (q.2 + 1))
def cv (P : Pr) (n a b : Nat) : Int := cvf P n b (b + 1 - a) a
theorem cvf_same (P : Pr) (n b : Nat) : ∀ (k j a : Nat), b + 1 - a ≤ k → b + 1 - a ≤ j → cvf P n b k a = cvf P n b j a
  | 0, 0, _, _, _ => rfl
  | 0, j + 1, a, h, _ => by unfold cvf; rw [if_pos (by omega)]
  | k + 1, 0, a, _, h => by unfold cvf; rw [if_pos (by omega)]
  | k + 1, j + 1, a, h1, h2 => by
    unfold cvf
    by_cases c : b < a
    · rw [if_pos c, if_pos c]
    · rw [if_neg c, if_neg c]
      congr 1
      apply List.map_congr_left
      rintro ⟨x, y⟩ hq
      have := (mem_ar n a x y).1 hq
      rw [cvf_same P n b k j (y + 1) (by omega) (by omega)]
theorem cv_over (P : Pr) (n a b : Nat) (h : b < a) : cv P n a b = 0 := by
  unfold cv
  rw [show b + 1 - a = 0 by omega]
  rfl
theorem cv_eq (P : Pr) (n a b : Nat) (h : a ≤ b) : cv P n a b = mb ((ar n a).map fun q => P q.1 q.2 + cv P n (q.2 + 1) b) := by
  unfold cv
  rw [show b + 1 - a = (b - a) + 1 by omega]
  show (if b < a then 0 else _) = _
  rw [if_neg (by omega)]
  congr 1
  apply List.map_congr_left
  rintro ⟨x, y⟩ hq
  have := (mem_ar n a x y).1 hq
  rw [cvf_same P n b (b - a) (b + 1 - (y + 1)) (y + 1) (by omega) (by omega)]
/-- prices that are right -/
def Ok (P : Pr) (n : Nat) : Prop := ∀ a b, a ≤ b → b < n → 0 ≤ P a b ∧ P a b ≤ 1000000
section
variable {P : Pr} {n : Nat}
theorem cv_all (hP : Ok P n) : ∀ (k a b : Nat), b + 1 - a ≤ k → b < n → 0 ≤ cv P n a b ∧ (a ≤ b → (∃ x y, x ≤ a ∧ a ≤ y ∧ y < n ∧ cv P n a b = P x y + cv P n (y + 1) b) ∧ ∀ x y, x ≤ a → a ≤ y → y < n → cv P n a b ≤ P x y + cv P n (y + 1) b)
  | 0, a, b, h, hb => by
    rw [cv_over P n a b (by omega)]
    exact ⟨Int.le_refl _, fun h' => by omega⟩
  | k + 1, a, b, h, hb => by
    by_cases c : a ≤ b
    · have hpos : ∀ x ∈ (ar n a).map fun q => P q.1 q.2 + cv P n (q.2 + 1) b, 0 ≤ x := by
        intro z hz
        rw [List.mem_map] at hz
        obtain ⟨⟨x, y⟩, hq, rfl⟩ := hz
        have hq' := (mem_ar n a x y).1 hq
        have h1 := (cv_all hP k (y + 1) b (by omega) hb).1
        have h2 := (hP x y (by omega) hq'.2.2).1
        show 0 ≤ P x y + cv P n (y + 1) b
        omega
      have hne : (ar n a).map (fun q => P q.1 q.2 + cv P n (q.2 + 1) b) ≠ [] := by
        intro e
        have : (a, a) ∈ ar n a := (mem_ar n a a a).2 ⟨Nat.le_refl _, Nat.le_refl _, by omega⟩
        rw [List.map_eq_nil_iff] at e
        rw [e] at this
        cases this
      have m := mb_is _ hne hpos
      rw [← cv_eq P n a b c] at m
      refine ⟨hpos _ m.1, fun _ => ⟨?_, fun x y h1 h2 h3 => m.2 _ (List.mem_map.2 ⟨(x, y), (mem_ar n a x y).2 ⟨h1, h2, h3⟩, rfl⟩)⟩⟩
      obtain ⟨⟨x, y⟩, hq, e⟩ := List.mem_map.1 m.1
      have hq' := (mem_ar n a x y).1 hq
      exact ⟨x, y, hq'.1, hq'.2.1, hq'.2.2, e.symm⟩
    · rw [cv_over P n a b (by omega)]
      exact ⟨Int.le_refl _, fun h' => absurd h' c⟩
theorem cv_lo (hP : Ok P n) {a b : Nat} (hb : b < n) : 0 ≤ cv P n a b := (cv_all hP _ a b (Nat.le_refl _) hb).1
theorem cv_is (hP : Ok P n) {a b : Nat} (h : a ≤ b) (hb : b < n) : ∃ x y, x ≤ a ∧ a ≤ y ∧ y < n ∧ cv P n a b = P x y + cv P n (y + 1) b := ((cv_all hP _ a b (Nat.le_refl _) hb).2 h).1
theorem cv_le (hP : Ok P n) {a b x y : Nat} (h : a ≤ b) (hb : b < n) (h1 : x ≤ a) (h2 : a ≤ y) (h3 : y < n) : cv P n a b ≤ P x y + cv P n (y + 1) b := ((cv_all hP _ a b (Nat.le_refl _) hb).2 h).2 x y h1 h2 h3
theorem cv_in (hP : Ok P n) {a b x y : Nat} (h : a ≤ b) (hb : b < n) (h1 : x ≤ a) (h2 : b ≤ y) (h3 : y < n) : cv P n a b ≤ P x y := by
  have := cv_le hP h hb h1 (by omega : a ≤ y) h3
  rw [cv_over P n (y + 1) b (by omega)] at this
  omega
theorem cv_up1 (hP : Ok P n) {a b : Nat} (hb : b < n) : cv P n (a + 1) b ≤ cv P n a b := by
  by_cases c : a + 1 ≤ b
  · obtain ⟨x, y, h1, h2, h3, e⟩ := cv_is hP (by omega : a ≤ b) hb
    rw [e]
    by_cases d : y = a
    · subst d
      have := (hP x y h1 h3).1
      omega
    · exact cv_le hP c hb (by omega) (by omega) h3
  · rw [cv_over P n (a + 1) b (by omega)]
    exact cv_lo hP hb
theorem cv_up (hP : Ok P n) {b : Nat} (hb : b < n) : ∀ (k a : Nat), cv P n (a + k) b ≤ cv P n a b
  | 0, _ => Int.le_refl _
  | k + 1, a => Int.le_trans (cv_up1 hP hb (a := a + k)) (cv_up hP hb k a)
theorem cv_sub (hP : Ok P n) {b m : Nat} (hm : m < b) (hb : b < n) : ∀ (k a : Nat), m + 1 - a ≤ k → a ≤ m → cv P n a b ≤ cv P n a m + cv P n (m + 1) b
  | 0, a, h, h' => by omega
  | k + 1, a, h, h' => by
    obtain ⟨x, y, h1, h2, h3, e⟩ := cv_is hP h' (by omega : m < n)
    have h4 := cv_le hP (by omega : a ≤ b) hb h1 h2 h3
    by_cases c : m ≤ y
    · rw [cv_over P n (y + 1) m (by omega)] at e
      have h5 := cv_up hP hb (y - m) (m + 1)
      rw [show m + 1 + (y - m) = y + 1 by omega] at h5
      omega
    · have := cv_sub hP hm hb k (y + 1) (by omega) (by omega)
      omega
theorem cv_wide (hP : Ok P n) {b b' : Nat} (hb : b ≤ b') (hb' : b' < n) : ∀ (k a : Nat), b + 1 - a ≤ k → cv P n a b ≤ cv P n a b'
  | 0, a, h => by rw [cv_over P n a b (by omega)]; exact cv_lo hP hb'
  | k + 1, a, h => by
    by_cases c : a ≤ b
    · obtain ⟨x, y, h1, h2, h3, e⟩ := cv_is hP (by omega : a ≤ b') hb'
      rw [e]
      have h4 := cv_le hP c (by omega : b < n) h1 h2 h3
      have h5 := cv_wide hP hb hb' k (y + 1) (by omega)
      omega
    · rw [cv_over P n a b (by omega)]; exact cv_lo hP hb'
/-- a step of mending: the parts are mended already -/
theorem cv_step (hP : Ok P n) {a b : Nat} (h : a ≤ b) (hb : b < n) : min (la P (rg n) a b) (lt (cv P n) a b (b - a)) = cv P n a b := by
  have l1 := la_le P n a b
  obtain ⟨x0, y0, x1, y1, y2, le⟩ := la_is P n a b hb
  have t1 := lt_le (cv P n) a b (b - a)
  have A : cv P n a b ≤ la P (rg n) a b := by rw [le]; exact cv_in hP h hb x1 y1 y2
  have B : la P (rg n) a b ≤ 1000000 := Int.le_trans l1.1 (hP a b h hb).2
  have C : min (la P (rg n) a b) (lt (cv P n) a b (b - a)) ≤ cv P n a b := by
    obtain ⟨x, y, h1, h2, h3, e⟩ := cv_is hP h hb
    rw [e]
    by_cases c : b ≤ y
    · have := l1.2 x y h1 c (by omega) h3
      rw [cv_over P n (y + 1) b (by omega)]
      omega
    · have h4 := t1.2 (y - a) (by omega)
      rw [show a + (y - a) = y by omega] at h4
      have h5 := cv_in hP (by omega : a ≤ y) h3 h1 (Nat.le_refl y) h3
      omega
  have D : cv P n a b ≤ lt (cv P n) a b (b - a) := by
    rcases lt_is (cv P n) a b (b - a) with h4 | ⟨i, hi, h4⟩
    · omega
    · rw [h4]
      exact cv_sub hP (by omega : a + i < b) hb _ a (Nat.le_refl _) (by omega)
  omega
theorem cv_ok (hP : Ok P n) : Ok (cv P n) n := fun a b h hb => ⟨cv_lo hP hb, Int.le_trans (cv_in hP h hb (Nat.le_refl a) (Nat.le_refl b) hb) (hP a b h hb).2⟩
end
/-- fair: no range dearer than one around it, none dearer than two that it is together -/
def Fair (P : Pr) (n : Nat) : Prop := ∀ a b, a ≤ b → b < n → (∀ x y, x ≤ a → b ≤ y → y < n → P a b ≤ P x y) ∧ ∀ m, a ≤ m → m < b → P a b ≤ P a m + P (m + 1) b
/-- as the program asks: one price against the least -/
def FairAt (P : Pr) (n a b : Nat) : Prop := P a b ≤ min (la P (rg n) a b) (lt P a b (b - a))
theorem fair_iff {P : Pr} {n : Nat} (hP : Ok P n) : Fair P n ↔ ∀ q ∈ rg n, FairAt P n q.1 q.2 := by
  constructor
  · rintro h ⟨a, b⟩ hq
    obtain ⟨h1, h2⟩ := (mem_rg n a b).1 hq
    obtain ⟨f1, f2⟩ := h a b h1 h2
    obtain ⟨x, y, x1, y1, y2, le⟩ := la_is P n a b h2
    have A := f1 x y x1 y1 y2
    unfold FairAt
    show P a b ≤ min (la P (rg n) a b) (lt P a b (b - a))
    rcases lt_is P a b (b - a) with h4 | ⟨i, hi, h4⟩
    · have := (hP a b h1 h2).2; omega
    · have := f2 (a + i) (by omega) (by omega); omega
  · intro h a b h1 h2
    have g := h (a, b) ((mem_rg n a b).2 ⟨h1, h2⟩)
    unfold FairAt at g
    have l1 := la_le P n a b
    have t1 := lt_le P a b (b - a)
    refine ⟨fun x y hx hy hn => ?_, fun m hm hb => ?_⟩
    · have := l1.2 x y hx hy (by omega) hn
      simp only at g
      omega
    · have := t1.2 (m - a) (by omega)
      rw [show a + (m - a) = m by omega] at this
      simp only at g
      omega
theorem fair_cv {P : Pr} {n : Nat} (hP : Ok P n) : Fair (cv P n) n := by
  intro a b h hb
  refine ⟨fun x y hx hy hn => ?_, fun m hm hmb => cv_sub hP hmb hb _ a (Nat.le_refl _) hm⟩
  have h1 := cv_wide hP hy hn _ a (Nat.le_refl _)
  have h2 := cv_up hP hn (a - x) x
  rw [show x + (a - x) = a by omega] at h2
  omega
theorem fair_le {P : Pr} {n : Nat} (hP : Ok P n) (hF : Fair P n) {b : Nat} (hb : b < n) : ∀ (k a : Nat), b + 1 - a ≤ k → a ≤ b → P a b ≤ cv P n a b
  | 0, a, h, h' => by omega
  | k + 1, a, h, h' => by
    obtain ⟨x, y, h1, h2, h3, e⟩ := cv_is hP h' hb
    rw [e]
    have f := hF a b h' hb
    by_cases c : b ≤ y
    · rw [cv_over P n (y + 1) b (by omega)]
      have := f.1 x y h1 c h3
      omega
    · have g := f.2 y h2 (by omega)
      have g1 := (hF a y h2 h3).1 x y h1 (Nat.le_refl y) h3
      have := fair_le hP hF hb k (y + 1) (by omega) (by omega)
      omega
theorem fair_cv_eq {P : Pr} {n : Nat} (hP : Ok P n) (hF : Fair P n) {a b : Nat} (h : a ≤ b) (hb : b < n) : cv P n a b = P a b := by
  have h1 := fair_le hP hF hb _ a (Nat.le_refl _) h
  have h2 := cv_in hP h hb (Nat.le_refl a) (Nat.le_refl b) hb
  omega
theorem fair_of_cv {P : Pr} {n : Nat} (hP : Ok P n) (h : ∀ a b, a ≤ b → b < n → cv P n a b = P a b) : Fair P n := by
  intro a b h1 h2
  have f := fair_cv hP a b h1 h2
  refine ⟨fun x y hx hy hn => ?_, fun m hm hb => ?_⟩
  · rw [← h a b h1 h2, ← h x y (by omega) hn]; exact f.1 x y hx hy hn
  · rw [← h a b h1 h2, ← h a m hm (by omega), ← h (m + 1) b (by omega) h2]; exact f.2 m hm hb
theorem cv_mono {P Q : Pr} {n : Nat} (hP : Ok P n) (hQ : Ok Q n) (hle : ∀ a b, a ≤ b → b < n → P a b ≤ Q a b) {b : Nat} (hb : b < n) : ∀ (k a : Nat), b + 1 - a ≤ k → cv P n a b ≤ cv Q n a b
  | 0, a, h => by rw [cv_over P n a b (by omega)]; exact cv_lo hQ hb
  | k + 1, a, h => by
    by_cases c : a ≤ b
    · obtain ⟨x, y, h1, h2, h3, e⟩ := cv_is hQ c hb
      rw [e]
      have h4 := cv_le hP c hb h1 h2 h3
      have h5 := cv_mono hP hQ hle hb k (y + 1) (by omega)
      have h6 := hle x y (by omega) h3
      omega
    · rw [cv_over P n a b (by omega)]; exact cv_lo hQ hb
/-- what is right, row by row -/
def pok (p : Int) : Bool := decide (0 ≤ p ∧ p ≤ 1000000)
def rowCode (w : Nat) (r : List Int) : Int := if r.length ≠ w then 1 else if r.all pok then 0 else 3
def rowsCode : List (List Int) → Int
  | [] => 0
  | r :: l => if rowCode (l.length + 1) r ≠ 0 then rowCode (l.length + 1) r else rowsCode l
def chk (f : List (List Int)) : Int := if f.length = 0 then 5 else if 6 < f.length then 2 else rowsCode f
def pr (f : List (List Int)) (a b : Nat) : Int := (f.getD a []).getD (b - a) 0
theorem rowsCode_zero : ∀ (f : List (List Int)), rowsCode f = 0 → ∀ a, a < f.length → (f.getD a []).length = f.length - a ∧ (f.getD a []).all pok = true
  | [], _, a, ha => by simp at ha
  | r :: l, h, a, ha => by
    unfold rowsCode at h
    by_cases c : rowCode (l.length + 1) r ≠ 0
    · rw [if_pos c] at h; exact absurd h c
    · rw [if_neg c] at h
      cases a with
      | zero =>
        have c' : rowCode (l.length + 1) r = 0 := by omega
        unfold rowCode at c'
        by_cases c1 : r.length ≠ l.length + 1
        · rw [if_pos c1] at c'; cases c'
        · rw [if_neg c1] at c'
          by_cases c2 : r.all pok = true
          · exact ⟨by simp; omega, by simpa using c2⟩
          · rw [if_neg c2] at c'; cases c'
      | succ a =>
        have := rowsCode_zero l h a (by simpa using ha)
        simpa using this
theorem chk_zero {f : List (List Int)} (h : chk f = 0) : 1 ≤ f.length ∧ f.length ≤ 6 ∧ (∀ a, a < f.length → (f.getD a []).length = f.length - a) ∧ Ok (pr f) f.length := by
  unfold chk at h
  by_cases c : f.length = 0
  · rw [if_pos c] at h; cases h
  · rw [if_neg c] at h
    by_cases c2 : 6 < f.length
    · rw [if_pos c2] at h; cases h
    · rw [if_neg c2] at h
      have r := rowsCode_zero f h
      refine ⟨by omega, by omega, fun a ha => (r a ha).1, fun a b hab hb => ?_⟩
      have q := r a (by omega)
      have hl : b - a < (f.getD a []).length := by omega
      unfold pr
      have := List.all_eq_true.1 q.2 ((f.getD a []).getD (b - a) 0) (by generalize hr : f.getD a [] = row at hl ⊢; rw [List.getD_eq_getElem?_getD, List.getElem?_eq_getElem hl]; exact List.getElem_mem hl)
      unfold pok at this
      simpa using this
/-- the mended fares -/
def mend (f : List (List Int)) : List (List Int) := (List.range f.length).map fun a => (List.range (f.length - a)).map fun k => cv (pr f) f.length a (a + k)
theorem mend_length (f : List (List Int)) : (mend f).length = f.length := by simp [mend]
theorem mend_row (f : List (List Int)) (a : Nat) (h : a < f.length) : (mend f).getD a [] = (List.range (f.length - a)).map fun k => cv (pr f) f.length a (a + k) := by
  unfold mend
  rw [List.getD_eq_getElem?_getD, List.getElem?_map, List.getElem?_range h]
  rfl
theorem pr_mend (f : List (List Int)) (a b : Nat) (h : a ≤ b) (hb : b < f.length) : pr (mend f) a b = cv (pr f) f.length a b := by
  show ((mend f).getD a []).getD (b - a) 0 = _
  rw [mend_row f a (by omega), List.getD_eq_getElem?_getD, List.getElem?_map, List.getElem?_range (by omega)]
  simp only [Option.map_some, Option.getD_some]
  rw [show a + (b - a) = b by omega]
theorem rowsCode_ok : ∀ (f : List (List Int)), (∀ a, a < f.length → (f.getD a []).length = f.length - a ∧ (f.getD a []).all pok = true) → rowsCode f = 0
  | [], _ => rfl
  | r :: l, h => by
    have h0 := h 0 (by simp)
    unfold rowsCode
    have e : rowCode (l.length + 1) r = 0 := by
      unfold rowCode
      simp at h0
      rw [if_neg (by omega), if_pos (by simpa using h0.2)]
    rw [if_neg (by omega)]
    exact rowsCode_ok l fun a ha => by
      have := h (a + 1) (by simpa using ha)
      simpa using this
theorem chk_mend {f : List (List Int)} (h : chk f = 0) : chk (mend f) = 0 := by
  obtain ⟨h1, h6, hr, ok⟩ := chk_zero h
  have ok' := cv_ok ok
  unfold chk
  rw [mend_length, if_neg (by omega), if_neg (by omega)]
  apply rowsCode_ok
  intro a ha
  rw [mend_length] at ha ⊢
  rw [mend_row f a ha]
  refine ⟨by simp, ?_⟩
  rw [List.all_eq_true]
  intro x hx
  obtain ⟨k, hk, rfl⟩ := List.mem_map.1 hx
  have hk' := List.mem_range.1 hk
  have := ok' a (a + k) (by omega) (by omega)
  unfold pok
  simpa using this
/-- fares are told by their prices -/
theorem ext {f g : List (List Int)} (hl : f.length = g.length) (hf : ∀ a, a < f.length → (f.getD a []).length = f.length - a) (hg : ∀ a, a < g.length → (g.getD a []).length = g.length - a)
    (h : ∀ a b, a ≤ b → b < f.length → pr f a b = pr g a b) : f = g := by
  apply List.ext_getElem hl
  intro a h1 h2
  have e1 : f.getD a [] = f[a] := by simp [List.getD, List.getElem?_eq_getElem h1]
  have e2 : g.getD a [] = g[a] := by simp [List.getD, List.getElem?_eq_getElem h2]
  have l1 := hf a h1
  have l2 := hg a h2
  rw [e1] at l1
  rw [e2] at l2
  apply List.ext_getElem (by omega)
  intro k k1 k2
  have := h a (a + k) (by omega) (by omega)
  unfold pr at this
  rw [e1, e2, show a + k - a = k by omega] at this
  simpa [List.getD, List.getElem?_eq_getElem k1, List.getElem?_eq_getElem k2] using this
end Fr
end Go.Proofs.Ytcaibonnkfhkmaa
