/- Plain mathematics of days of work: what the next one, so many behind, and how many between say of one another. -/
import Derived.Test.YtehopfpcikbaiaaDoorWk2ToWTop
import Derived.Test.YtehopfpcikbaiaaDoorWk2ToWTop
namespace Go.Proofs.YtehopfpcikbaiaaDoor
namespace Wk
variable (R : Rst) (L : List Rl)
theorem next_spec : ∀ (k : Nat) (n : Int), (3651694 - n).toNat = k → 1 ≤ n → next R L n = (0, 3) ∨ ∃ x, next R L n = (x, 0) ∧ n ≤ x ∧ x ≤ 3651693 ∧ isW R L x = true ∧ ∀ j, n ≤ j → j < x → isW R L j = false := by
  intro k
  induction k with
  | zero => intro n hk h1; exact .inl (next_out R L n (by omega))
  | succ k ih =>
    intro n hk h1
    rw [next_in R L n h1 (by omega)]
    by_cases hw : isW R L n = true
    · rw [if_pos hw]
      exact .inr ⟨n, rfl, Int.le_refl _, by omega, hw, fun j a b => absurd b (by omega)⟩
    · rw [if_neg hw]
      rcases ih (n + 1) (by omega) (by omega) with h | ⟨x, h, a, b, c, d⟩
      · exact .inl h
      · refine .inr ⟨x, h, by omega, b, c, fun j a' b' => ?_⟩
        by_cases e : j = n
        · subst e; simpa using hw
        · exact d j (by omega) b'
/-- what is told of the next day of work -/
theorem told_next (n : Int) : ((told R L (next R L n)).2 ≠ 0 ∧ (told R L (next R L n)).1 = 0) ∨ ∃ x, told R L (next R L n) = (x, 0) ∧ 1 ≤ n ∧ n ≤ x ∧ x ≤ 3651693 ∧ isB R L x = true ∧ isC R L x = 0 ∧ ∀ j, n ≤ j → j < x → isB R L j = false ∧ isC R L j = 0 := by
  unfold told
  by_cases hz : cchk R L = 0
  · rw [if_pos hz]
    by_cases h : 1 ≤ n ∧ n ≤ 3651693
    · rcases next_spec R L _ n rfl h.1 with e | ⟨x, e, a, b, c, d⟩
      · rw [e]; exact .inl ⟨by decide, rfl⟩
      · refine .inr ⟨x, e, h.1, a, b, ?_, ?_, fun j a' b' => ⟨?_, ?_⟩⟩
        · unfold isB; rw [decide_eq_true hz, decide_eq_true (show 1 ≤ x ∧ x ≤ 3651693 by omega), c]; rfl
        · unfold isC; rw [if_pos hz, if_pos (by omega)]
        · unfold isB; rw [d j a' b']; simp
        · unfold isC; rw [if_pos hz, if_pos (by omega)]
    · rw [next_out R L n h]; exact .inl ⟨by decide, rfl⟩
  · rw [if_neg hz]; exact .inl ⟨hz, rfl⟩
theorem cnt_add (n : Int) (j : Nat) : ∀ k : Nat, cnt R L n (j + k) = cnt R L n j + cnt R L (n + j) k
  | 0 => by simp [cnt]
  | k + 1 => by
    have := cnt_add n j k
    rw [← Nat.add_assoc]
    show cnt R L n (j + k) + _ = cnt R L n j + (cnt R L (n + j) k + _)
    rw [this, show n + ((j + k : Nat) : Int) = n + (j : Int) + (k : Int) by omega]
    omega
/-- what is told of a count -/
theorem told_count (a b : Int) : ((told R L (count R L a b)).2 ≠ 0 ∧ (told R L (count R L a b)).1 = 0) ∨ ∃ x, told R L (count R L a b) = (x, 0) ∧ 1 ≤ a ∧ a ≤ b ∧ b ≤ 3651693 ∧ 0 ≤ x ∧ x ≤ b - a ∧ ∀ m, a ≤ m → m ≤ b → ∃ y z, told R L (count R L a m) = (y, 0) ∧ told R L (count R L m b) = (z, 0) ∧ x = y + z ∧ 0 ≤ y ∧ 0 ≤ z ∧ y ≤ 2000 ∧ z ≤ 2000 := by
  unfold told
  by_cases hz : cchk R L = 0
  · rw [if_pos hz]
    by_cases h : 1 ≤ a ∧ a ≤ 3651693 ∧ 1 ≤ b ∧ b ≤ 3651693
    · by_cases h1 : b < a
      · left; unfold count; rw [if_pos h, if_pos h1]; exact ⟨by decide, rfl⟩
      · by_cases h2 : 2000 < b - a
        · left; unfold count; rw [if_pos h, if_neg h1, if_pos h2]; exact ⟨by decide, rfl⟩
        · have hb := cnt_bd R L a (b - a).toNat
          refine .inr ⟨cnt R L a (b - a).toNat, by unfold count; rw [if_pos h, if_neg h1, if_neg h2], h.1, by omega, h.2.2.2, hb.1, by omega, fun m m1 m2 => ?_⟩
          have c1 := cnt_bd R L a (m - a).toNat
          have c2 := cnt_bd R L m (b - m).toNat
          refine ⟨cnt R L a (m - a).toNat, cnt R L m (b - m).toNat, ?_, ?_, ?_, c1.1, c2.1, by omega, by omega⟩
          · rw [if_pos hz]; unfold count; rw [if_pos (by omega), if_neg (by omega), if_neg (by omega)]
          · rw [if_pos hz]; unfold count; rw [if_pos (by omega), if_neg (by omega), if_neg (by omega)]
          · have := cnt_add R L a (m - a).toNat (b - m).toNat
            rw [show (m - a).toNat + (b - m).toNat = (b - a).toNat by omega, show a + ((m - a).toNat : Int) = m by omega] at this
            exact this
    · left; unfold count; rw [if_neg h]; exact ⟨by decide, rfl⟩
  · rw [if_neg hz]; exact .inl ⟨hz, rfl⟩
theorem cnt_front (n : Int) (k : Nat) : cnt R L n (k + 1) = (if isW R L n = true then 1 else 0) + cnt R L (n + 1) k := by
  have := cnt_add R L n 1 k
  rw [Nat.add_comm 1 k] at this
  rw [this]
  simp [cnt]
theorem addS_spec : ∀ (k : Nat) (n c : Int), (3651694 - n).toNat = k → 1 ≤ n → 1 ≤ c → addS R L n c = (0, 3) ∨ ∃ x, addS R L n c = (x, 0) ∧ n ≤ x ∧ x ≤ 3651693 ∧ cnt R L n (x + 1 - n).toNat = c := by
  intro k
  induction k with
  | zero => intro n c hk h1 _; exact .inl (addS_out R L n c (by omega))
  | succ k ih =>
    intro n c hk h1 hc
    rw [addS_in R L n c h1 (by omega)]
    have step : ∀ x : Int, n + 1 ≤ x → (x + 1 - n).toNat = (x + 1 - (n + 1)).toNat + 1 := fun x h => by omega
    by_cases hw : isW R L n = true
    · rw [if_pos hw]
      by_cases h : c = 1
      · rw [if_pos h]
        refine .inr ⟨n, rfl, Int.le_refl _, by omega, ?_⟩
        rw [show (n + 1 - n).toNat = 0 + 1 by omega, cnt_front, if_pos hw, h]; simp [cnt]
      · rw [if_neg h]
        rcases ih (n + 1) (c - 1) (by omega) (by omega) (by omega) with e | ⟨x, e, a, b, d⟩
        · exact .inl e
        · refine .inr ⟨x, e, by omega, b, ?_⟩
          rw [step x a, cnt_front, if_pos hw, d]; omega
    · rw [if_neg hw]
      rcases ih (n + 1) c (by omega) (by omega) hc with e | ⟨x, e, a, b, d⟩
      · exact .inl e
      · refine .inr ⟨x, e, by omega, b, ?_⟩
        rw [step x a, cnt_front, if_neg hw, d]; omega
theorem addS_split : ∀ (k : Nat) (n a b x : Int), (3651694 - n).toNat = k → 1 ≤ n → 1 ≤ a → 1 ≤ b → addS R L n (a + b) = (x, 0) → ∃ y, addS R L n a = (y, 0) ∧ n ≤ y ∧ y ≤ 3651693 ∧ addS R L (y + 1) b = (x, 0) := by
  intro k
  induction k with
  | zero => intro n a b x hk h1 _ _ h; rw [addS_out R L n _ (by omega)] at h; simp at h
  | succ k ih =>
    intro n a b x hk h1 ha hb h
    rw [addS_in R L n _ h1 (by omega)] at h
    rw [addS_in R L n a h1 (by omega)]
    by_cases hw : isW R L n = true
    · rw [if_pos hw, if_neg (by omega)] at h
      rw [if_pos hw]
      by_cases c : a = 1
      · rw [if_pos c]
        exact ⟨n, rfl, Int.le_refl _, by omega, by rw [show a + b - 1 = b by omega] at h; exact h⟩
      · rw [if_neg c]
        obtain ⟨y, e, d1, d2, f⟩ := ih (n + 1) (a - 1) b x (by omega) (by omega) (by omega) hb (by rw [show a - 1 + b = a + b - 1 by omega]; exact h)
        exact ⟨y, e, by omega, d2, f⟩
    · rw [if_neg hw] at h ⊢
      obtain ⟨y, e, d1, d2, f⟩ := ih (n + 1) a b x (by omega) (by omega) ha hb h
      exact ⟨y, e, by omega, d2, f⟩
/-- what is told of so many days of work behind a day -/
theorem told_add (n a b : Int) (ha : 0 ≤ a) (hb : 0 ≤ b) (hab : a + b ≤ 400) : ((told R L (add R L n (a + b))).2 ≠ 0 ∧ (told R L (add R L n (a + b))).1 = 0) ∨ ∃ x y c d, told R L (add R L n (a + b)) = (x, 0) ∧ told R L (add R L n a) = (y, 0) ∧ told R L (add R L y b) = (x, 0) ∧ told R L (count R L (n + 1) (x + 1)) = (c, d) ∧ (d = 2 ∨ d = 3 ∨ d = 0 ∧ c = a + b) ∧ 1 ≤ n ∧ n ≤ 3651693 ∧ 1 ≤ x ∧ x ≤ 3651693 ∧ 1 ≤ y ∧ y ≤ 3651693 := by
  unfold told
  by_cases hz' : ¬ cchk R L = 0
  · rw [if_neg hz']; exact .inl ⟨hz', rfl⟩
  have hz : cchk R L = 0 := by omega
  simp only [if_pos hz]
  by_cases hn' : ¬ (1 ≤ n ∧ n ≤ 3651693)
  · left; unfold add; rw [if_neg (by omega)]; exact ⟨by decide, rfl⟩
  have hn : 1 ≤ n ∧ n ≤ 3651693 := by omega
  have ad : ∀ m c : Int, 1 ≤ m ∧ m ≤ 3651693 → 0 ≤ c → c ≤ 400 → add R L m c = if c = 0 then (m, 0) else addS R L (m + 1) c := by
    intro m c h1 h2 h3
    unfold add; rw [if_pos ⟨h1.1, h1.2, h2, h3⟩]
  have co : ∀ x : Int, n ≤ x → x ≤ 3651693 → cnt R L (n + 1) (x - n).toNat = a + b → ∃ c d, count R L (n + 1) (x + 1) = (c, d) ∧ (d = 2 ∨ d = 3 ∨ d = 0 ∧ c = a + b) := by
    intro x h1 h2 h3
    by_cases h : 1 ≤ n + 1 ∧ n + 1 ≤ 3651693 ∧ 1 ≤ x + 1 ∧ x + 1 ≤ 3651693
    · by_cases h4 : 2000 < x + 1 - (n + 1)
      · exact ⟨0, 2, by unfold count; rw [if_pos h, if_neg (by omega), if_pos h4], .inl rfl⟩
      · refine ⟨a + b, 0, ?_, .inr (.inr ⟨rfl, rfl⟩)⟩
        unfold count; rw [if_pos h, if_neg (by omega), if_neg h4, show (x + 1 - (n + 1)).toNat = (x - n).toNat by omega, h3]
    · exact ⟨0, 3, by unfold count; rw [if_neg h], .inr (.inl rfl)⟩
  rw [ad n (a + b) hn (by omega) hab]
  by_cases h0 : a + b = 0
  · have a0 : a = 0 := by omega
    have b0 : b = 0 := by omega
    right
    obtain ⟨c, d, e, f⟩ := co n (Int.le_refl _) hn.2 (by rw [show (n - n).toNat = 0 by omega, h0]; rfl)
    exact ⟨n, n, c, d, by rw [if_pos h0], by rw [ad n a hn ha (by omega), if_pos a0], by rw [ad n b hn hb (by omega), if_pos b0], e, f, hn.1, hn.2, hn.1, hn.2, hn.1, hn.2⟩
  rw [if_neg h0]
  rcases addS_spec R L _ (n + 1) (a + b) rfl (by omega) (by omega) with e | ⟨x, e, x1, x2, x3⟩
  · left; rw [e]; exact ⟨by decide, rfl⟩
  right
  obtain ⟨c, d, ec, f⟩ := co x (by omega) x2 (by rw [show (x + 1 - (n + 1)).toNat = (x - n).toNat by omega] at x3; exact x3)
  by_cases a0 : a = 0
  · refine ⟨x, n, c, d, e, by rw [ad n a hn ha (by omega), if_pos a0], ?_, ec, f, hn.1, hn.2, by omega, x2, hn.1, hn.2⟩
    rw [ad n b hn hb (by omega), if_neg (by omega), show b = a + b by omega]; exact e
  · by_cases b0 : b = 0
    · refine ⟨x, x, c, d, e, ?_, ?_, ec, f, hn.1, hn.2, by omega, x2, by omega, x2⟩
      · rw [ad n a hn ha (by omega), if_neg a0, show a = a + b by omega]; exact e
      · rw [ad x b ⟨by omega, x2⟩ hb (by omega), if_pos b0]
    · obtain ⟨y, ey, y1, y2, y3⟩ := addS_split R L _ (n + 1) a b x rfl (by omega) (by omega) (by omega) e
      refine ⟨x, y, c, d, e, ?_, ?_, ec, f, hn.1, hn.2, by omega, x2, by omega, y2⟩
      · rw [ad n a hn ha (by omega), if_neg a0]; exact ey
      · rw [ad y b ⟨by omega, y2⟩ hb (by omega), if_neg b0]; exact y3
end Wk
end Go.Proofs.YtehopfpcikbaiaaDoor
