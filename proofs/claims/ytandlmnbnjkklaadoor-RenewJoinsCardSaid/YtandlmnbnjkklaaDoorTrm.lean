/- Plain mathematics of terms: no program is named here. -/
import Derived.Test.YtandlmnbnjkklaaDoorCal
namespace Go.Proofs.YtandlmnbnjkklaaDoor
namespace Trm
/-- so many months behind a date: the day's number; 0: beyond all days -/
def mon (y m d q : Int) : Int :=
  if 9999 < y + (m - 1 + q) / 12 then 0
  else Cal.num (y + (m - 1 + q) / 12) ((m - 1 + q) % 12 + 1) (min d (Cal.mlen (y + (m - 1 + q) / 12) ((m - 1 + q) % 12 + 1)))
def days (s q : Int) : Int := if 3652059 < s + q then 0 else s + q
/-- the first day of the kth term from a date on; 0: beyond all days -/
def day (y m d u n k : Int) : Int :=
  if u = 1 then days (Cal.num y m d) (k * n)
  else if u = 2 then days (Cal.num y m d) (k * n * 7)
  else if u = 3 then mon y m d (k * n)
  else mon y m d (k * n * 12)
/-- 8 where there is no such day -/
def over (x : Int) : Int := if x = 0 then 8 else 0
def chk (u n : Int) : Int := if u < 1 ∨ 4 < u then 7 else if n < 1 ∨ 120 < n then 3 else 0
theorem chk_zero (u n : Int) (h : chk u n = 0) : 1 ≤ u ∧ u ≤ 4 ∧ 1 ≤ n ∧ n ≤ 120 := by
  unfold chk at h
  split at h
  · cases h
  · split at h
    · cases h
    · omega
theorem chk_ok (u n : Int) (h1 : 1 ≤ u) (h2 : u ≤ 4) (h3 : 1 ≤ n) (h4 : n ≤ 120) : chk u n = 0 := by
  unfold chk; rw [if_neg (by omega), if_neg (by omega)]
theorem vld_mon (y m d q : Int) (hv : Cal.vld y m d) (hq : 0 ≤ q) (h : y + (m - 1 + q) / 12 ≤ 9999) :
    Cal.vld (y + (m - 1 + q) / 12) ((m - 1 + q) % 12 + 1) (min d (Cal.mlen (y + (m - 1 + q) / 12) ((m - 1 + q) % 12 + 1))) := by
  obtain ⟨h1, h2, h3, h4, h5, h6⟩ := hv
  have b := Cal.mlen_bd (y + (m - 1 + q) / 12) ((m - 1 + q) % 12 + 1)
  refine ⟨by omega, h, by omega, by omega, by omega, by omega⟩
theorem mon_in (y m d q : Int) (hv : Cal.vld y m d) (hq : 0 ≤ q) : mon y m d q = 0 ∨ (1 ≤ mon y m d q ∧ mon y m d q ≤ 3652059) := by
  unfold mon
  split
  · exact .inl rfl
  · exact .inr (Cal.num_in _ _ _ (vld_mon y m d q hv hq (by omega)))
/-- dates of a later month come later -/
theorem num_lt (y m d y' m' d' : Int) (h : Cal.vld y m d) (h' : Cal.vld y' m' d') (hlt : 12 * y + m < 12 * y' + m') : Cal.num y m d < Cal.num y' m' d' := by
  have b := Cal.num_bd y m d h
  have b' := Cal.num_bd y' m' d' h'
  obtain ⟨h1, h2, h3, h4, h5, h6⟩ := h
  obtain ⟨g1, g2, g3, g4, g5, g6⟩ := h'
  by_cases hy : y < y'
  · have := Cal.ahead_mono (y + 1) y' (by omega); omega
  · obtain rfl : y = y' := by omega
    have cs := Cal.cum_succ y m h3 h4
    have := Cal.cum_mono y (m + 1) m' (by omega) (by omega) (by omega)
    unfold Cal.num; omega
theorem num_index (y m d y' m' d' : Int) (h : Cal.vld y m d) (h' : Cal.vld y' m' d') (hle : Cal.num y m d ≤ Cal.num y' m' d') : 12 * y + m ≤ 12 * y' + m' ∧ (12 * y + m = 12 * y' + m' → d ≤ d') := by
  constructor
  · by_cases c : 12 * y' + m' < 12 * y + m
    · have := num_lt _ _ _ _ _ _ h' h c; omega
    · omega
  · intro e
    obtain ⟨h1, h2, h3, h4, h5, h6⟩ := h
    obtain ⟨g1, g2, g3, g4, g5, g6⟩ := h'
    obtain rfl : y = y' := by omega
    obtain rfl : m = m' := by omega
    unfold Cal.num at hle; omega
/-- who begins later, or waits longer, comes no earlier -/
theorem mon_mono (y m d q y' m' d' q' : Int) (h : Cal.vld y m d) (h' : Cal.vld y' m' d') (hq : 0 ≤ q) (hqq : q ≤ q') (hle : Cal.num y m d ≤ Cal.num y' m' d') (hne : mon y' m' d' q' ≠ 0) :
    mon y m d q ≠ 0 ∧ mon y m d q ≤ mon y' m' d' q' ∧ (q < q' → mon y m d q < mon y' m' d' q') := by
  obtain ⟨i1, i2⟩ := num_index _ _ _ _ _ _ h h' hle
  have r1 : 1 ≤ m ∧ m ≤ 12 := ⟨h.2.2.1, h.2.2.2.1⟩
  have r2 : 1 ≤ m' ∧ m' ≤ 12 := ⟨h'.2.2.1, h'.2.2.2.1⟩
  have hY' : ¬ 9999 < y' + (m' - 1 + q') / 12 := by
    intro c; apply hne; unfold mon; rw [if_pos c]
  have hY : ¬ 9999 < y + (m - 1 + q) / 12 := by omega
  have v := vld_mon y m d q h hq (by omega)
  have v' := vld_mon y' m' d' q' h' (by omega) (by omega)
  have p := Cal.num_in _ _ _ v
  have e : mon y m d q = Cal.num (y + (m - 1 + q) / 12) ((m - 1 + q) % 12 + 1) (min d (Cal.mlen (y + (m - 1 + q) / 12) ((m - 1 + q) % 12 + 1))) := by unfold mon; rw [if_neg hY]
  have e' : mon y' m' d' q' = Cal.num (y' + (m' - 1 + q') / 12) ((m' - 1 + q') % 12 + 1) (min d' (Cal.mlen (y' + (m' - 1 + q') / 12) ((m' - 1 + q') % 12 + 1))) := by unfold mon; rw [if_neg hY']
  rw [e, e']
  refine ⟨by omega, ?_, fun hlt => num_lt _ _ _ _ _ _ v v' (by omega)⟩
  by_cases c : 12 * (y + (m - 1 + q) / 12) + ((m - 1 + q) % 12 + 1) < 12 * (y' + (m' - 1 + q') / 12) + ((m' - 1 + q') % 12 + 1)
  · exact Int.le_of_lt (num_lt _ _ _ _ _ _ v v' c)
  · have e1 : y + (m - 1 + q) / 12 = y' + (m' - 1 + q') / 12 := by omega
    have e2 : (m - 1 + q) % 12 + 1 = (m' - 1 + q') % 12 + 1 := by omega
    have hd := i2 (by omega)
    rw [e1, e2]
    unfold Cal.num; omega
theorem days_mono (s q s' q' : Int) (hq : 0 ≤ q) (hqq : q ≤ q') (hs : 1 ≤ s) (hle : s ≤ s') (hne : days s' q' ≠ 0) : days s q ≠ 0 ∧ days s q ≤ days s' q' ∧ (q < q' → days s q < days s' q') := by
  have hY' : ¬ 3652059 < s' + q' := by
    intro c; apply hne; unfold days; rw [if_pos c]
  unfold days
  rw [if_neg hY', if_neg (by omega)]
  omega
theorem mul_le (a b n : Int) (hn : 1 ≤ n) (h : a ≤ b) : a * n ≤ b * n := Int.mul_le_mul_of_nonneg_right h (by omega)
theorem mul_lt (a b n : Int) (hn : 1 ≤ n) (h : a < b) : a * n < b * n := Int.mul_lt_mul_of_pos_right h (by omega)
theorem mul_in (k n : Int) (hk : 0 ≤ k) (hk2 : k ≤ 1001) (hn : 1 ≤ n) (hn2 : n ≤ 120) : 0 ≤ k * n ∧ k * n ≤ 120120 := by
  have a := mul_le 0 k n hn hk
  have b := mul_le k 1001 n hn hk2
  omega
theorem day_mono (y m d y' m' d' u n k j : Int) (h : Cal.vld y m d) (h' : Cal.vld y' m' d') (hn : 1 ≤ n) (hk : 0 ≤ k) (hkj : k ≤ j) (hle : Cal.num y m d ≤ Cal.num y' m' d') (hne : day y' m' d' u n j ≠ 0) :
    day y m d u n k ≠ 0 ∧ day y m d u n k ≤ day y' m' d' u n j ∧ (k < j → day y m d u n k < day y' m' d' u n j) := by
  have q0 := mul_le 0 k n hn hk
  have q1 := mul_le k j n hn hkj
  have q2 : k < j → k * n < j * n := mul_lt k j n hn
  have s0 := Cal.num_in _ _ _ h
  unfold day at hne ⊢
  by_cases u1 : u = 1
  · rw [if_pos u1] at hne ⊢
    rw [if_pos u1]
    have := days_mono _ (k * n) _ (j * n) (by omega) q1 s0.1 hle hne
    exact ⟨this.1, this.2.1, fun c => this.2.2 (q2 c)⟩
  rw [if_neg u1] at hne ⊢
  rw [if_neg u1]
  by_cases u2 : u = 2
  · rw [if_pos u2] at hne ⊢
    rw [if_pos u2]
    have := days_mono _ (k * n * 7) _ (j * n * 7) (by omega) (by omega) s0.1 hle hne
    exact ⟨this.1, this.2.1, fun c => this.2.2 (by have := q2 c; omega)⟩
  rw [if_neg u2] at hne ⊢
  rw [if_neg u2]
  by_cases u3 : u = 3
  · rw [if_pos u3] at hne ⊢
    rw [if_pos u3]
    have := mon_mono _ _ _ (k * n) _ _ _ (j * n) h h' (by omega) q1 hle hne
    exact ⟨this.1, this.2.1, fun c => this.2.2 (q2 c)⟩
  · rw [if_neg u3] at hne ⊢
    rw [if_neg u3]
    have := mon_mono _ _ _ (k * n * 12) _ _ _ (j * n * 12) h h' (by omega) (by omega) hle hne
    exact ⟨this.1, this.2.1, fun c => this.2.2 (by have := q2 c; omega)⟩
theorem mon_zero (y m d : Int) (h : Cal.vld y m d) : mon y m d 0 = Cal.num y m d := by
  obtain ⟨h1, h2, h3, h4, h5, h6⟩ := h
  unfold mon
  have e1 : y + (m - 1 + 0) / 12 = y := by omega
  have e2 : (m - 1 + 0) % 12 + 1 = m := by omega
  rw [e1, e2, if_neg (by omega)]
  have e3 : min d (Cal.mlen y m) = d := by omega
  rw [e3]
theorem day_zero (y m d u n : Int) (h : Cal.vld y m d) : day y m d u n 0 = Cal.num y m d := by
  have s := Cal.num_in _ _ _ h
  unfold day
  rw [Int.zero_mul, Int.zero_mul, Int.zero_mul, mon_zero _ _ _ h]
  have e : days (Cal.num y m d) 0 = Cal.num y m d := by unfold days; rw [if_neg (by omega)]; omega
  rw [e]
  split
  · rfl
  · split
    · rfl
    · split <;> rfl
theorem day_in (y m d u n k : Int) (h : Cal.vld y m d) (hk : 0 ≤ k) (hn : 1 ≤ n) : day y m d u n k = 0 ∨ (1 ≤ day y m d u n k ∧ day y m d u n k ≤ 3652059) := by
  have q0 := mul_le 0 k n hn hk
  have s := Cal.num_in _ _ _ h
  have dd : ∀ q, 0 ≤ q → days (Cal.num y m d) q = 0 ∨ (1 ≤ days (Cal.num y m d) q ∧ days (Cal.num y m d) q ≤ 3652059) := fun q hq => by
    unfold days; split <;> omega
  unfold day
  split
  · exact dd _ (by omega)
  · split
    · exact dd _ (by omega)
    · split
      · exact mon_in _ _ _ _ h (by omega)
      · exact mon_in _ _ _ _ h (by omega)
/-- whether a day lies ahead of the end of the kth term -/
def ends (y m d u n N : Int) (k : Nat) : Bool := decide (day y m d u n (k + 1) = 0 ∨ N < day y m d u n (k + 1))
theorem ends_mono (y m d u n N : Int) (h : Cal.vld y m d) (hn : 1 ≤ n) (a b : Nat) (hab : a ≤ b) (ha : ends y m d u n N a = true) : ends y m d u n N b = true := by
  unfold ends at *
  rw [decide_eq_true_eq] at *
  by_cases c : day y m d u n (b + 1) = 0
  · exact .inl c
  · have := day_mono y m d y m d u n (a + 1) (b + 1) h h hn (by omega) (by omega) (Int.le_refl _) c
    omega
/-- the term in which a day lies: the first whose end is behind it -/
theorem find_ex (y m d u n N : Int) (h : Cal.vld y m d) (hn : 1 ≤ n) (M : Nat) : ∃ K : Nat, K ≤ M ∧ (∀ t, t < K → ends y m d u n N t = false) ∧ (∀ t, K ≤ t → t < M → ends y m d u n N t = true) := by
  induction M with
  | zero => exact ⟨0, by omega, fun t ht => by omega, fun t h1 h2 => by omega⟩
  | succ M ih =>
    obtain ⟨K, k1, k2, k3⟩ := ih
    by_cases c : K < M
    · exact ⟨K, by omega, k2, fun t h1 h2 => ends_mono y m d u n N h hn K t h1 (k3 K (by omega) c)⟩
    · obtain rfl : K = M := by omega
      cases e : ends y m d u n N K with
      | true => exact ⟨K, by omega, k2, fun t h1 h2 => by obtain rfl : t = K := by omega
                                                          exact e⟩
      | false => exact ⟨K + 1, by omega, fun t ht => by
          by_cases c2 : t = K
          · subst c2; exact e
          · exact k2 t (by omega), fun t h1 h2 => by omega⟩
end Trm
end Go.Proofs.YtandlmnbnjkklaaDoor
