/- Plain mathematics of terms: no program is named here. The date of a day number, looked for among all; the first day of a term as a function of the start's number. Plain mathematics of tags: words of 64 bits, a round and its way back, a text's words. No program is named here. -/
import Derived.Test.YtandlmnbnjkklaaGreatDoorCal
namespace Go.Proofs.YtandlmnbnjkklaaGreatDoor
namespace Trm
/-- so many months behind a date: the day's number; 0: beyond all days -/
def mon (y m d q : Int) : Int :=
  if 9999 < y + (m - 1 + q) / 12 then 0
  else Cal.num (y + (m - 1 + q) / 12) ((m - 1 + q) % 12 + 1) (min d (Cal.mlen (y + (m - 1 + q) / 12) ((m - 1 + q) % 12 + 1)))
def days (s q : Int) : Int := if 3652059 < s + q then 0 else s + q
/-- the first day of the kth term from a date on; 0: beyond all days -/
def day (y m d u n k : Int) : Int :=
  if u = 1 then days (Cal.num y m d) (k * n)
  else if u = 2 then days (Cal.num y m d) (k * n * 7)
  else if u = 3 then mon y m d (k * n)
  else mon y m d (k * n * 12)
/-- 8 where there is no such day -/
def over (x : Int) : Int := if x = 0 then 8 else 0
def chk (u n : Int) : Int := if u < 1 ∨ 4 < u then 7 else if n < 1 ∨ 120 < n then 3 else 0
theorem chk_zero (u n : Int) (h : chk u n = 0) : 1 ≤ u ∧ u ≤ 4 ∧ 1 ≤ n ∧ n ≤ 120 := by
  unfold chk at h
  split at h
  · cases h
  · split at h
    · cases h
    · omega
theorem chk_ok (u n : Int) (h1 : 1 ≤ u) (h2 : u ≤ 4) (h3 : 1 ≤ n) (h4 : n ≤ 120) : chk u n = 0 := by
  unfold chk; rw [if_neg (by omega), if_neg (by omega)]
theorem vld_mon (y m d q : Int) (hv : Cal.vld y m d) (hq : 0 ≤ q) (h : y + (m - 1 + q) / 12 ≤ 9999) :
    Cal.vld (y + (m - 1 + q) / 12) ((m - 1 + q) % 12 + 1) (min d (Cal.mlen (y + (m - 1 + q) / 12) ((m - 1 + q) % 12 + 1))) := by
  obtain ⟨h1, h2, h3, h4, h5, h6⟩ := hv
  have b := Cal.mlen_bd (y + (m - 1 + q) / 12) ((m - 1 + q) % 12 + 1)
  refine ⟨by omega, h, by omega, by omega, by omega, by omega⟩
theorem mon_in (y m d q : Int) (hv : Cal.vld y m d) (hq : 0 ≤ q) : mon y m d q = 0 ∨ (1 ≤ mon y m d q ∧ mon y m d q ≤ 3652059) := by
  unfold mon
  split
  · exact .inl rfl
  · exact .inr (Cal.num_in _ _ _ (vld_mon y m d q hv hq (by omega)))
/-- dates of a later month come later -/
theorem num_lt (y m d y' m' d' : Int) (h : Cal.vld y m d) (h' : Cal.vld y' m' d') (hlt : 12 * y + m < 12 * y' + m') : Cal.num y m d < Cal.num y' m' d' := by
  have b := Cal.num_bd y m d h
  have b' := Cal.num_bd y' m' d' h'
  obtain ⟨h1, h2, h3, h4, h5, h6⟩ := h
  obtain ⟨g1, g2, g3, g4, g5, g6⟩ := h'
  by_cases hy : y < y'
  · have := Cal.ahead_mono (y + 1) y' (by omega); omega
  · obtain rfl : y = y' := by omega
    have cs := Cal.cum_succ y m h3 h4
    have := Cal.cum_mono y (m + 1) m' (by omega) (by omega) (by omega)
    unfold Cal.num; omega
theorem num_index (y m d y' m' d' : Int) (h : Cal.vld y m d) (h' : Cal.vld y' m' d') (hle : Cal.num y m d ≤ Cal.num y' m' d') : 12 * y + m ≤ 12 * y' + m' ∧ (12 * y + m = 12 * y' + m' → d ≤ d') := by
  constructor
  · by_cases c : 12 * y' + m' < 12 * y + m
    · have := num_lt _ _ _ _ _ _ h' h c; omega
    · omega
  · intro e
    obtain ⟨h1, h2, h3, h4, h5, h6⟩ := h
    obtain ⟨g1, g2, g3, g4, g5, g6⟩ := h'
    obtain rfl : y = y' := by omega
    obtain rfl : m = m' := by omega
    unfold Cal.num at hle; omega
/-- who begins later, or waits longer, comes no earlier -/
theorem mon_mono (y m d q y' m' d' q' : Int) (h : Cal.vld y m d) (h' : Cal.vld y' m' d') (hq : 0 ≤ q) (hqq : q ≤ q') (hle : Cal.num y m d ≤ Cal.num y' m' d') (hne : mon y' m' d' q' ≠ 0) :
    mon y m d q ≠ 0 ∧ mon y m d q ≤ mon y' m' d' q' ∧ (q < q' → mon y m d q < mon y' m' d' q') := by
  obtain ⟨i1, i2⟩ := num_index _ _ _ _ _ _ h h' hle
  have r1 : 1 ≤ m ∧ m ≤ 12 := ⟨h.2.2.1, h.2.2.2.1⟩
  have r2 : 1 ≤ m' ∧ m' ≤ 12 := ⟨h'.2.2.1, h'.2.2.2.1⟩
  have hY' : ¬ 9999 < y' + (m' - 1 + q') / 12 := by
    intro c; apply hne; unfold mon; rw [if_pos c]
  have hY : ¬ 9999 < y + (m - 1 + q) / 12 := by omega
  have v := vld_mon y m d q h hq (by omega)
  have v' := vld_mon y' m' d' q' h' (by omega) (by omega)
  have p := Cal.num_in _ _ _ v
  have e : mon y m d q = Cal.num (y + (m - 1 + q) / 12) ((m - 1 + q) % 12 + 1) (min d (Cal.mlen (y + (m - 1 + q) / 12) ((m - 1 + q) % 12 + 1))) := by unfold mon; rw [if_neg hY]
  have e' : mon y' m' d' q' = Cal.num (y' + (m' - 1 + q') / 12) ((m' - 1 + q') % 12 + 1) (min d' (Cal.mlen (y' + (m' - 1 + q') / 12) ((m' - 1 + q') % 12 + 1))) := by unfold mon; rw [if_neg hY']
  rw [e, e']
  refine ⟨by omega, ?_, fun hlt => num_lt _ _ _ _ _ _ v v' (by omega)⟩
  by_cases c : 12 * (y + (m - 1 + q) / 12) + ((m - 1 + q) % 12 + 1) < 12 * (y' + (m' - 1 + q') / 12) + ((m' - 1 + q') % 12 + 1)
  · exact Int.le_of_lt (num_lt _ _ _ _ _ _ v v' c)
  · have e1 : y + (m - 1 + q) / 12 = y' + (m' - 1 + q') / 12 := by omega
    have e2 : (m - 1 + q) % 12 + 1 = (m' - 1 + q') % 12 + 1 := by omega
    have hd := i2 (by omega)
    rw [e1, e2]
    unfold Cal.num; omega
theorem days_mono (s q s' q' : Int) (hq : 0 ≤ q) (hqq : q ≤ q') (hs : 1 ≤ s) (hle : s ≤ s') (hne : days s' q' ≠ 0) : days s q ≠ 0 ∧ days s q ≤ days s' q' ∧ (q < q' → days s q < days s' q') := by
  have hY' : ¬ 3652059 < s' + q' := by
    intro c; apply hne; unfold days; rw [if_pos c]
  unfold days
  rw [if_neg hY', if_neg (by omega)]
  omega
theorem mul_le (a b n : Int) (hn : 1 ≤ n) (h : a ≤ b) : a * n ≤ b * n := Int.mul_le_mul_of_nonneg_right h (by omega)
theorem mul_lt (a b n : Int) (hn : 1 ≤ n) (h : a < b) : a * n < b * n := Int.mul_lt_mul_of_pos_right h (by omega)
theorem mul_in (k n : Int) (hk : 0 ≤ k) (hk2 : k ≤ 1001) (hn : 1 ≤ n) (hn2 : n ≤ 120) : 0 ≤ k * n ∧ k * n ≤ 120120 := by
  have a := mul_le 0 k n hn hk
  have b := mul_le k 1001 n hn hk2
  omega
theorem day_mono (y m d y' m' d' u n k j : Int) (h : Cal.vld y m d) (h' : Cal.vld y' m' d') (hn : 1 ≤ n) (hk : 0 ≤ k) (hkj : k ≤ j) (hle : Cal.num y m d ≤ Cal.num y' m' d') (hne : day y' m' d' u n j ≠ 0) :
    day y m d u n k ≠ 0 ∧ day y m d u n k ≤ day y' m' d' u n j ∧ (k < j → day y m d u n k < day y' m' d' u n j) := by
  have q0 := mul_le 0 k n hn hk
  have q1 := mul_le k j n hn hkj
  have q2 : k < j → k * n < j * n := mul_lt k j n hn
  have s0 := Cal.num_in _ _ _ h
  unfold day at hne ⊢
  by_cases u1 : u = 1
  · rw [if_pos u1] at hne ⊢
    rw [if_pos u1]
    have := days_mono _ (k * n) _ (j * n) (by omega) q1 s0.1 hle hne
    exact ⟨this.1, this.2.1, fun c => this.2.2 (q2 c)⟩
  rw [if_neg u1] at hne ⊢
  rw [if_neg u1]
  by_cases u2 : u = 2
  · rw [if_pos u2] at hne ⊢
    rw [if_pos u2]
    have := days_mono _ (k * n * 7) _ (j * n * 7) (by omega) (by omega) s0.1 hle hne
    exact ⟨this.1, this.2.1, fun c => this.2.2 (by have := q2 c; omega)⟩
  rw [if_neg u2] at hne ⊢
  rw [if_neg u2]
  by_cases u3 : u = 3
  · rw [if_pos u3] at hne ⊢
    rw [if_pos u3]
    have := mon_mono _ _ _ (k * n) _ _ _ (j * n) h h' (by omega) q1 hle hne
    exact ⟨this.1, this.2.1, fun c => this.2.2 (q2 c)⟩
  · rw [if_neg u3] at hne ⊢
    rw [if_neg u3]
    have := mon_mono _ _ _ (k * n * 12) _ _ _ (j * n * 12) h h' (by omega) (by omega) hle hne
    exact ⟨this.1, this.2.1, fun c => this.2.2 (by have := q2 c; omega)⟩
theorem mon_zero (y m d : Int) (h : Cal.vld y m d) : mon y m d 0 = Cal.num y m d := by
  obtain ⟨h1, h2, h3, h4, h5, h6⟩ := h
  unfold mon
  have e1 : y + (m - 1 + 0) / 12 = y := by omega
  have e2 : (m - 1 + 0) % 12 + 1 = m := by omega
  rw [e1, e2, if_neg (by omega)]
  have e3 : min d (Cal.mlen y m) = d := by omega
  rw [e3]
theorem day_zero (y m d u n : Int) (h : Cal.vld y m d) : day y m d u n 0 = Cal.num y m d := by
  have s := Cal.num_in _ _ _ h
  unfold day
  rw [Int.zero_mul, Int.zero_mul, Int.zero_mul, mon_zero _ _ _ h]
  have e : days (Cal.num y m d) 0 = Cal.num y m d := by unfold days; rw [if_neg (by omega)]; omega
  rw [e]
  split
  · rfl
  · split
    · rfl
    · split <;> rfl
theorem day_in (y m d u n k : Int) (h : Cal.vld y m d) (hk : 0 ≤ k) (hn : 1 ≤ n) : day y m d u n k = 0 ∨ (1 ≤ day y m d u n k ∧ day y m d u n k ≤ 3652059) := by
  have q0 := mul_le 0 k n hn hk
  have s := Cal.num_in _ _ _ h
  have dd : ∀ q, 0 ≤ q → days (Cal.num y m d) q = 0 ∨ (1 ≤ days (Cal.num y m d) q ∧ days (Cal.num y m d) q ≤ 3652059) := fun q hq => by
    unfold days; split <;> omega
  unfold day
  split
  · exact dd _ (by omega)
  · split
    · exact dd _ (by omega)
    · split
      · exact mon_in _ _ _ _ h (by omega)
      · exact mon_in _ _ _ _ h (by omega)
/-- whether a day lies ahead of the end of the kth term -/
def ends (y m d u n N : Int) (k : Nat) : Bool := decide (day y m d u n (k + 1) = 0 ∨ N < day y m d u n (k + 1))
theorem ends_mono (y m d u n N : Int) (h : Cal.vld y m d) (hn : 1 ≤ n) (a b : Nat) (hab : a ≤ b) (ha : ends y m d u n N a = true) : ends y m d u n N b = true := by
  unfold ends at *
  rw [decide_eq_true_eq] at *
  by_cases c : day y m d u n (b + 1) = 0
  · exact .inl c
  · have := day_mono y m d y m d u n (a + 1) (b + 1) h h hn (by omega) (by omega) (Int.le_refl _) c
    omega
/-- the term in which a day lies: the first whose end is behind it -/
theorem find_ex (y m d u n N : Int) (h : Cal.vld y m d) (hn : 1 ≤ n) (M : Nat) : ∃ K : Nat, K ≤ M ∧ (∀ t, t < K → ends y m d u n N t = false) ∧ (∀ t, K ≤ t → t < M → ends y m d u n N t = true) := by
  induction M with
  | zero => exact ⟨0, by omega, fun t ht => by omega, fun t h1 h2 => by omega⟩
  | succ M ih =>
    obtain ⟨K, k1, k2, k3⟩ := ih
    by_cases c : K < M
    · exact ⟨K, by omega, k2, fun t h1 h2 => ends_mono y m d u n N h hn K t h1 (k3 K (by omega) c)⟩
    · obtain rfl : K = M := by omega
      cases e : ends y m d u n N K with
      | true => exact ⟨K, by omega, k2, fun t h1 h2 => by obtain rfl : t = K := by omega
                                                          exact e⟩
      | false => exact ⟨K + 1, by omega, fun t ht => by
          by_cases c2 : t = K
          · subst c2; exact e
          · exact k2 t (by omega), fun t h1 h2 => by omega⟩
end Trm
end Go.Proofs.YtandlmnbnjkklaaGreatDoor
namespace Go.Proofs.YtandlmnbnjkklaaGreatDoor
namespace Cal
def down : Nat → List Int
  | 0 => []
  | n + 1 => ((n + 1 : Nat) : Int) :: down n
theorem mem_down (x : Int) : ∀ n : Nat, 1 ≤ x → x ≤ n → x ∈ down n
  | 0, h1, h2 => by omega
  | n + 1, h1, h2 => by
    by_cases h : x = ((n + 1 : Nat) : Int)
    · subst h; exact .head _
    · exact .tail _ (mem_down x n h1 (by omega))
def vb (y m d : Int) : Bool := decide (1 ≤ y) && (decide (y ≤ 9999) && (decide (1 ≤ m) && (decide (m ≤ 12) && (decide (1 ≤ d) && decide (d ≤ mlen y m)))))
theorem vb_iff (y m d : Int) : vb y m d = true ↔ vld y m d := by unfold vb vld; simp
def cands : List (Int × Int × Int) := (down 9999).flatMap fun y => (down 12).flatMap fun m => (down 31).map fun d => (y, m, d)
def dt (s : Int) : Option (Int × Int × Int) := cands.find? fun t => vb t.1 t.2.1 t.2.2 && decide (num t.1 t.2.1 t.2.2 = s)
theorem mem_cands {y m d : Int} (h : vld y m d) : (y, m, d) ∈ cands := by
  have hm := mlen_bd y m
  obtain ⟨h1, h2, h3, h4, h5, h6⟩ := h
  unfold cands
  rw [List.mem_flatMap]
  refine ⟨y, mem_down y _ h1 h2, ?_⟩
  rw [List.mem_flatMap]
  refine ⟨m, mem_down m _ h3 h4, ?_⟩
  rw [List.mem_map]
  exact ⟨d, mem_down d _ h5 (by omega), rfl⟩
theorem dt_is {y m d s : Int} (h : vld y m d) (e : num y m d = s) : dt s = some (y, m, d) := by
  cases hq : dt s with
  | none =>
    unfold dt at hq
    have := List.find?_eq_none.1 hq _ (mem_cands h)
    simp only [(vb_iff y m d).2 h, e, decide_true, Bool.and_self, not_true_eq_false] at this
  | some t =>
    obtain ⟨y', m', d'⟩ := t
    unfold dt at hq
    have hp := List.find?_some hq
    simp only [Bool.and_eq_true, decide_eq_true_eq] at hp
    obtain ⟨rfl, rfl, rfl⟩ := num_inj _ _ _ _ _ _ ((vb_iff _ _ _).1 hp.1) h (hp.2.trans e.symm)
    rfl
end Cal
end Go.Proofs.YtandlmnbnjkklaaGreatDoor
namespace Go.Proofs.YtandlmnbnjkklaaGreatDoor
namespace Tg
abbrev W := BitVec 64
abbrev V := W × W × W × W
/-- a word turned -/
def rl (x : W) (r : Nat) : W := x.rotateLeft r
theorem rl_get (x : W) (r i : Nat) (hr : r < 64) (hi : i < 64) : (rl x r).getLsbD i = if i < r then x.getLsbD (64 - r + i) else x.getLsbD (i - r) := by
  unfold rl
  rw [BitVec.getLsbD_rotateLeft]
  simp only [Nat.mod_eq_of_lt hr]
  split
  · simp [*]
  · simp [*]
theorem rl_rl (x : W) (r s : Nat) (hr : r < 64) (hs : s < 64) (h : r + s < 64) : rl (rl x r) s = rl x (r + s) := by
  apply BitVec.eq_of_getLsbD_eq
  intro i hi
  rw [rl_get _ _ _ hs hi, rl_get _ _ _ h hi]
  by_cases c : i < s
  · rw [if_pos c, if_pos (by omega), rl_get _ _ _ hr (by omega), if_neg (by omega)]
    congr 1; omega
  · rw [if_neg c, rl_get _ _ _ hr (by omega)]
    by_cases d : i - s < r
    · rw [if_pos d, if_pos (by omega)]; congr 1; omega
    · rw [if_neg d, if_neg (by omega)]; congr 1; omega
theorem rl_back (x : W) (r s : Nat) (h : r + s = 64) (hr : 0 < r) (hs : 0 < s) : rl (rl x r) s = x := by
  apply BitVec.eq_of_getLsbD_eq
  intro i hi
  rw [rl_get _ _ _ (by omega) hi]
  by_cases c : i < s
  · rw [if_pos c, rl_get _ _ _ (by omega) (by omega), if_neg (by omega)]
    congr 1; omega
  · rw [if_neg c, rl_get _ _ _ (by omega) (by omega), if_pos (by omega)]
    congr 1; omega
theorem rl_zero (x : W) : rl x 0 = x := by
  apply BitVec.eq_of_getLsbD_eq
  intro i hi
  rw [rl_get _ _ _ (by omega) hi, if_neg (by omega)]
  rfl
def rnd (v : V) : V :=
  let a1 := v.1 + v.2.1
  let b1 := rl v.2.1 13 ^^^ a1
  let a2 := rl a1 32
  let c1 := v.2.2.1 + v.2.2.2
  let d1 := rl v.2.2.2 16 ^^^ c1
  let a3 := a2 + d1
  let d2 := rl d1 21 ^^^ a3
  let c2 := c1 + b1
  let b2 := rl b1 17 ^^^ c2
  let c3 := rl c2 32
  (a3, b2, c3, d2)
def bck (v : V) : V :=
  let c2 := rl v.2.2.1 32
  let b1 := rl (v.2.1 ^^^ c2) 47
  let c1 := c2 - b1
  let d1 := rl (v.2.2.2 ^^^ v.1) 43
  let a2 := v.1 - d1
  let d0 := rl (d1 ^^^ c1) 48
  let c0 := c1 - d0
  let a1 := rl a2 32
  let b0 := rl (b1 ^^^ a1) 51
  let a0 := a1 - b0
  (a0, b0, c0, d0)
theorem xx (a b : W) : a ^^^ b ^^^ b = a := by rw [BitVec.xor_assoc, BitVec.xor_self, BitVec.xor_zero]
theorem as (a b : W) : a + b - b = a := BitVec.add_sub_cancel a b
theorem sa (a b : W) : a - b + b = a := BitVec.sub_add_cancel a b
theorem bck_rnd (v : V) : bck (rnd v) = v := by
  obtain ⟨a, b, c, d⟩ := v
  simp only [bck, rnd, as, xx, rl_back _ 32 32 rfl (by decide) (by decide), rl_back _ 17 47 rfl (by decide) (by decide), rl_back _ 21 43 rfl (by decide) (by decide), rl_back _ 16 48 rfl (by decide) (by decide), rl_back _ 13 51 rfl (by decide) (by decide)]
theorem rnd_bck (v : V) : rnd (bck v) = v := by
  obtain ⟨a, b, c, d⟩ := v
  simp only [bck, rnd, sa, xx, rl_back _ 51 13 rfl (by decide) (by decide), rl_back _ 32 32 rfl (by decide) (by decide), rl_back _ 48 16 rfl (by decide) (by decide), rl_back _ 43 21 rfl (by decide) (by decide), rl_back _ 47 17 rfl (by decide) (by decide)]
def rnds : Nat → V → V
  | 0, v => v
  | n + 1, v => rnd (rnds n v)
def take (v : V) (m : W) : V :=
  let u := rnd (rnd (v.1, v.2.1, v.2.2.1, v.2.2.2 ^^^ m))
  (u.1 ^^^ m, u.2.1, u.2.2.1, u.2.2.2)
def untake (v : V) (m : W) : V :=
  let u := bck (bck (v.1 ^^^ m, v.2.1, v.2.2.1, v.2.2.2))
  (u.1, u.2.1, u.2.2.1, u.2.2.2 ^^^ m)
theorem untake_take (v : V) (m : W) : untake (take v m) m = v := by
  simp only [untake, take, xx]
  rw [show ∀ u : V, (u.1, u.2.1, u.2.2.1, u.2.2.2) = u from fun _ => rfl, bck_rnd, bck_rnd, xx]
theorem take_inj (v w : V) (m : W) : take v m = take w m ↔ v = w :=
  ⟨fun h => by rw [← untake_take v m, h, untake_take], fun h => by rw [h]⟩
def fin (v : V) : W :=
  let u := rnd (rnd (rnd (rnd (v.1, v.2.1, v.2.2.1 ^^^ 255, v.2.2.2))))
  u.1 ^^^ u.2.1 ^^^ u.2.2.1 ^^^ u.2.2.2
def start (a b : W) : V := (a ^^^ 0x736f6d6570736575, b ^^^ 0x646f72616e646f6d, a ^^^ 0x6c7967656e657261, b ^^^ 0x7465646279746573)
/-- of a text's bytes from 8 j on the first m, the first the least -/
def part (l : List UInt8) (j : Nat) : Nat → Nat
  | 0 => 0
  | m + 1 => part l j m + (l.getD (8 * j + m) 0).toNat * 256 ^ m
theorem part_lt (l : List UInt8) (j m : Nat) : part l j m < 256 ^ m := by
  induction m with
  | zero => simp [part]
  | succ m ih =>
    have h : (l.getD (8 * j + m) 0).toNat ≤ 255 := by have := (l.getD (8 * j + m) 0).toNat_lt; omega
    have h2 := Nat.mul_le_mul_right (256 ^ m) h
    show part l j m + _ < 256 ^ m * 256
    omega
theorem part_zero (l : List UInt8) (j m k : Nat) (hm : m ≤ k) (h : l.length ≤ 8 * j + m) : part l j k = part l j m := by
  induction k with
  | zero => rw [Nat.le_zero.1 hm]
  | succ k ih =>
    by_cases c : m = k + 1
    · rw [c]
    · show part l j k + _ = _
      rw [ih (by omega), List.getD_eq_getElem?_getD, List.getElem?_eq_none (by omega)]
      simp
theorem part_inj (l l' : List UInt8) (j m : Nat) (h : part l j m = part l' j m) : ∀ k, k < m → l.getD (8 * j + k) 0 = l'.getD (8 * j + k) 0 := by
  induction m with
  | zero => intro k hk; omega
  | succ m ih =>
    have e : part l j m + (l.getD (8 * j + m) 0).toNat * 256 ^ m = part l' j m + (l'.getD (8 * j + m) 0).toNat * 256 ^ m := h
    have p1 := part_lt l j m
    have p2 := part_lt l' j m
    have hm : part l j m = part l' j m := by
      have := congrArg (· % 256 ^ m) e
      simpa [Nat.add_mul_mod_self_right, Nat.mod_eq_of_lt p1, Nat.mod_eq_of_lt p2] using this
    have hb : (l.getD (8 * j + m) 0).toNat = (l'.getD (8 * j + m) 0).toNat := by
      have : (l.getD (8 * j + m) 0).toNat * 256 ^ m = (l'.getD (8 * j + m) 0).toNat * 256 ^ m := by omega
      exact Nat.eq_of_mul_eq_mul_right (Nat.pow_pos (by decide)) this
    intro k hk
    by_cases c : k = m
    · subst c; exact UInt8.toNat_inj.1 hb
    · exact ih hm k (by omega)
def lst (l : List UInt8) : Nat := part l (l.length / 8) 7 + l.length % 256 * 72057594037927936
theorem lst_lt (l : List UInt8) : lst l < 18446744073709551616 := by
  have h := part_lt l (l.length / 8) 7
  unfold lst
  omega
theorem part8_lt (l : List UInt8) (j : Nat) : part l j 8 < 18446744073709551616 := part_lt l j 8
/-- the jth of a text's words, as a number -/
def wn (l : List UInt8) (j : Nat) : Nat := if j < l.length / 8 then part l j 8 else lst l
theorem wn_lt (l : List UInt8) (j : Nat) : wn l j < 18446744073709551616 := by
  unfold wn; split
  · exact part8_lt l j
  · exact lst_lt l
def words (l : List UInt8) : List W := (List.range (l.length / 8 + 1)).map fun j => BitVec.ofNat 64 (wn l j)
theorem words_length (l : List UInt8) : (words l).length = l.length / 8 + 1 := by simp [words]
theorem words_get (l : List UInt8) (j : Nat) (h : j < l.length / 8 + 1) : (words l)[j]? = some (BitVec.ofNat 64 (wn l j)) := by
  simp [words, h]
theorem ofNat_inj (a b : Nat) (ha : a < 18446744073709551616) (hb : b < 18446744073709551616) (h : BitVec.ofNat 64 a = BitVec.ofNat 64 b) : a = b := by
  have := congrArg BitVec.toNat h
  rwa [BitVec.toNat_ofNat, BitVec.toNat_ofNat, Nat.mod_eq_of_lt ha, Nat.mod_eq_of_lt hb] at this
theorem words_inj (l l' : List UInt8) (h : words l = words l') : l = l' := by
  have hq : l.length / 8 = l'.length / 8 := by
    have := congrArg List.length h
    rw [words_length, words_length] at this
    omega
  have hw : ∀ j, j < l.length / 8 + 1 → wn l j = wn l' j := by
    intro j hj
    have := congrArg (·[j]?) h
    rw [words_get l j hj, words_get l' j (by omega)] at this
    exact ofNat_inj _ _ (wn_lt _ _) (wn_lt _ _) (Option.some.inj this)
  have hl := hw (l.length / 8) (by omega)
  unfold wn at hl
  rw [if_neg (by omega), if_neg (by omega)] at hl
  unfold lst at hl
  have p1 := part_lt l (l.length / 8) 7
  have p2 := part_lt l' (l'.length / 8) 7
  have hn : l.length = l'.length := by omega
  have hp : part l (l.length / 8) 7 = part l' (l.length / 8) 7 := by rw [← hn] at hl; omega
  apply List.ext_getElem hn
  intro i h1 h2
  have key : l.getD i 0 = l'.getD i 0 := by
    by_cases c : i / 8 < l.length / 8
    · have := hw (i / 8) (by omega)
      unfold wn at this
      rw [if_pos c, if_pos (by omega)] at this
      have := part_inj _ _ _ _ this (i % 8) (by omega)
      rwa [show 8 * (i / 8) + i % 8 = i by omega] at this
    · have := part_inj _ _ _ _ hp (i % 8) (by omega)
      rwa [show 8 * (l.length / 8) + i % 8 = i by omega] at this
  simpa [List.getD_eq_getElem?_getD, h1, h2] using key
/-- what comes of words, taken one by one -/
def takes (v : V) (ws : List W) : V := ws.foldl take v
theorem takes_snoc (v : V) (ws : List W) (k : Nat) (m : W) (h : ws[k]? = some m) : takes v (ws.take (k + 1)) = take (takes v (ws.take k)) m := by
  unfold takes
  have hk : k < ws.length := (List.getElem?_eq_some_iff.1 h).1
  rw [List.take_succ_eq_append_getElem hk, List.foldl_append]
  have : ws[k] = m := by have := List.getElem?_eq_getElem hk; rw [h] at this; exact (Option.some.inj this).symm
  rw [this]; rfl
def of (a b : W) (l : List UInt8) : W := fin (takes (start a b) (words l))
end Tg
end Go.Proofs.YtandlmnbnjkklaaGreatDoor
