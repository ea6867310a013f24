/- Plain mathematics of parts: near, rising, whole. No program is named here. -/
import Derived.Test.YtcaibonnkfhkmaaPRef3
namespace Go.Proofs.Ytcaibonnkfhkmaa
namespace Pen
theorem ok_of (p num d way : Int) (h : partE p num d way = 0) : amt p = true ∧ 1 ≤ way ∧ way ≤ 4 ∧ 0 ≤ num ∧ num ≤ 100000 ∧ 1 ≤ d ∧ d ≤ 100000 := by
  by_cases c : amt p = true ∧ 1 ≤ way ∧ way ≤ 4 ∧ 0 ≤ num ∧ num ≤ 100000 ∧ 1 ≤ d ∧ d ≤ 100000
  · exact c
  · exact absurd h (part_bad p num d way c).2
theorem ok_raw (p num d way : Int) (h : partE p num d way = 0) : part p num d way = raw p num d way ∧ amt (raw p num d way) = true := by
  obtain ⟨ha, hw1, hw2, h1, h2, h3, h4⟩ := ok_of p num d way h
  obtain ⟨eE, eP⟩ := part_good p num d way ha hw1 hw2 h1 h2 h3 h4
  rw [h] at eE
  cases hz : amt (raw p num d way) with
  | true => rw [hz, if_pos rfl] at eP; exact ⟨eP, rfl⟩
  | false => rw [hz] at eE; exact absurd eE (by decide)
theorem ok_mk (p num d way : Int) (ha : amt p = true) (hw1 : 1 ≤ way) (hw2 : way ≤ 4) (h1 : 0 ≤ num) (h2 : num ≤ 100000) (h3 : 1 ≤ d) (h4 : d ≤ 100000) (hr : amt (raw p num d way) = true) : partE p num d way = 0 ∧ part p num d way = raw p num d way := by
  obtain ⟨eE, eP⟩ := part_good p num d way ha hw1 hw2 h1 h2 h3 h4
  rw [hr, if_pos rfl] at eE eP
  exact ⟨eE, eP⟩
theorem err_zero (p num d way : Int) (h : ¬ partE p num d way = 0) : part p num d way = 0 := by unfold part; rw [if_neg h]
/-- what is rounded, times the parts, beside what it came of -/
theorem raw_near (p num d way : Int) (hw1 : 1 ≤ way) (hw2 : way ≤ 4) (h1 : 0 ≤ num) (h3 : 1 ≤ d) : ∃ N A : Int, raw p num d way * d = N ∧ p * num = A ∧ -d < N - A ∧ N - A < d ∧
    (3 ≤ way → 2 * (N - A) ≤ d ∧ -d ≤ 2 * (N - A)) ∧ (way = 1 → (p < 0 → A ≤ N) ∧ (0 ≤ p → N ≤ A)) ∧ (way = 2 → (p < 0 → N ≤ A) ∧ (0 ≤ p → A ≤ N)) := by
  refine ⟨_, _, rfl, rfl, ?_⟩
  have hsg : p < 0 → p * num ≤ 0 := fun hs => by
    have en : -p * num = -(p * num) := Int.neg_mul p num
    have := Int.mul_nonneg (show 0 ≤ -p by omega) h1
    omega
  have hsg2 : ¬ p < 0 → 0 ≤ p * num := fun hs => Int.mul_nonneg (by omega) h1
  have eR : raw p num d way = if p < 0 then -(rnd (-(p * num)) d way) else rnd (p * num) d way := rfl
  rw [eR]
  generalize p * num = A at *
  by_cases hs : p < 0
  · rw [if_pos hs]
    obtain ⟨q, r, f1, f2, f3, f4, f5, f6⟩ := rnd_ex (-A) d way (by omega) (by have := hsg hs; omega)
    rw [f6]
    have e2 : (-q) * d = -(q * d) := Int.neg_mul q d
    have e3 : (-(q + 1)) * d = -(q * d) - d := by rw [Int.neg_mul, Int.add_mul, Int.one_mul]; omega
    cases hu : upB q r d way with
    | true =>
      rw [if_pos rfl, e3]
      simp [upB] at hu
      omega
    | false =>
      rw [if_neg (by decide), e2]
      simp [upB] at hu
      omega
  · rw [if_neg hs]
    obtain ⟨q, r, f1, f2, f3, f4, f5, f6⟩ := rnd_ex A d way (by omega) (hsg2 hs)
    rw [f6]
    have e1 : (q + 1) * d = q * d + d := by rw [Int.add_mul, Int.one_mul]
    cases hu : upB q r d way with
    | true =>
      rw [if_pos rfl, e1]
      simp [upB] at hu
      omega
    | false =>
      rw [if_neg (by decide)]
      simp [upB] at hu
      omega
theorem rnd_nonneg (n d way : Int) (hd : 0 < d) (hn : 0 ≤ n) : 0 ≤ rnd n d way ∧ rnd n d way ≤ n + 1 := by
  obtain ⟨q, r, f1, f2, f3, f4, f5, f6⟩ := rnd_ex n d way hd hn
  rw [f6]; split <;> omega
theorem rnd_mono (n m d way : Int) (hd : 0 < d) (_hn : 0 ≤ n) (h : n ≤ m) : rnd n d way ≤ rnd m d way := by
  have hq : n / d ≤ m / d := Int.ediv_le_ediv hd h
  obtain ⟨a1, a2, a3⟩ := div_facts n d hd
  obtain ⟨b1, b2, b3⟩ := div_facts m d hd
  unfold rnd
  by_cases he : n / d = m / d
  · have hr : n % d ≤ m % d := by rw [he] at a1; omega
    rw [he]
    generalize m / d = q at *
    generalize n % d = r at *
    generalize m % d = t at *
    cases hu : upB q r d way with
    | false => rw [if_neg (by decide)]; split <;> omega
    | true =>
      have : upB q t d way = true := by
        simp [upB] at hu ⊢; omega
      rw [this]; omega
  · split <;> split <;> omega
theorem raw_mono (a b num d way : Int) (h1 : 0 ≤ num) (h3 : 1 ≤ d) (h : a ≤ b) : raw a num d way ≤ raw b num d way := by
  have hm : a * num ≤ b * num := Int.mul_le_mul_of_nonneg_right h h1
  have hsg : ∀ p : Int, p < 0 → p * num ≤ 0 := fun p hs => by
    have en : -p * num = -(p * num) := Int.neg_mul p num
    have := Int.mul_nonneg (show 0 ≤ -p by omega) h1
    omega
  have hsg2 : ∀ p : Int, ¬ p < 0 → 0 ≤ p * num := fun p hs => Int.mul_nonneg (by omega) h1
  unfold raw
  by_cases ha : a < 0 <;> by_cases hb : b < 0
  · rw [if_pos ha, if_pos hb]
    have := rnd_mono (-(b * num)) (-(a * num)) d way (by omega) (by have := hsg b hb; omega) (by omega)
    omega
  · rw [if_pos ha, if_neg hb]
    have := rnd_nonneg (-(a * num)) d way (by omega) (by have := hsg a ha; omega)
    have := rnd_nonneg (b * num) d way (by omega) (hsg2 b hb)
    omega
  · omega
  · rw [if_neg ha, if_neg hb]
    exact rnd_mono _ _ d way (by omega) (hsg2 a ha) hm
theorem rnd_zero (d way : Int) (hd : 0 < d) : rnd 0 d way = 0 := by
  rw [rnd_of 0 d way 0 0 hd (by omega) (by omega) hd]
  have : upB 0 0 d way = false := by simp [upB]; omega
  rw [this]; rfl
theorem raw_neg (a num d way : Int) (h3 : 1 ≤ d) : raw (-a) num d way = -(raw a num d way) := by
  unfold raw
  rw [Int.neg_mul]
  by_cases h0 : a = 0
  · subst h0
    rw [if_neg (by omega), if_neg (by omega), Int.zero_mul, Int.neg_zero, rnd_zero d way (by omega)]; rfl
  · by_cases ha : a < 0
    · rw [if_neg (by omega), if_pos ha, Int.neg_neg]
    · rw [if_pos (by omega), if_neg ha, Int.neg_neg]
theorem part_neg (a num d way : Int) (h : partE a num d way = 0) : partE (-a) num d way = 0 ∧ part (-a) num d way = -(part a num d way) := by
  obtain ⟨ha, hw1, hw2, h1, h2, h3, h4⟩ := ok_of a num d way h
  obtain ⟨e1, e2⟩ := ok_raw a num d way h
  have := ok_mk (-a) num d way (by rw [amt_neg]; exact ha) hw1 hw2 h1 h2 h3 h4 (by rw [raw_neg _ _ _ _ h3, amt_neg]; exact e2)
  rw [raw_neg _ _ _ _ h3] at this
  rw [e1]; exact this
theorem part_mono (a b num d way : Int) (h : partE a num d way = 0) (h' : partE b num d way = 0) (hab : a ≤ b) : part a num d way ≤ part b num d way := by
  obtain ⟨ha, hw1, hw2, h1, h2, h3, h4⟩ := ok_of a num d way h
  rw [(ok_raw a num d way h).1, (ok_raw b num d way h').1]
  exact raw_mono a b num d way h1 h3 hab
/-- what comes out even -/
theorem raw_even (p num d way t : Int) (hd : 0 < d) (h : p * num = t * d) : raw p num d way = t := by
  unfold raw
  have hu : ∀ q, upB q 0 d way = false := fun q => by simp [upB]; omega
  split
  · rw [h, rnd_of (-(t * d)) d way (-t) 0 hd (by rw [Int.neg_mul]; omega) (by omega) hd, hu]; simp
  · rw [h, rnd_of (t * d) d way t 0 hd (by omega) (by omega) hd, hu]; rfl
theorem raw_down (p num d : Int) (hp : 0 ≤ p) : raw p num d 1 = p * num / d := by
  unfold raw rnd
  rw [if_neg (by omega)]
  have : upB (p * num / d) (p * num % d) d 1 = false := by simp [upB]
  rw [this]; rfl
theorem raw_more (p num d k : Int) (hp : 0 ≤ p) (hk : 0 ≤ k) (hd : 0 < d) : raw (p + k * d) num d 1 = raw p num d 1 + k * num := by
  have hkd : 0 ≤ k * d := Int.mul_nonneg hk (by omega)
  rw [raw_down _ _ _ (by omega), raw_down _ _ _ hp]
  have : (p + k * d) * num = p * num + (k * num) * d := by rw [Int.add_mul, Int.mul_assoc, Int.mul_assoc, Int.mul_comm d num]
  rw [this, Int.add_mul_ediv_right _ _ (by omega)]
theorem raw_bd (p num d way B : Int) (h3 : 1 ≤ d) (h1 : 0 ≤ num) (hb : -B ≤ p * num) (hb2 : p * num ≤ B) : -(B + 1) ≤ raw p num d way ∧ raw p num d way ≤ B + 1 := by
  have hsg : p < 0 → p * num ≤ 0 := fun hs => by
    have en : -p * num = -(p * num) := Int.neg_mul p num
    have := Int.mul_nonneg (show 0 ≤ -p by omega) h1
    omega
  have hsg2 : ¬ p < 0 → 0 ≤ p * num := fun hs => Int.mul_nonneg (by omega) h1
  unfold raw
  split
  · rename_i hs
    have := rnd_nonneg (-(p * num)) d way (by omega) (by have := hsg hs; omega)
    omega
  · rename_i hs
    have := rnd_nonneg (p * num) d way (by omega) (hsg2 hs)
    omega
theorem mul_bd2 (a b A B : Int) (h1 : -A ≤ a) (h2 : a ≤ A) (h3 : 0 ≤ b) (h4 : b ≤ B) : -(A * B) ≤ a * b ∧ a * b ≤ A * B := by
  have hA : 0 ≤ A := by omega
  have x := Int.mul_le_mul_of_nonneg_right h1 h3
  have y := Int.mul_le_mul_of_nonneg_right h2 h3
  have z := Int.mul_le_mul_of_nonneg_left h4 hA
  rw [Int.neg_mul] at x
  omega
end Pen
end Go.Proofs.Ytcaibonnkfhkmaa
