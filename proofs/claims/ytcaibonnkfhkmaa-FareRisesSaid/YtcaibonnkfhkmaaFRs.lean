/- What is asked for zones, plainly: of fair fares it rises with the zones, and falls with what is off. -/
import Derived.Test.YtcaibonnkfhkmaaFFa
import Derived.Test.YtcaibonnkfhkmaaFOf
import Derived.Test.YtcaibonnkfhkmaaPen2
namespace Go.Proofs.Ytcaibonnkfhkmaa
open Go.RowKit

namespace Fr
theorem of_bad {f : List (List Int)} {a b p way : Int} (h : ofE f a b p way ≠ 0) : ofV f a b p way = 0 := by
  unfold ofE at h
  unfold ofV
  by_cases c : chk f ≠ 0
  · rw [if_pos c]
  · rw [if_neg c] at h ⊢
    by_cases g : good f a b p = true
    · rw [if_pos g] at h ⊢
      exact Pen.err_zero _ _ _ _ h
    · rw [if_neg g]
theorem of_good {f : List (List Int)} {a b p way : Int} (h : ofE f a b p way = 0) : chk f = 0 ∧ 0 ≤ a ∧ a ≤ b ∧ b ≤ (f.length : Int) - 1 ∧ 0 ≤ p ∧ p ≤ 100 ∧ Pen.partE (pr f a.toNat b.toNat) (100 - p) 100 way = 0 ∧ ofV f a b p way = Pen.raw (pr f a.toNat b.toNat) (100 - p) 100 way := by
  unfold ofE at h
  unfold ofV
  by_cases c : chk f ≠ 0
  · rw [if_pos c] at h; exact absurd h c
  · rw [if_neg c] at h ⊢
    by_cases g : good f a b p = true
    · rw [if_pos g] at h ⊢
      unfold good g1 g2 g3 at g
      simp only [Bool.and_eq_true, decide_eq_true_eq] at g
      exact ⟨by omega, g.1.1.1, g.1.2.1, g.1.2.2, g.2.1, g.2.2, h, (Pen.ok_raw _ _ _ _ h).1⟩
    · rw [if_neg g] at h; cases h
theorem of_all {f : List (List Int)} {a b p way : Int} (h : ofE f a b p way = 0) : ofE f a b 100 way = 0 ∧ ofV f a b 100 way = 0 := by
  obtain ⟨hc, h1, h2, h3, _, _, h6, _⟩ := of_good h
  obtain ⟨ha, hw1, hw2, _⟩ := Pen.ok_of _ _ _ _ h6
  have hz : Pen.raw (pr f a.toNat b.toNat) (100 - 100) 100 way = 0 := Pen.raw_even _ _ _ _ 0 (by decide) (by rw [Int.sub_self, Int.mul_zero, Int.zero_mul])
  obtain ⟨e1, e2⟩ := Pen.ok_mk (pr f a.toNat b.toNat) (100 - 100) 100 way ha hw1 hw2 (by decide) (by decide) (by decide) (by decide) (by rw [hz]; rfl)
  have g : good f a b 100 = true := by
    unfold good g1 g2 g3
    simp only [Bool.and_eq_true, decide_eq_true_eq]
    exact ⟨⟨⟨h1, by omega⟩, ⟨h2, h3⟩⟩, by decide, by decide⟩
  have cc : ¬ chk f ≠ 0 := fun h => h hc
  constructor
  · unfold ofE; rw [if_neg cc, if_pos g]; exact e1
  · unfold ofV; rw [if_neg cc, if_pos g, e2, hz]
theorem of_rises {f : List (List Int)} {a b p x y q way : Int} (h : ofE f a b p way = 0) (h' : ofE f x y q way = 0) (hf : fb (pr f) f.length = true) (hx : x ≤ a) (hy : b ≤ y) (hq : q ≤ p) : ofV f a b p way ≤ ofV f x y q way := by
  obtain ⟨hc, a1, a2, a3, a4, a5, _, a7⟩ := of_good h
  obtain ⟨_, b1, b2, b3, b4, b5, _, b7⟩ := of_good h'
  have ok := (chk_zero hc).2.2.2
  have hF := (fb_iff ok).1 hf
  have hp := (hF a.toNat b.toNat (by omega) (by omega)).1 x.toNat y.toNat (by omega) (by omega) (by omega)
  have hp0 := (ok a.toNat b.toNat (by omega) (by omega)).1
  rw [a7, b7]
  generalize pr f a.toNat b.toNat = P at *
  generalize pr f x.toNat y.toNat = Q at *
  have m1 : P * (100 - p) ≤ Q * (100 - p) := Int.mul_le_mul_of_nonneg_right hp (by omega)
  have m2 : Q * (100 - p) ≤ Q * (100 - q) := Int.mul_le_mul_of_nonneg_left (by omega) (by omega)
  have m0 : 0 ≤ P * (100 - p) := Int.mul_nonneg hp0 (by omega)
  unfold Pen.raw
  rw [if_neg (by omega), if_neg (by omega)]
  exact Pen.rnd_mono _ _ 100 way (by decide) m0 (by omega)
end Fr
end Go.Proofs.Ytcaibonnkfhkmaa
