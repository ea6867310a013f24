/- The reference's part of an amount is the part of the plain mathematics, whatever it is asked. -/
import Derived.Test.YtcaibonnkfhkmaaPRef2
namespace Go.Proofs.Ytcaibonnkfhkmaa
open Go.RowKit

theorem refPart_good (p num d way : Int) (w : World) (ha : Pen.amt p = true) (hw1 : 1 ≤ way) (hw2 : way ≤ 4) (h1 : 0 ≤ num) (h2 : num ≤ 100000) (h3 : 1 ≤ d) (h4 : d ≤ 100000) :
    Calls Try.prog 27 #[.int .i64 p, .int .i64 num, .int .i64 d, .int .i64 way] w fun e w' => e = tellP (Pen.raw p num d way) ∧ w' = w := by
  have hp := Pen.amt_yes p ha
  have hm := Pen.mul_bd p num hp.1 hp.2 h1 h2
  have hsg : p < 0 → p * num ≤ 0 := fun hs => by
    have en : -p * num = -(p * num) := Int.neg_mul p num
    have := Int.mul_nonneg (show 0 ≤ -p by omega) h1
    omega
  have eR : Pen.raw p num d way = if p < 0 then -(Pen.rnd (-(p * num)) d way) else Pen.rnd (p * num) d way := rfl
  generalize Pen.raw p num d way = RAW at *
  generalize hA : p * num = A at *
  obtain ⟨f1, f2, f3⟩ := Pen.div_facts A d (by omega)
  generalize hL : A / d = L at *
  have e1 : (L + 1) * d = L * d + d := by rw [Int.add_mul, Int.one_mul]
  have e2 : (-L) * d = -(L * d) := Int.neg_mul L d
  have e3 : (-L - 1) * d = -(L * d) - d := by rw [Int.sub_mul, Int.neg_mul, Int.one_mul]
  have bl : -109951162777700000 ≤ L ∧ L ≤ 109951162777700000 := by
    constructor
    · by_cases c : L < -109951162777700000
      · have : L * d ≤ L * 1 := Int.mul_le_mul_of_nonpos_left (by omega) h3
        omega
      · omega
    · by_cases c : 109951162777700000 < L
      · have : L * 1 ≤ L * d := Int.mul_le_mul_of_nonneg_left h3 (by omega)
        omega
      · omega
  generalize A % d = R at *
  generalize hLD : L * d = LD at *
  have hr1 : ¬ p < 0 → RAW = if Pen.upB L R d way = true then L + 1 else L := fun hs => by
    rw [eR, if_neg hs]; exact Pen.rnd_of _ _ _ _ _ (by omega) (by omega) f2 f3
  have hr2 : p < 0 → R = 0 → RAW = L := fun hs h0 => by
    have hu : Pen.upB (-L) 0 d way = false := by simp [Pen.upB]; omega
    rw [eR, if_pos hs, Pen.rnd_of (-A) d way (-L) 0 (by omega) (by omega) (by omega) (by omega), hu]; simp
  have hr3 : p < 0 → ¬ R = 0 → RAW = -(if Pen.upB (-L - 1) (d - R) d way = true then -L - 1 + 1 else -L - 1) := fun hs h0 => by
    rw [eR, if_pos hs, Pen.rnd_of (-A) d way (-L - 1) (d - R) (by omega) (by omega) (by omega) (by omega)]
  clear eR e2 e3 hsg
  have hway : way = 1 ∨ way = 2 ∨ way = 3 ∨ way = 4 := by omega
  clear hw1 hw2
  by_cases h0 : R = 0
  · have hAL : LD = A := by omega
    subst hAL
    have hX : RAW = L := by
      by_cases hs : p < 0
      · exact hr2 hs h0
      · have hu : Pen.upB L R d way = false := by rw [h0]; simp [Pen.upB]; omega
        rw [hr1 hs, hu]; rfl
    subst hX
    by_cases hs : p < 0
    · rcases hway with rfl | rfl | rfl | rfl
      · exact rp_n1x p num d _ _ w hp ha h1 h2 h3 h4 hm bl hA hL hLD hs
      · exact rp_n2x p num d _ _ w hp ha h1 h2 h3 h4 hm bl hA hL hLD hs
      · exact rp_n3x p num d _ _ w hp ha h1 h2 h3 h4 hm bl hA hL hLD hs
      · by_cases hq : RAW % 2 = 0
        · exact rp_n4xe p num d _ _ w hp ha h1 h2 h3 h4 hm bl hA hL hLD hs hq
        · exact rp_n4xo p num d _ _ w hp ha h1 h2 h3 h4 hm bl hA hL hLD hs hq
    · have hs' : 0 ≤ p := by omega
      rcases hway with rfl | rfl | rfl | rfl
      · exact rp_p1x p num d _ _ w hp ha h1 h2 h3 h4 hm bl hA hL hLD hs'
      · exact rp_p2x p num d _ _ w hp ha h1 h2 h3 h4 hm bl hA hL hLD hs'
      · exact rp_p3x p num d _ _ w hp ha h1 h2 h3 h4 hm bl hA hL hLD hs'
      · by_cases hq : RAW % 2 = 0
        · exact rp_p4xe p num d _ _ w hp ha h1 h2 h3 h4 hm bl hA hL hLD hs' hq
        · exact rp_p4xo p num d _ _ w hp ha h1 h2 h3 h4 hm bl hA hL hLD hs' hq
  · have f4 : LD < A := by omega
    have f5 : A < LD + d := by omega
    obtain rfl : R = A - LD := by omega
    by_cases hs : p < 0
    · replace hr3 := hr3 hs h0
      clear hr1 hr2
      have go1 : ∀ (c : Pen.upB (-L - 1) (d - (A - LD)) d way = true), RAW = L := fun c => by rw [hr3, if_pos c]; omega
      have go2 : ∀ (c : Pen.upB (-L - 1) (d - (A - LD)) d way = false), RAW = L + 1 := fun c => by rw [hr3, if_neg (by rw [c]; decide)]; omega
      rcases hway with rfl | rfl | rfl | rfl
      · rw [go2 (by simp [Pen.upB])]
        exact rp_n1a p num d _ _ _ w hp ha h1 h2 h3 h4 hm bl hA hL hLD e1 f4 f5 hs
      · rw [go1 (by simp [Pen.upB]; omega)]
        exact rp_n2a p num d _ _ _ w hp ha h1 h2 h3 h4 hm bl hA hL hLD e1 f4 f5 hs
      · by_cases hx : A - LD < LD + d - A
        · rw [go1 (by simp [Pen.upB]; omega)]
          exact rp_n3lt p num d _ _ _ w hp ha h1 h2 h3 h4 hm bl hA hL hLD e1 f4 f5 hs hx
        by_cases hy : LD + d - A < A - LD
        · rw [go2 (by simp [Pen.upB]; omega)]
          exact rp_n3gt p num d _ _ _ w hp ha h1 h2 h3 h4 hm bl hA hL hLD e1 f4 f5 hs hy
        · rw [go1 (by simp [Pen.upB]; omega)]
          exact rp_n3eq p num d _ _ _ w hp ha h1 h2 h3 h4 hm bl hA hL hLD e1 f4 f5 hs (by omega)
      · by_cases hx : A - LD < LD + d - A
        · rw [go1 (by simp [Pen.upB]; omega)]
          exact rp_n4lt p num d _ _ _ w hp ha h1 h2 h3 h4 hm bl hA hL hLD e1 f4 f5 hs hx
        by_cases hy : LD + d - A < A - LD
        · rw [go2 (by simp [Pen.upB]; omega)]
          exact rp_n4gt p num d _ _ _ w hp ha h1 h2 h3 h4 hm bl hA hL hLD e1 f4 f5 hs hy
        by_cases hq : L % 2 = 0
        · rw [go1 (by simp [Pen.upB]; omega)]
          exact rp_n4eqe p num d _ _ _ w hp ha h1 h2 h3 h4 hm bl hA hL hLD e1 f4 f5 hs (by omega) hq
        · rw [go2 (by simp [Pen.upB]; omega)]
          exact rp_n4eqo p num d _ _ _ w hp ha h1 h2 h3 h4 hm bl hA hL hLD e1 f4 f5 hs (by omega) hq
    · replace hr1 := hr1 hs
      clear hr2 hr3
      have hs' : 0 ≤ p := by omega
      have go1 : ∀ (c : Pen.upB L (A - LD) d way = true), RAW = L + 1 := fun c => by rw [hr1, if_pos c]
      have go2 : ∀ (c : Pen.upB L (A - LD) d way = false), RAW = L := fun c => by rw [hr1, if_neg (by rw [c]; decide)]
      rcases hway with rfl | rfl | rfl | rfl
      · rw [go2 (by simp [Pen.upB])]
        exact rp_p1a p num d _ _ _ w hp ha h1 h2 h3 h4 hm bl hA hL hLD e1 f4 f5 hs'
      · rw [go1 (by simp [Pen.upB]; omega)]
        exact rp_p2a p num d _ _ _ w hp ha h1 h2 h3 h4 hm bl hA hL hLD e1 f4 f5 hs'
      · by_cases hx : A - LD < LD + d - A
        · rw [go2 (by simp [Pen.upB]; omega)]
          exact rp_p3lt p num d _ _ _ w hp ha h1 h2 h3 h4 hm bl hA hL hLD e1 f4 f5 hs' hx
        by_cases hy : LD + d - A < A - LD
        · rw [go1 (by simp [Pen.upB]; omega)]
          exact rp_p3gt p num d _ _ _ w hp ha h1 h2 h3 h4 hm bl hA hL hLD e1 f4 f5 hs' hy
        · rw [go1 (by simp [Pen.upB]; omega)]
          exact rp_p3eq p num d _ _ _ w hp ha h1 h2 h3 h4 hm bl hA hL hLD e1 f4 f5 hs' (by omega)
      · by_cases hx : A - LD < LD + d - A
        · rw [go2 (by simp [Pen.upB]; omega)]
          exact rp_p4lt p num d _ _ _ w hp ha h1 h2 h3 h4 hm bl hA hL hLD e1 f4 f5 hs' hx
        by_cases hy : LD + d - A < A - LD
        · rw [go1 (by simp [Pen.upB]; omega)]
          exact rp_p4gt p num d _ _ _ w hp ha h1 h2 h3 h4 hm bl hA hL hLD e1 f4 f5 hs' hy
        by_cases hq : L % 2 = 0
        · rw [go2 (by simp [Pen.upB]; omega)]
          exact rp_p4eqe p num d _ _ _ w hp ha h1 h2 h3 h4 hm bl hA hL hLD e1 f4 f5 hs' (by omega) hq
        · rw [go1 (by simp [Pen.upB]; omega)]
          exact rp_p4eqo p num d _ _ _ w hp ha h1 h2 h3 h4 hm bl hA hL hLD e1 f4 f5 hs' (by omega) hq
namespace Pen
/-- what stands in the way, and what comes out where nothing does -/
theorem part_good (p num d way : Int) (ha : amt p = true) (hw1 : 1 ≤ way) (hw2 : way ≤ 4) (h1 : 0 ≤ num) (h2 : num ≤ 100000) (h3 : 1 ≤ d) (h4 : d ≤ 100000) :
    partE p num d way = (if amt (raw p num d way) = true then 0 else 8) ∧ part p num d way = (if amt (raw p num d way) = true then raw p num d way else 0) := by
  have eE : partE p num d way = if amt (raw p num d way) = true then 0 else 8 := by
    unfold partE
    rw [if_neg (by rw [ha]; decide), if_neg (by omega), if_neg (by omega)]
    cases amt (raw p num d way) <;> rfl
  refine ⟨eE, ?_⟩
  unfold part; rw [eE]
  cases amt (raw p num d way) <;> rfl
theorem part_bad (p num d way : Int) (h : ¬ (amt p = true ∧ 1 ≤ way ∧ way ≤ 4 ∧ 0 ≤ num ∧ num ≤ 100000 ∧ 1 ≤ d ∧ d ≤ 100000)) : part p num d way = 0 ∧ partE p num d way ≠ 0 := by
  have e : partE p num d way ≠ 0 := by
    unfold partE
    cases ha : amt p with
    | false => rw [if_pos rfl]; decide
    | true =>
      rw [ha] at h
      rw [if_neg (by decide)]
      split
      · decide
      · rw [if_pos (by simp only [true_and] at h; omega)]; decide
  exact ⟨by unfold part; rw [if_neg e], e⟩
end Pen
set_option maxHeartbeats 400000 in
theorem refPart_bad (p num d way : Int) (w : World) (h : ¬ (Pen.amt p = true ∧ 1 ≤ way ∧ way ≤ 4 ∧ 0 ≤ num ∧ num ≤ 100000 ∧ 1 ≤ d ∧ d ≤ 100000)) :
    Calls Try.prog 27 #[.int .i64 p, .int .i64 num, .int .i64 d, .int .i64 way] w fun e w' => e = .returned (.tuple #[.int .i64 0, .int .i64 (Pen.partE p num d way)]) ∧ w' = w := by
  cases ha : Pen.amt p with
  | false =>
    have e : Pen.partE p num d way = 3 := by unfold Pen.partE; rw [if_pos ha]
    rw [e]; clear e h
    go_enter Try.func27, Try.ntmps27
    go_wp2_with (go_at_call 33; refine (noAmt_is _ _ _ ha).mono ?_; rintro e w' ⟨rfl, rfl⟩)
    go_ret2
    exact ⟨rfl, rfl⟩
  | true =>
    have ha' : ¬ Pen.amt p = false := by rw [ha]; decide
    by_cases hw : way < 1 ∨ 4 < way
    · have e : Pen.partE p num d way = 7 := by unfold Pen.partE; rw [if_neg ha', if_pos hw]
      rw [e]; clear e h ha'
      rcases hw with hw | hw
      · go_enter Try.func27, Try.ntmps27
        go_wp2_with (go_at_call 33; refine (noAmt_is _ _ _ ha).mono ?_; rintro e w' ⟨rfl, rfl⟩)
        go_ret2
        exact ⟨rfl, rfl⟩
      · have hw' : decide (way < 1) = false := by simp; omega
        go_enter Try.func27, Try.ntmps27
        go_wp2_with (go_at_call 33; refine (noAmt_is _ _ _ ha).mono ?_; rintro e w' ⟨rfl, rfl⟩)
        go_ret2
        exact ⟨rfl, rfl⟩
    · have hn : num < 0 ∨ 100000 < num ∨ d < 1 ∨ 100000 < d := by
        rw [ha] at h
        simp only [true_and] at h
        omega
      have e : Pen.partE p num d way = 3 := by unfold Pen.partE; rw [if_neg ha', if_neg hw, if_pos hn]
      rw [e]; clear e h ha'
      have hw1 : 1 ≤ way := by omega
      have hw2 : way ≤ 4 := by omega
      clear hw
      by_cases g1 : num < 0
      · clear hn
        go_enter Try.func27, Try.ntmps27
        go_wp2_with (go_at_call 33; refine (noAmt_is _ _ _ ha).mono ?_; rintro e w' ⟨rfl, rfl⟩)
        go_ret2
        exact ⟨rfl, rfl⟩
      by_cases g2 : 100000 < num
      · clear hn
        go_enter Try.func27, Try.ntmps27
        go_wp2_with (go_at_call 33; refine (noAmt_is _ _ _ ha).mono ?_; rintro e w' ⟨rfl, rfl⟩)
        go_ret2
        exact ⟨rfl, rfl⟩
      by_cases g3 : d < 1
      · clear hn
        go_enter Try.func27, Try.ntmps27
        go_wp2_with (go_at_call 33; refine (noAmt_is _ _ _ ha).mono ?_; rintro e w' ⟨rfl, rfl⟩)
        go_ret2
        exact ⟨rfl, rfl⟩
      · have g4 : 100000 < d := by omega
        clear hn
        go_enter Try.func27, Try.ntmps27
        go_wp2_with (go_at_call 33; refine (noAmt_is _ _ _ ha).mono ?_; rintro e w' ⟨rfl, rfl⟩)
        go_ret2
        exact ⟨rfl, rfl⟩
theorem refPart_any (p num d way : Int) (w : World) :
    Calls Try.prog 27 #[.int .i64 p, .int .i64 num, .int .i64 d, .int .i64 way] w fun e w' => e = .returned (.tuple #[.int .i64 (Pen.part p num d way), .int .i64 (Pen.partE p num d way)]) ∧ w' = w := by
  by_cases h : Pen.amt p = true ∧ 1 ≤ way ∧ way ≤ 4 ∧ 0 ≤ num ∧ num ≤ 100000 ∧ 1 ≤ d ∧ d ≤ 100000
  · obtain ⟨ha, hw1, hw2, h1, h2, h3, h4⟩ := h
    obtain ⟨eE, eP⟩ := Pen.part_good p num d way ha hw1 hw2 h1 h2 h3 h4
    rw [eE, eP]
    exact refPart_good p num d way w ha hw1 hw2 h1 h2 h3 h4
  · rw [(Pen.part_bad p num d way h).1]
    exact refPart_bad p num d way w h
end Go.Proofs.Ytcaibonnkfhkmaa
