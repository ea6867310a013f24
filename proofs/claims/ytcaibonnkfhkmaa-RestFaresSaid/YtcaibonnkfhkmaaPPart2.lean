/- The walk of pence.Part: the part of the plain mathematics, or why there is none. -/
import Derived.Test.YtcaibonnkfhkmaaPPart
namespace Go.Proofs.Ytcaibonnkfhkmaa
open Go.RowKit

set_option maxHeartbeats 400000 in
theorem pPart_bad (p num d way : Int) (w : World) (h : ¬ (Pen.amt p = true ∧ 1 ≤ way ∧ way ≤ 4 ∧ 0 ≤ num ∧ num ≤ 100000 ∧ 1 ≤ d ∧ d ≤ 100000)) :
    Calls Try.prog 26 #[.int .i64 p, .int .i64 num, .int .i64 d, .int .i64 way] w fun e w' => e = .returned (.tuple #[.int .i64 0, .int .i64 (Pen.partE p num d way)]) ∧ Below w.heap.size w w' := by
  cases ha : Pen.amt p with
  | false =>
    have e : Pen.partE p num d way = 3 := by unfold Pen.partE; rw [if_pos ha]
    rw [e]; clear e h
    go_enter Try.func26, Try.ntmps26
    go_wp2_with (go_at_call 30; refine (amt_is _ _ _ ha).mono ?_; rintro e w' ⟨rfl, rfl⟩)
    go_ret2
    exact ⟨rfl, Below.refl _ _⟩
  | true =>
    have ha' : ¬ Pen.amt p = false := by rw [ha]; decide
    by_cases hw : way < 1 ∨ 4 < way
    · have e : Pen.partE p num d way = 7 := by unfold Pen.partE; rw [if_neg ha', if_pos hw]
      rw [e]; clear e h ha'
      have HW : Hid (way < 1 ∨ 4 < way) := hw
      clear hw
      go_enter Try.func26, Try.ntmps26
      go_wp2_with (first
        | (go_at_call 30; refine (amt_is _ _ _ ha).mono ?_; rintro e w' ⟨rfl, rfl⟩)
        | (go_at_call 31; refine (pwithin_no _ _ _ _ HW.out).mono ?_; rintro e w' ⟨rfl, rfl⟩))
      go_ret2
      exact ⟨rfl, Below.refl _ _⟩
    · have hn : num < 0 ∨ 100000 < num ∨ d < 1 ∨ 100000 < d := by
        rw [ha] at h
        simp only [true_and] at h
        omega
      have e : Pen.partE p num d way = 3 := by unfold Pen.partE; rw [if_neg ha', if_neg hw, if_pos hn]
      rw [e]; clear e h ha'
      have hw1 : 1 ≤ way := by omega
      have hw2 : way ≤ 4 := by omega
      clear hw
      by_cases hq : num < 0 ∨ 100000 < num
      · have HN : Hid (num < 0 ∨ 100000 < num) := hq
        clear hn hq
        go_enter Try.func26, Try.ntmps26
        go_wp2_with (first
          | (go_at_call 30; refine (amt_is _ _ _ ha).mono ?_; rintro e w' ⟨rfl, rfl⟩)
          | (go_at_call 31; refine (pwithin_yes _ _ _ _ (by omega) (by omega)).mono ?_; rintro e w' ⟨rfl, rfl⟩)
          | (go_at_call 31; refine (pwithin_no _ _ _ _ (by have := HN.out; omega)).mono ?_; rintro e w' ⟨rfl, rfl⟩))
        go_ret2
        exact ⟨rfl, Below.refl _ _⟩
      · have hd : d < 1 ∨ 100000 < d := by omega
        have hq1 : 0 ≤ num := by omega
        have hq2 : num ≤ 100000 := by omega
        have HN : Hid (d < 1 ∨ 100000 < d) := hd
        clear hn hq hd
        go_enter Try.func26, Try.ntmps26
        go_wp2_with (first
          | (go_at_call 30; refine (amt_is _ _ _ ha).mono ?_; rintro e w' ⟨rfl, rfl⟩)
          | (go_at_call 31; refine (pwithin_yes _ _ _ _ (by omega) (by omega)).mono ?_; rintro e w' ⟨rfl, rfl⟩)
          | (go_at_call 31; refine (pwithin_no _ _ _ _ (by have := HN.out; omega)).mono ?_; rintro e w' ⟨rfl, rfl⟩))
        go_ret2
        exact ⟨rfl, Below.refl _ _⟩
set_option maxHeartbeats 400000 in
theorem pPart_good (p num d way : Int) (w : World) (ha : Pen.amt p = true) (hw1 : 1 ≤ way) (hw2 : way ≤ 4) (h1 : 0 ≤ num) (h2 : num ≤ 100000) (h3 : 1 ≤ d) (h4 : d ≤ 100000) :
    Calls Try.prog 26 #[.int .i64 p, .int .i64 num, .int .i64 d, .int .i64 way] w fun e w' =>
      e = .returned (.tuple #[.int .i64 (if Pen.amt (Pen.raw p num d way) = true then Pen.raw p num d way else 0), .int .i64 (if Pen.amt (Pen.raw p num d way) = true then 0 else 8)]) ∧ Below w.heap.size w w' := by
  have hp := Pen.amt_yes p ha
  have hm := Pen.mul_bd p num hp.1 hp.2 h1 h2
  by_cases hs : p < 0
  · have e : Pen.raw p num d way = -(Pen.rnd (-(p * num)) d way) := by unfold Pen.raw; rw [if_pos hs]
    have en : -p * num = -(p * num) := Int.neg_mul p num
    have h0 : 0 ≤ -(p * num) := by rw [← en]; exact Int.mul_nonneg (by omega) h1
    rw [e, Pen.amt_neg]; clear e
    have hmx : max p (-p) = -p := by omega
    obtain ⟨q, r, -, -, -, hq0, hq1, hq⟩ := Pen.rnd_ex (-(p * num)) d way (by omega) h0
    have hz : 0 ≤ Pen.rnd (-(p * num)) d way ∧ Pen.rnd (-(p * num)) d way ≤ 109951162777600001 := by rw [hq]; split <;> omega
    clear hq hq0 hq1
    generalize hR : Pen.rnd (-(p * num)) d way = R at *
    have HR : Hid (Pen.rnd (-(p * num)) d way = R) := hR
    clear hR
    cases hr : Pen.amt R with
    | true =>
      rw [if_pos rfl, if_pos rfl]
      go_enter Try.func26, Try.ntmps26
      go_wp2_with (first
        | (go_at_call 30; refine (amt_any _ _).mono ?_; rintro e w' ⟨rfl, rfl⟩; first | rw [ha] | rw [hr])
        | (go_at_call 32; refine (rounded_any _ _ _ _ (by omega) (by omega) (by omega) (by omega)).mono ?_; rintro e w1 ⟨rfl, hb⟩; rw [HR.out])
        | (go_at_call 31; refine (pwithin_yes _ _ _ _ (by omega) (by omega)).mono ?_; rintro e w' ⟨rfl, rfl⟩))
      go_ret2
      exact ⟨rfl, hb⟩
    | false =>
      rw [if_neg (by decide), if_neg (by decide)]
      go_enter Try.func26, Try.ntmps26
      go_wp2_with (first
        | (go_at_call 30; refine (amt_any _ _).mono ?_; rintro e w' ⟨rfl, rfl⟩; first | rw [ha] | rw [hr])
        | (go_at_call 32; refine (rounded_any _ _ _ _ (by omega) (by omega) (by omega) (by omega)).mono ?_; rintro e w1 ⟨rfl, hb⟩; rw [HR.out])
        | (go_at_call 31; refine (pwithin_yes _ _ _ _ (by omega) (by omega)).mono ?_; rintro e w' ⟨rfl, rfl⟩))
      go_ret2
      exact ⟨rfl, hb⟩
  · have e : Pen.raw p num d way = Pen.rnd (p * num) d way := by unfold Pen.raw; rw [if_neg hs]
    have h0 : 0 ≤ p * num := Int.mul_nonneg (by omega) h1
    rw [e]; clear e
    have hmx : max p (-p) = p := by omega
    obtain ⟨q, r, -, -, -, hq0, hq1, hq⟩ := Pen.rnd_ex (p * num) d way (by omega) h0
    have hz : 0 ≤ Pen.rnd (p * num) d way ∧ Pen.rnd (p * num) d way ≤ 109951162777600001 := by rw [hq]; split <;> omega
    clear hq hq0 hq1
    generalize hR : Pen.rnd (p * num) d way = R at *
    have HR : Hid (Pen.rnd (p * num) d way = R) := hR
    clear hR
    cases hr : Pen.amt R with
    | true =>
      rw [if_pos rfl, if_pos rfl]
      go_enter Try.func26, Try.ntmps26
      go_wp2_with (first
        | (go_at_call 30; refine (amt_any _ _).mono ?_; rintro e w' ⟨rfl, rfl⟩; first | rw [ha] | rw [hr])
        | (go_at_call 32; refine (rounded_any _ _ _ _ (by omega) (by omega) (by omega) (by omega)).mono ?_; rintro e w1 ⟨rfl, hb⟩; rw [HR.out])
        | (go_at_call 31; refine (pwithin_yes _ _ _ _ (by omega) (by omega)).mono ?_; rintro e w' ⟨rfl, rfl⟩))
      go_ret2
      exact ⟨rfl, hb⟩
    | false =>
      rw [if_neg (by decide), if_neg (by decide)]
      go_enter Try.func26, Try.ntmps26
      go_wp2_with (first
        | (go_at_call 30; refine (amt_any _ _).mono ?_; rintro e w' ⟨rfl, rfl⟩; first | rw [ha] | rw [hr])
        | (go_at_call 32; refine (rounded_any _ _ _ _ (by omega) (by omega) (by omega) (by omega)).mono ?_; rintro e w1 ⟨rfl, hb⟩; rw [HR.out])
        | (go_at_call 31; refine (pwithin_yes _ _ _ _ (by omega) (by omega)).mono ?_; rintro e w' ⟨rfl, rfl⟩))
      go_ret2
      exact ⟨rfl, hb⟩
theorem pPart_any (p num d way : Int) (w : World) :
    Calls Try.prog 26 #[.int .i64 p, .int .i64 num, .int .i64 d, .int .i64 way] w fun e w' => e = .returned (.tuple #[.int .i64 (Pen.part p num d way), .int .i64 (Pen.partE p num d way)]) ∧ Below w.heap.size w w' := by
  by_cases h : Pen.amt p = true ∧ 1 ≤ way ∧ way ≤ 4 ∧ 0 ≤ num ∧ num ≤ 100000 ∧ 1 ≤ d ∧ d ≤ 100000
  · obtain ⟨ha, hw1, hw2, h1, h2, h3, h4⟩ := h
    have eE : Pen.partE p num d way = if Pen.amt (Pen.raw p num d way) = true then 0 else 8 := by
      unfold Pen.partE
      rw [if_neg (by rw [ha]; decide), if_neg (by omega), if_neg (by omega)]
      cases Pen.amt (Pen.raw p num d way) <;> rfl
    have eP : Pen.part p num d way = if Pen.amt (Pen.raw p num d way) = true then Pen.raw p num d way else 0 := by
      unfold Pen.part; rw [eE]
      cases Pen.amt (Pen.raw p num d way) <;> rfl
    rw [eE, eP]
    exact pPart_good p num d way w ha hw1 hw2 h1 h2 h3 h4
  · have e : Pen.part p num d way = 0 := by
      unfold Pen.part
      rw [if_neg]
      unfold Pen.partE
      cases ha : Pen.amt p with
      | false => rw [if_pos rfl]; decide
      | true =>
        rw [ha] at h
        rw [if_neg (by decide)]
        split
        · decide
        · rw [if_pos (by simp only [true_and] at h; omega)]; decide
    rw [e]
    exact pPart_bad p num d way w h
end Go.Proofs.Ytcaibonnkfhkmaa
