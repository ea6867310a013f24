/- The reference's part of an amount is the part of the plain mathematics: a walk for each case. -/
import Derived.Test.YtcaibonnkfhkmaaPRef
namespace Go.Proofs.Ytcaibonnkfhkmaa
open Go.RowKit

theorem tmod2 (L : Int) : (L.tmod 2 != 0) = !decide (L % 2 = 0) := by
  rw [bne, Bool.eq_iff_iff]; simp [← Int.dvd_iff_tmod_eq_zero, ← Int.dvd_iff_emod_eq_zero]
abbrev tellP (X : Int) : Ending := .returned (.tuple #[.int .i64 (if Pen.amt X = true then X else 0), .int .i64 (if Pen.amt X = true then 0 else 8)])
theorem rp_n1x (p num d A L : Int) (w : World) (_hp : -1099511627776 ≤ p ∧ p ≤ 1099511627776) (ha : Pen.amt p = true) (h1 : 0 ≤ num) (h2 : num ≤ 100000) (h3 : 1 ≤ d) (h4 : d ≤ 100000) (hm : -109951162777600000 ≤ A ∧ A ≤ 109951162777600000) (_bl : -109951162777700000 ≤ L ∧ L ≤ 109951162777700000) (hA : p * num = A) (HL : A / d = L) (hLD : L * d = A) (hs : p < 0) :
    Calls Try.prog 27 #[.int .i64 p, .int .i64 num, .int .i64 d, .int .i64 1] w fun e w' => e = tellP (L) ∧ w' = w := by
  unfold tellP
  have HH : Hid (A / d = L) := HL
  clear HL
  cases hz : Pen.amt (L)
  all_goals
    simp only [if_true, Bool.false_eq_true, if_false]
    go_enter Try.func27, Try.ntmps27
    go_wp2_with (first
      | (go_at_call 33; refine (noAmt_any _ _).mono ?_; rintro e w' ⟨rfl, rfl⟩; first | rw [ha] | rw [hz])
      | (go_at_call 34; refine (floorP_any _ _ _ (by omega) (by omega) (by omega) (by omega)).mono ?_; rintro e w' ⟨rfl, rfl⟩; rw [HH.out]))
    go_ret2
    exact ⟨rfl, rfl⟩
theorem rp_n1a (p num d A L LD : Int) (w : World) (_hp : -1099511627776 ≤ p ∧ p ≤ 1099511627776) (ha : Pen.amt p = true) (h1 : 0 ≤ num) (h2 : num ≤ 100000) (h3 : 1 ≤ d) (h4 : d ≤ 100000) (hm : -109951162777600000 ≤ A ∧ A ≤ 109951162777600000) (_bl : -109951162777700000 ≤ L ∧ L ≤ 109951162777700000) (hA : p * num = A) (HL : A / d = L) (hLD : L * d = LD) (HE : (L + 1) * d = LD + d) (f4 : LD < A) (f5 : A < LD + d) (hs : p < 0) :
    Calls Try.prog 27 #[.int .i64 p, .int .i64 num, .int .i64 d, .int .i64 1] w fun e w' => e = tellP (L + 1) ∧ w' = w := by
  unfold tellP
  have HH : Hid (A / d = L) := HL
  clear HL
  have hne : (LD != A) = true := by simp; omega
  cases hz : Pen.amt (L + 1)
  all_goals
    simp only [if_true, Bool.false_eq_true, if_false]
    go_enter Try.func27, Try.ntmps27
    go_wp2_with (first
      | (go_at_call 33; refine (noAmt_any _ _).mono ?_; rintro e w' ⟨rfl, rfl⟩; first | rw [ha] | rw [hz])
      | (go_at_call 34; refine (floorP_any _ _ _ (by omega) (by omega) (by omega) (by omega)).mono ?_; rintro e w' ⟨rfl, rfl⟩; rw [HH.out]))
    go_ret2
    exact ⟨rfl, rfl⟩
theorem rp_n2x (p num d A L : Int) (w : World) (_hp : -1099511627776 ≤ p ∧ p ≤ 1099511627776) (ha : Pen.amt p = true) (h1 : 0 ≤ num) (h2 : num ≤ 100000) (h3 : 1 ≤ d) (h4 : d ≤ 100000) (hm : -109951162777600000 ≤ A ∧ A ≤ 109951162777600000) (_bl : -109951162777700000 ≤ L ∧ L ≤ 109951162777700000) (hA : p * num = A) (HL : A / d = L) (hLD : L * d = A) (hs : p < 0) :
    Calls Try.prog 27 #[.int .i64 p, .int .i64 num, .int .i64 d, .int .i64 2] w fun e w' => e = tellP (L) ∧ w' = w := by
  unfold tellP
  have HH : Hid (A / d = L) := HL
  clear HL
  cases hz : Pen.amt (L)
  all_goals
    simp only [if_true, Bool.false_eq_true, if_false]
    go_enter Try.func27, Try.ntmps27
    go_wp2_with (first
      | (go_at_call 33; refine (noAmt_any _ _).mono ?_; rintro e w' ⟨rfl, rfl⟩; first | rw [ha] | rw [hz])
      | (go_at_call 34; refine (floorP_any _ _ _ (by omega) (by omega) (by omega) (by omega)).mono ?_; rintro e w' ⟨rfl, rfl⟩; rw [HH.out]))
    go_ret2
    exact ⟨rfl, rfl⟩
theorem rp_n2a (p num d A L LD : Int) (w : World) (_hp : -1099511627776 ≤ p ∧ p ≤ 1099511627776) (ha : Pen.amt p = true) (h1 : 0 ≤ num) (h2 : num ≤ 100000) (h3 : 1 ≤ d) (h4 : d ≤ 100000) (hm : -109951162777600000 ≤ A ∧ A ≤ 109951162777600000) (_bl : -109951162777700000 ≤ L ∧ L ≤ 109951162777700000) (hA : p * num = A) (HL : A / d = L) (hLD : L * d = LD) (HE : (L + 1) * d = LD + d) (f4 : LD < A) (f5 : A < LD + d) (hs : p < 0) :
    Calls Try.prog 27 #[.int .i64 p, .int .i64 num, .int .i64 d, .int .i64 2] w fun e w' => e = tellP (L) ∧ w' = w := by
  unfold tellP
  have HH : Hid (A / d = L) := HL
  clear HL
  have hne : (LD != A) = true := by simp; omega
  cases hz : Pen.amt (L)
  all_goals
    simp only [if_true, Bool.false_eq_true, if_false]
    go_enter Try.func27, Try.ntmps27
    go_wp2_with (first
      | (go_at_call 33; refine (noAmt_any _ _).mono ?_; rintro e w' ⟨rfl, rfl⟩; first | rw [ha] | rw [hz])
      | (go_at_call 34; refine (floorP_any _ _ _ (by omega) (by omega) (by omega) (by omega)).mono ?_; rintro e w' ⟨rfl, rfl⟩; rw [HH.out]))
    go_ret2
    exact ⟨rfl, rfl⟩
theorem rp_n3x (p num d A L : Int) (w : World) (_hp : -1099511627776 ≤ p ∧ p ≤ 1099511627776) (ha : Pen.amt p = true) (h1 : 0 ≤ num) (h2 : num ≤ 100000) (h3 : 1 ≤ d) (h4 : d ≤ 100000) (hm : -109951162777600000 ≤ A ∧ A ≤ 109951162777600000) (_bl : -109951162777700000 ≤ L ∧ L ≤ 109951162777700000) (hA : p * num = A) (HL : A / d = L) (hLD : L * d = A) (hs : p < 0) :
    Calls Try.prog 27 #[.int .i64 p, .int .i64 num, .int .i64 d, .int .i64 3] w fun e w' => e = tellP (L) ∧ w' = w := by
  unfold tellP
  have HH : Hid (A / d = L) := HL
  clear HL
  cases hz : Pen.amt (L)
  all_goals
    simp only [if_true, Bool.false_eq_true, if_false]
    go_enter Try.func27, Try.ntmps27
    go_wp2_with (first
      | (go_at_call 33; refine (noAmt_any _ _).mono ?_; rintro e w' ⟨rfl, rfl⟩; first | rw [ha] | rw [hz])
      | (go_at_call 34; refine (floorP_any _ _ _ (by omega) (by omega) (by omega) (by omega)).mono ?_; rintro e w' ⟨rfl, rfl⟩; rw [HH.out]))
    go_ret2
    exact ⟨rfl, rfl⟩
theorem rp_n3lt (p num d A L LD : Int) (w : World) (_hp : -1099511627776 ≤ p ∧ p ≤ 1099511627776) (ha : Pen.amt p = true) (h1 : 0 ≤ num) (h2 : num ≤ 100000) (h3 : 1 ≤ d) (h4 : d ≤ 100000) (hm : -109951162777600000 ≤ A ∧ A ≤ 109951162777600000) (_bl : -109951162777700000 ≤ L ∧ L ≤ 109951162777700000) (hA : p * num = A) (HL : A / d = L) (hLD : L * d = LD) (HE : (L + 1) * d = LD + d) (f4 : LD < A) (f5 : A < LD + d) (hs : p < 0) (hx : A - LD < LD + d - A) :
    Calls Try.prog 27 #[.int .i64 p, .int .i64 num, .int .i64 d, .int .i64 3] w fun e w' => e = tellP (L) ∧ w' = w := by
  unfold tellP
  have HH : Hid (A / d = L) := HL
  clear HL
  have hne : (LD != A) = true := by simp; omega
  have q1 : (A - LD == LD + d - A) = false := by simp; omega
  cases hz : Pen.amt (L)
  all_goals
    simp only [if_true, Bool.false_eq_true, if_false]
    go_enter Try.func27, Try.ntmps27
    go_wp2_with (first
      | (go_at_call 33; refine (noAmt_any _ _).mono ?_; rintro e w' ⟨rfl, rfl⟩; first | rw [ha] | rw [hz])
      | (go_at_call 34; refine (floorP_any _ _ _ (by omega) (by omega) (by omega) (by omega)).mono ?_; rintro e w' ⟨rfl, rfl⟩; rw [HH.out]))
    go_ret2
    exact ⟨rfl, rfl⟩
theorem rp_n3gt (p num d A L LD : Int) (w : World) (_hp : -1099511627776 ≤ p ∧ p ≤ 1099511627776) (ha : Pen.amt p = true) (h1 : 0 ≤ num) (h2 : num ≤ 100000) (h3 : 1 ≤ d) (h4 : d ≤ 100000) (hm : -109951162777600000 ≤ A ∧ A ≤ 109951162777600000) (_bl : -109951162777700000 ≤ L ∧ L ≤ 109951162777700000) (hA : p * num = A) (HL : A / d = L) (hLD : L * d = LD) (HE : (L + 1) * d = LD + d) (f4 : LD < A) (f5 : A < LD + d) (hs : p < 0) (hx : LD + d - A < A - LD) :
    Calls Try.prog 27 #[.int .i64 p, .int .i64 num, .int .i64 d, .int .i64 3] w fun e w' => e = tellP (L + 1) ∧ w' = w := by
  unfold tellP
  have HH : Hid (A / d = L) := HL
  clear HL
  have hne : (LD != A) = true := by simp; omega
  have q1 : (A - LD == LD + d - A) = false := by simp; omega
  cases hz : Pen.amt (L + 1)
  all_goals
    simp only [if_true, Bool.false_eq_true, if_false]
    go_enter Try.func27, Try.ntmps27
    go_wp2_with (first
      | (go_at_call 33; refine (noAmt_any _ _).mono ?_; rintro e w' ⟨rfl, rfl⟩; first | rw [ha] | rw [hz])
      | (go_at_call 34; refine (floorP_any _ _ _ (by omega) (by omega) (by omega) (by omega)).mono ?_; rintro e w' ⟨rfl, rfl⟩; rw [HH.out]))
    go_ret2
    exact ⟨rfl, rfl⟩
theorem rp_n3eq (p num d A L LD : Int) (w : World) (_hp : -1099511627776 ≤ p ∧ p ≤ 1099511627776) (ha : Pen.amt p = true) (h1 : 0 ≤ num) (h2 : num ≤ 100000) (h3 : 1 ≤ d) (h4 : d ≤ 100000) (hm : -109951162777600000 ≤ A ∧ A ≤ 109951162777600000) (_bl : -109951162777700000 ≤ L ∧ L ≤ 109951162777700000) (hA : p * num = A) (HL : A / d = L) (hLD : L * d = LD) (HE : (L + 1) * d = LD + d) (f4 : LD < A) (f5 : A < LD + d) (hs : p < 0) (hx : A - LD = LD + d - A) :
    Calls Try.prog 27 #[.int .i64 p, .int .i64 num, .int .i64 d, .int .i64 3] w fun e w' => e = tellP (L) ∧ w' = w := by
  unfold tellP
  have HH : Hid (A / d = L) := HL
  clear HL
  have hne : (LD != A) = true := by simp; omega
  have q1 : (A - LD == LD + d - A) = true := by simpa using hx
  have q2 : decide (A - LD < LD + d - A) = false := by simp; omega
  have q3 : decide (LD + d - A < A - LD) = false := by simp; omega
  clear hx
  cases hz : Pen.amt (L)
  all_goals
    simp only [if_true, Bool.false_eq_true, if_false]
    go_enter Try.func27, Try.ntmps27
    go_wp2_with (first
      | (go_at_call 33; refine (noAmt_any _ _).mono ?_; rintro e w' ⟨rfl, rfl⟩; first | rw [ha] | rw [hz])
      | (go_at_call 34; refine (floorP_any _ _ _ (by omega) (by omega) (by omega) (by omega)).mono ?_; rintro e w' ⟨rfl, rfl⟩; rw [HH.out]))
    go_ret2
    exact ⟨rfl, rfl⟩
theorem rp_n4xe (p num d A L : Int) (w : World) (_hp : -1099511627776 ≤ p ∧ p ≤ 1099511627776) (ha : Pen.amt p = true) (h1 : 0 ≤ num) (h2 : num ≤ 100000) (h3 : 1 ≤ d) (h4 : d ≤ 100000) (hm : -109951162777600000 ≤ A ∧ A ≤ 109951162777600000) (_bl : -109951162777700000 ≤ L ∧ L ≤ 109951162777700000) (hA : p * num = A) (HL : A / d = L) (hLD : L * d = A) (hs : p < 0) (hq : L % 2 = 0) :
    Calls Try.prog 27 #[.int .i64 p, .int .i64 num, .int .i64 d, .int .i64 4] w fun e w' => e = tellP (L) ∧ w' = w := by
  unfold tellP
  have HH : Hid (A / d = L) := HL
  clear HL
  have hq1 : (L.tmod 2 != 0) = false := by rw [tmod2]; simp [hq]
  clear hq
  cases hz : Pen.amt (L)
  all_goals
    simp only [if_true, Bool.false_eq_true, if_false]
    go_enter Try.func27, Try.ntmps27
    go_wp2_with (first
      | (go_at_call 33; refine (noAmt_any _ _).mono ?_; rintro e w' ⟨rfl, rfl⟩; first | rw [ha] | rw [hz])
      | (go_at_call 34; refine (floorP_any _ _ _ (by omega) (by omega) (by omega) (by omega)).mono ?_; rintro e w' ⟨rfl, rfl⟩; rw [HH.out]))
    go_ret2
    exact ⟨rfl, rfl⟩
theorem rp_n4xo (p num d A L : Int) (w : World) (_hp : -1099511627776 ≤ p ∧ p ≤ 1099511627776) (ha : Pen.amt p = true) (h1 : 0 ≤ num) (h2 : num ≤ 100000) (h3 : 1 ≤ d) (h4 : d ≤ 100000) (hm : -109951162777600000 ≤ A ∧ A ≤ 109951162777600000) (_bl : -109951162777700000 ≤ L ∧ L ≤ 109951162777700000) (hA : p * num = A) (HL : A / d = L) (hLD : L * d = A) (hs : p < 0) (hq : ¬ L % 2 = 0) :
    Calls Try.prog 27 #[.int .i64 p, .int .i64 num, .int .i64 d, .int .i64 4] w fun e w' => e = tellP (L) ∧ w' = w := by
  unfold tellP
  have HH : Hid (A / d = L) := HL
  clear HL
  have hq1 : (L.tmod 2 != 0) = true := by rw [tmod2]; simp [hq]
  clear hq
  cases hz : Pen.amt (L)
  all_goals
    simp only [if_true, Bool.false_eq_true, if_false]
    go_enter Try.func27, Try.ntmps27
    go_wp2_with (first
      | (go_at_call 33; refine (noAmt_any _ _).mono ?_; rintro e w' ⟨rfl, rfl⟩; first | rw [ha] | rw [hz])
      | (go_at_call 34; refine (floorP_any _ _ _ (by omega) (by omega) (by omega) (by omega)).mono ?_; rintro e w' ⟨rfl, rfl⟩; rw [HH.out]))
    go_ret2
    exact ⟨rfl, rfl⟩
theorem rp_n4lt (p num d A L LD : Int) (w : World) (_hp : -1099511627776 ≤ p ∧ p ≤ 1099511627776) (ha : Pen.amt p = true) (h1 : 0 ≤ num) (h2 : num ≤ 100000) (h3 : 1 ≤ d) (h4 : d ≤ 100000) (hm : -109951162777600000 ≤ A ∧ A ≤ 109951162777600000) (_bl : -109951162777700000 ≤ L ∧ L ≤ 109951162777700000) (hA : p * num = A) (HL : A / d = L) (hLD : L * d = LD) (HE : (L + 1) * d = LD + d) (f4 : LD < A) (f5 : A < LD + d) (hs : p < 0) (hx : A - LD < LD + d - A) :
    Calls Try.prog 27 #[.int .i64 p, .int .i64 num, .int .i64 d, .int .i64 4] w fun e w' => e = tellP (L) ∧ w' = w := by
  unfold tellP
  have HH : Hid (A / d = L) := HL
  clear HL
  have hne : (LD != A) = true := by simp; omega
  have q1 : (A - LD == LD + d - A) = false := by simp; omega
  cases hz : Pen.amt (L)
  all_goals
    simp only [if_true, Bool.false_eq_true, if_false]
    go_enter Try.func27, Try.ntmps27
    go_wp2_with (first
      | (go_at_call 33; refine (noAmt_any _ _).mono ?_; rintro e w' ⟨rfl, rfl⟩; first | rw [ha] | rw [hz])
      | (go_at_call 34; refine (floorP_any _ _ _ (by omega) (by omega) (by omega) (by omega)).mono ?_; rintro e w' ⟨rfl, rfl⟩; rw [HH.out]))
    go_ret2
    exact ⟨rfl, rfl⟩
theorem rp_n4gt (p num d A L LD : Int) (w : World) (_hp : -1099511627776 ≤ p ∧ p ≤ 1099511627776) (ha : Pen.amt p = true) (h1 : 0 ≤ num) (h2 : num ≤ 100000) (h3 : 1 ≤ d) (h4 : d ≤ 100000) (hm : -109951162777600000 ≤ A ∧ A ≤ 109951162777600000) (_bl : -109951162777700000 ≤ L ∧ L ≤ 109951162777700000) (hA : p * num = A) (HL : A / d = L) (hLD : L * d = LD) (HE : (L + 1) * d = LD + d) (f4 : LD < A) (f5 : A < LD + d) (hs : p < 0) (hx : LD + d - A < A - LD) :
    Calls Try.prog 27 #[.int .i64 p, .int .i64 num, .int .i64 d, .int .i64 4] w fun e w' => e = tellP (L + 1) ∧ w' = w := by
  unfold tellP
  have HH : Hid (A / d = L) := HL
  clear HL
  have hne : (LD != A) = true := by simp; omega
  have q1 : (A - LD == LD + d - A) = false := by simp; omega
  cases hz : Pen.amt (L + 1)
  all_goals
    simp only [if_true, Bool.false_eq_true, if_false]
    go_enter Try.func27, Try.ntmps27
    go_wp2_with (first
      | (go_at_call 33; refine (noAmt_any _ _).mono ?_; rintro e w' ⟨rfl, rfl⟩; first | rw [ha] | rw [hz])
      | (go_at_call 34; refine (floorP_any _ _ _ (by omega) (by omega) (by omega) (by omega)).mono ?_; rintro e w' ⟨rfl, rfl⟩; rw [HH.out]))
    go_ret2
    exact ⟨rfl, rfl⟩
theorem rp_n4eqe (p num d A L LD : Int) (w : World) (_hp : -1099511627776 ≤ p ∧ p ≤ 1099511627776) (ha : Pen.amt p = true) (h1 : 0 ≤ num) (h2 : num ≤ 100000) (h3 : 1 ≤ d) (h4 : d ≤ 100000) (hm : -109951162777600000 ≤ A ∧ A ≤ 109951162777600000) (_bl : -109951162777700000 ≤ L ∧ L ≤ 109951162777700000) (hA : p * num = A) (HL : A / d = L) (hLD : L * d = LD) (HE : (L + 1) * d = LD + d) (f4 : LD < A) (f5 : A < LD + d) (hs : p < 0) (hx : A - LD = LD + d - A) (hq : L % 2 = 0) :
    Calls Try.prog 27 #[.int .i64 p, .int .i64 num, .int .i64 d, .int .i64 4] w fun e w' => e = tellP (L) ∧ w' = w := by
  unfold tellP
  have HH : Hid (A / d = L) := HL
  clear HL
  have hne : (LD != A) = true := by simp; omega
  have q1 : (A - LD == LD + d - A) = true := by simpa using hx
  have q2 : decide (A - LD < LD + d - A) = false := by simp; omega
  have q3 : decide (LD + d - A < A - LD) = false := by simp; omega
  clear hx
  have hq1 : (L.tmod 2 != 0) = false := by rw [tmod2]; simp [hq]
  clear hq
  cases hz : Pen.amt (L)
  all_goals
    simp only [if_true, Bool.false_eq_true, if_false]
    go_enter Try.func27, Try.ntmps27
    go_wp2_with (first
      | (go_at_call 33; refine (noAmt_any _ _).mono ?_; rintro e w' ⟨rfl, rfl⟩; first | rw [ha] | rw [hz])
      | (go_at_call 34; refine (floorP_any _ _ _ (by omega) (by omega) (by omega) (by omega)).mono ?_; rintro e w' ⟨rfl, rfl⟩; rw [HH.out]))
    go_ret2
    exact ⟨rfl, rfl⟩
theorem rp_n4eqo (p num d A L LD : Int) (w : World) (_hp : -1099511627776 ≤ p ∧ p ≤ 1099511627776) (ha : Pen.amt p = true) (h1 : 0 ≤ num) (h2 : num ≤ 100000) (h3 : 1 ≤ d) (h4 : d ≤ 100000) (hm : -109951162777600000 ≤ A ∧ A ≤ 109951162777600000) (_bl : -109951162777700000 ≤ L ∧ L ≤ 109951162777700000) (hA : p * num = A) (HL : A / d = L) (hLD : L * d = LD) (HE : (L + 1) * d = LD + d) (f4 : LD < A) (f5 : A < LD + d) (hs : p < 0) (hx : A - LD = LD + d - A) (hq : ¬ L % 2 = 0) :
    Calls Try.prog 27 #[.int .i64 p, .int .i64 num, .int .i64 d, .int .i64 4] w fun e w' => e = tellP (L + 1) ∧ w' = w := by
  unfold tellP
  have HH : Hid (A / d = L) := HL
  clear HL
  have hne : (LD != A) = true := by simp; omega
  have q1 : (A - LD == LD + d - A) = true := by simpa using hx
  have q2 : decide (A - LD < LD + d - A) = false := by simp; omega
  have q3 : decide (LD + d - A < A - LD) = false := by simp; omega
  clear hx
  have hq1 : (L.tmod 2 != 0) = true := by rw [tmod2]; simp [hq]
  clear hq
  cases hz : Pen.amt (L + 1)
  all_goals
    simp only [if_true, Bool.false_eq_true, if_false]
    go_enter Try.func27, Try.ntmps27
    go_wp2_with (first
      | (go_at_call 33; refine (noAmt_any _ _).mono ?_; rintro e w' ⟨rfl, rfl⟩; first | rw [ha] | rw [hz])
      | (go_at_call 34; refine (floorP_any _ _ _ (by omega) (by omega) (by omega) (by omega)).mono ?_; rintro e w' ⟨rfl, rfl⟩; rw [HH.out]))
    go_ret2
    exact ⟨rfl, rfl⟩
theorem rp_p1x (p num d A L : Int) (w : World) (_hp : -1099511627776 ≤ p ∧ p ≤ 1099511627776) (ha : Pen.amt p = true) (h1 : 0 ≤ num) (h2 : num ≤ 100000) (h3 : 1 ≤ d) (h4 : d ≤ 100000) (hm : -109951162777600000 ≤ A ∧ A ≤ 109951162777600000) (_bl : -109951162777700000 ≤ L ∧ L ≤ 109951162777700000) (hA : p * num = A) (HL : A / d = L) (hLD : L * d = A) (hs : 0 ≤ p) :
    Calls Try.prog 27 #[.int .i64 p, .int .i64 num, .int .i64 d, .int .i64 1] w fun e w' => e = tellP (L) ∧ w' = w := by
  unfold tellP
  have HH : Hid (A / d = L) := HL
  clear HL
  cases hz : Pen.amt (L)
  all_goals
    simp only [if_true, Bool.false_eq_true, if_false]
    go_enter Try.func27, Try.ntmps27
    go_wp2_with (first
      | (go_at_call 33; refine (noAmt_any _ _).mono ?_; rintro e w' ⟨rfl, rfl⟩; first | rw [ha] | rw [hz])
      | (go_at_call 34; refine (floorP_any _ _ _ (by omega) (by omega) (by omega) (by omega)).mono ?_; rintro e w' ⟨rfl, rfl⟩; rw [HH.out]))
    go_ret2
    exact ⟨rfl, rfl⟩
theorem rp_p1a (p num d A L LD : Int) (w : World) (_hp : -1099511627776 ≤ p ∧ p ≤ 1099511627776) (ha : Pen.amt p = true) (h1 : 0 ≤ num) (h2 : num ≤ 100000) (h3 : 1 ≤ d) (h4 : d ≤ 100000) (hm : -109951162777600000 ≤ A ∧ A ≤ 109951162777600000) (_bl : -109951162777700000 ≤ L ∧ L ≤ 109951162777700000) (hA : p * num = A) (HL : A / d = L) (hLD : L * d = LD) (HE : (L + 1) * d = LD + d) (f4 : LD < A) (f5 : A < LD + d) (hs : 0 ≤ p) :
    Calls Try.prog 27 #[.int .i64 p, .int .i64 num, .int .i64 d, .int .i64 1] w fun e w' => e = tellP (L) ∧ w' = w := by
  unfold tellP
  have HH : Hid (A / d = L) := HL
  clear HL
  have hne : (LD != A) = true := by simp; omega
  cases hz : Pen.amt (L)
  all_goals
    simp only [if_true, Bool.false_eq_true, if_false]
    go_enter Try.func27, Try.ntmps27
    go_wp2_with (first
      | (go_at_call 33; refine (noAmt_any _ _).mono ?_; rintro e w' ⟨rfl, rfl⟩; first | rw [ha] | rw [hz])
      | (go_at_call 34; refine (floorP_any _ _ _ (by omega) (by omega) (by omega) (by omega)).mono ?_; rintro e w' ⟨rfl, rfl⟩; rw [HH.out]))
    go_ret2
    exact ⟨rfl, rfl⟩
theorem rp_p2x (p num d A L : Int) (w : World) (_hp : -1099511627776 ≤ p ∧ p ≤ 1099511627776) (ha : Pen.amt p = true) (h1 : 0 ≤ num) (h2 : num ≤ 100000) (h3 : 1 ≤ d) (h4 : d ≤ 100000) (hm : -109951162777600000 ≤ A ∧ A ≤ 109951162777600000) (_bl : -109951162777700000 ≤ L ∧ L ≤ 109951162777700000) (hA : p * num = A) (HL : A / d = L) (hLD : L * d = A) (hs : 0 ≤ p) :
    Calls Try.prog 27 #[.int .i64 p, .int .i64 num, .int .i64 d, .int .i64 2] w fun e w' => e = tellP (L) ∧ w' = w := by
  unfold tellP
  have HH : Hid (A / d = L) := HL
  clear HL
  cases hz : Pen.amt (L)
  all_goals
    simp only [if_true, Bool.false_eq_true, if_false]
    go_enter Try.func27, Try.ntmps27
    go_wp2_with (first
      | (go_at_call 33; refine (noAmt_any _ _).mono ?_; rintro e w' ⟨rfl, rfl⟩; first | rw [ha] | rw [hz])
      | (go_at_call 34; refine (floorP_any _ _ _ (by omega) (by omega) (by omega) (by omega)).mono ?_; rintro e w' ⟨rfl, rfl⟩; rw [HH.out]))
    go_ret2
    exact ⟨rfl, rfl⟩
theorem rp_p2a (p num d A L LD : Int) (w : World) (_hp : -1099511627776 ≤ p ∧ p ≤ 1099511627776) (ha : Pen.amt p = true) (h1 : 0 ≤ num) (h2 : num ≤ 100000) (h3 : 1 ≤ d) (h4 : d ≤ 100000) (hm : -109951162777600000 ≤ A ∧ A ≤ 109951162777600000) (_bl : -109951162777700000 ≤ L ∧ L ≤ 109951162777700000) (hA : p * num = A) (HL : A / d = L) (hLD : L * d = LD) (HE : (L + 1) * d = LD + d) (f4 : LD < A) (f5 : A < LD + d) (hs : 0 ≤ p) :
    Calls Try.prog 27 #[.int .i64 p, .int .i64 num, .int .i64 d, .int .i64 2] w fun e w' => e = tellP (L + 1) ∧ w' = w := by
  unfold tellP
  have HH : Hid (A / d = L) := HL
  clear HL
  have hne : (LD != A) = true := by simp; omega
  cases hz : Pen.amt (L + 1)
  all_goals
    simp only [if_true, Bool.false_eq_true, if_false]
    go_enter Try.func27, Try.ntmps27
    go_wp2_with (first
      | (go_at_call 33; refine (noAmt_any _ _).mono ?_; rintro e w' ⟨rfl, rfl⟩; first | rw [ha] | rw [hz])
      | (go_at_call 34; refine (floorP_any _ _ _ (by omega) (by omega) (by omega) (by omega)).mono ?_; rintro e w' ⟨rfl, rfl⟩; rw [HH.out]))
    go_ret2
    exact ⟨rfl, rfl⟩
theorem rp_p3x (p num d A L : Int) (w : World) (_hp : -1099511627776 ≤ p ∧ p ≤ 1099511627776) (ha : Pen.amt p = true) (h1 : 0 ≤ num) (h2 : num ≤ 100000) (h3 : 1 ≤ d) (h4 : d ≤ 100000) (hm : -109951162777600000 ≤ A ∧ A ≤ 109951162777600000) (_bl : -109951162777700000 ≤ L ∧ L ≤ 109951162777700000) (hA : p * num = A) (HL : A / d = L) (hLD : L * d = A) (hs : 0 ≤ p) :
    Calls Try.prog 27 #[.int .i64 p, .int .i64 num, .int .i64 d, .int .i64 3] w fun e w' => e = tellP (L) ∧ w' = w := by
  unfold tellP
  have HH : Hid (A / d = L) := HL
  clear HL
  cases hz : Pen.amt (L)
  all_goals
    simp only [if_true, Bool.false_eq_true, if_false]
    go_enter Try.func27, Try.ntmps27
    go_wp2_with (first
      | (go_at_call 33; refine (noAmt_any _ _).mono ?_; rintro e w' ⟨rfl, rfl⟩; first | rw [ha] | rw [hz])
      | (go_at_call 34; refine (floorP_any _ _ _ (by omega) (by omega) (by omega) (by omega)).mono ?_; rintro e w' ⟨rfl, rfl⟩; rw [HH.out]))
    go_ret2
    exact ⟨rfl, rfl⟩
theorem rp_p3lt (p num d A L LD : Int) (w : World) (_hp : -1099511627776 ≤ p ∧ p ≤ 1099511627776) (ha : Pen.amt p = true) (h1 : 0 ≤ num) (h2 : num ≤ 100000) (h3 : 1 ≤ d) (h4 : d ≤ 100000) (hm : -109951162777600000 ≤ A ∧ A ≤ 109951162777600000) (_bl : -109951162777700000 ≤ L ∧ L ≤ 109951162777700000) (hA : p * num = A) (HL : A / d = L) (hLD : L * d = LD) (HE : (L + 1) * d = LD + d) (f4 : LD < A) (f5 : A < LD + d) (hs : 0 ≤ p) (hx : A - LD < LD + d - A) :
    Calls Try.prog 27 #[.int .i64 p, .int .i64 num, .int .i64 d, .int .i64 3] w fun e w' => e = tellP (L) ∧ w' = w := by
  unfold tellP
  have HH : Hid (A / d = L) := HL
  clear HL
  have hne : (LD != A) = true := by simp; omega
  have q1 : (A - LD == LD + d - A) = false := by simp; omega
  cases hz : Pen.amt (L)
  all_goals
    simp only [if_true, Bool.false_eq_true, if_false]
    go_enter Try.func27, Try.ntmps27
    go_wp2_with (first
      | (go_at_call 33; refine (noAmt_any _ _).mono ?_; rintro e w' ⟨rfl, rfl⟩; first | rw [ha] | rw [hz])
      | (go_at_call 34; refine (floorP_any _ _ _ (by omega) (by omega) (by omega) (by omega)).mono ?_; rintro e w' ⟨rfl, rfl⟩; rw [HH.out]))
    go_ret2
    exact ⟨rfl, rfl⟩
theorem rp_p3gt (p num d A L LD : Int) (w : World) (_hp : -1099511627776 ≤ p ∧ p ≤ 1099511627776) (ha : Pen.amt p = true) (h1 : 0 ≤ num) (h2 : num ≤ 100000) (h3 : 1 ≤ d) (h4 : d ≤ 100000) (hm : -109951162777600000 ≤ A ∧ A ≤ 109951162777600000) (_bl : -109951162777700000 ≤ L ∧ L ≤ 109951162777700000) (hA : p * num = A) (HL : A / d = L) (hLD : L * d = LD) (HE : (L + 1) * d = LD + d) (f4 : LD < A) (f5 : A < LD + d) (hs : 0 ≤ p) (hx : LD + d - A < A - LD) :
    Calls Try.prog 27 #[.int .i64 p, .int .i64 num, .int .i64 d, .int .i64 3] w fun e w' => e = tellP (L + 1) ∧ w' = w := by
  unfold tellP
  have HH : Hid (A / d = L) := HL
  clear HL
  have hne : (LD != A) = true := by simp; omega
  have q1 : (A - LD == LD + d - A) = false := by simp; omega
  cases hz : Pen.amt (L + 1)
  all_goals
    simp only [if_true, Bool.false_eq_true, if_false]
    go_enter Try.func27, Try.ntmps27
    go_wp2_with (first
      | (go_at_call 33; refine (noAmt_any _ _).mono ?_; rintro e w' ⟨rfl, rfl⟩; first | rw [ha] | rw [hz])
      | (go_at_call 34; refine (floorP_any _ _ _ (by omega) (by omega) (by omega) (by omega)).mono ?_; rintro e w' ⟨rfl, rfl⟩; rw [HH.out]))
    go_ret2
    exact ⟨rfl, rfl⟩
theorem rp_p3eq (p num d A L LD : Int) (w : World) (_hp : -1099511627776 ≤ p ∧ p ≤ 1099511627776) (ha : Pen.amt p = true) (h1 : 0 ≤ num) (h2 : num ≤ 100000) (h3 : 1 ≤ d) (h4 : d ≤ 100000) (hm : -109951162777600000 ≤ A ∧ A ≤ 109951162777600000) (_bl : -109951162777700000 ≤ L ∧ L ≤ 109951162777700000) (hA : p * num = A) (HL : A / d = L) (hLD : L * d = LD) (HE : (L + 1) * d = LD + d) (f4 : LD < A) (f5 : A < LD + d) (hs : 0 ≤ p) (hx : A - LD = LD + d - A) :
    Calls Try.prog 27 #[.int .i64 p, .int .i64 num, .int .i64 d, .int .i64 3] w fun e w' => e = tellP (L + 1) ∧ w' = w := by
  unfold tellP
  have HH : Hid (A / d = L) := HL
  clear HL
  have hne : (LD != A) = true := by simp; omega
  have q1 : (A - LD == LD + d - A) = true := by simpa using hx
  have q2 : decide (A - LD < LD + d - A) = false := by simp; omega
  have q3 : decide (LD + d - A < A - LD) = false := by simp; omega
  clear hx
  cases hz : Pen.amt (L + 1)
  all_goals
    simp only [if_true, Bool.false_eq_true, if_false]
    go_enter Try.func27, Try.ntmps27
    go_wp2_with (first
      | (go_at_call 33; refine (noAmt_any _ _).mono ?_; rintro e w' ⟨rfl, rfl⟩; first | rw [ha] | rw [hz])
      | (go_at_call 34; refine (floorP_any _ _ _ (by omega) (by omega) (by omega) (by omega)).mono ?_; rintro e w' ⟨rfl, rfl⟩; rw [HH.out]))
    go_ret2
    exact ⟨rfl, rfl⟩
theorem rp_p4xe (p num d A L : Int) (w : World) (_hp : -1099511627776 ≤ p ∧ p ≤ 1099511627776) (ha : Pen.amt p = true) (h1 : 0 ≤ num) (h2 : num ≤ 100000) (h3 : 1 ≤ d) (h4 : d ≤ 100000) (hm : -109951162777600000 ≤ A ∧ A ≤ 109951162777600000) (_bl : -109951162777700000 ≤ L ∧ L ≤ 109951162777700000) (hA : p * num = A) (HL : A / d = L) (hLD : L * d = A) (hs : 0 ≤ p) (hq : L % 2 = 0) :
    Calls Try.prog 27 #[.int .i64 p, .int .i64 num, .int .i64 d, .int .i64 4] w fun e w' => e = tellP (L) ∧ w' = w := by
  unfold tellP
  have HH : Hid (A / d = L) := HL
  clear HL
  have hq1 : (L.tmod 2 != 0) = false := by rw [tmod2]; simp [hq]
  clear hq
  cases hz : Pen.amt (L)
  all_goals
    simp only [if_true, Bool.false_eq_true, if_false]
    go_enter Try.func27, Try.ntmps27
    go_wp2_with (first
      | (go_at_call 33; refine (noAmt_any _ _).mono ?_; rintro e w' ⟨rfl, rfl⟩; first | rw [ha] | rw [hz])
      | (go_at_call 34; refine (floorP_any _ _ _ (by omega) (by omega) (by omega) (by omega)).mono ?_; rintro e w' ⟨rfl, rfl⟩; rw [HH.out]))
    go_ret2
    exact ⟨rfl, rfl⟩
theorem rp_p4xo (p num d A L : Int) (w : World) (_hp : -1099511627776 ≤ p ∧ p ≤ 1099511627776) (ha : Pen.amt p = true) (h1 : 0 ≤ num) (h2 : num ≤ 100000) (h3 : 1 ≤ d) (h4 : d ≤ 100000) (hm : -109951162777600000 ≤ A ∧ A ≤ 109951162777600000) (_bl : -109951162777700000 ≤ L ∧ L ≤ 109951162777700000) (hA : p * num = A) (HL : A / d = L) (hLD : L * d = A) (hs : 0 ≤ p) (hq : ¬ L % 2 = 0) :
    Calls Try.prog 27 #[.int .i64 p, .int .i64 num, .int .i64 d, .int .i64 4] w fun e w' => e = tellP (L) ∧ w' = w := by
  unfold tellP
  have HH : Hid (A / d = L) := HL
  clear HL
  have hq1 : (L.tmod 2 != 0) = true := by rw [tmod2]; simp [hq]
  clear hq
  cases hz : Pen.amt (L)
  all_goals
    simp only [if_true, Bool.false_eq_true, if_false]
    go_enter Try.func27, Try.ntmps27
    go_wp2_with (first
      | (go_at_call 33; refine (noAmt_any _ _).mono ?_; rintro e w' ⟨rfl, rfl⟩; first | rw [ha] | rw [hz])
      | (go_at_call 34; refine (floorP_any _ _ _ (by omega) (by omega) (by omega) (by omega)).mono ?_; rintro e w' ⟨rfl, rfl⟩; rw [HH.out]))
    go_ret2
    exact ⟨rfl, rfl⟩
theorem rp_p4lt (p num d A L LD : Int) (w : World) (_hp : -1099511627776 ≤ p ∧ p ≤ 1099511627776) (ha : Pen.amt p = true) (h1 : 0 ≤ num) (h2 : num ≤ 100000) (h3 : 1 ≤ d) (h4 : d ≤ 100000) (hm : -109951162777600000 ≤ A ∧ A ≤ 109951162777600000) (_bl : -109951162777700000 ≤ L ∧ L ≤ 109951162777700000) (hA : p * num = A) (HL : A / d = L) (hLD : L * d = LD) (HE : (L + 1) * d = LD + d) (f4 : LD < A) (f5 : A < LD + d) (hs : 0 ≤ p) (hx : A - LD < LD + d - A) :
    Calls Try.prog 27 #[.int .i64 p, .int .i64 num, .int .i64 d, .int .i64 4] w fun e w' => e = tellP (L) ∧ w' = w := by
  unfold tellP
  have HH : Hid (A / d = L) := HL
  clear HL
  have hne : (LD != A) = true := by simp; omega
  have q1 : (A - LD == LD + d - A) = false := by simp; omega
  cases hz : Pen.amt (L)
  all_goals
    simp only [if_true, Bool.false_eq_true, if_false]
    go_enter Try.func27, Try.ntmps27
    go_wp2_with (first
      | (go_at_call 33; refine (noAmt_any _ _).mono ?_; rintro e w' ⟨rfl, rfl⟩; first | rw [ha] | rw [hz])
      | (go_at_call 34; refine (floorP_any _ _ _ (by omega) (by omega) (by omega) (by omega)).mono ?_; rintro e w' ⟨rfl, rfl⟩; rw [HH.out]))
    go_ret2
    exact ⟨rfl, rfl⟩
theorem rp_p4gt (p num d A L LD : Int) (w : World) (_hp : -1099511627776 ≤ p ∧ p ≤ 1099511627776) (ha : Pen.amt p = true) (h1 : 0 ≤ num) (h2 : num ≤ 100000) (h3 : 1 ≤ d) (h4 : d ≤ 100000) (hm : -109951162777600000 ≤ A ∧ A ≤ 109951162777600000) (_bl : -109951162777700000 ≤ L ∧ L ≤ 109951162777700000) (hA : p * num = A) (HL : A / d = L) (hLD : L * d = LD) (HE : (L + 1) * d = LD + d) (f4 : LD < A) (f5 : A < LD + d) (hs : 0 ≤ p) (hx : LD + d - A < A - LD) :
    Calls Try.prog 27 #[.int .i64 p, .int .i64 num, .int .i64 d, .int .i64 4] w fun e w' => e = tellP (L + 1) ∧ w' = w := by
  unfold tellP
  have HH : Hid (A / d = L) := HL
  clear HL
  have hne : (LD != A) = true := by simp; omega
  have q1 : (A - LD == LD + d - A) = false := by simp; omega
  cases hz : Pen.amt (L + 1)
  all_goals
    simp only [if_true, Bool.false_eq_true, if_false]
    go_enter Try.func27, Try.ntmps27
    go_wp2_with (first
      | (go_at_call 33; refine (noAmt_any _ _).mono ?_; rintro e w' ⟨rfl, rfl⟩; first | rw [ha] | rw [hz])
      | (go_at_call 34; refine (floorP_any _ _ _ (by omega) (by omega) (by omega) (by omega)).mono ?_; rintro e w' ⟨rfl, rfl⟩; rw [HH.out]))
    go_ret2
    exact ⟨rfl, rfl⟩
theorem rp_p4eqe (p num d A L LD : Int) (w : World) (_hp : -1099511627776 ≤ p ∧ p ≤ 1099511627776) (ha : Pen.amt p = true) (h1 : 0 ≤ num) (h2 : num ≤ 100000) (h3 : 1 ≤ d) (h4 : d ≤ 100000) (hm : -109951162777600000 ≤ A ∧ A ≤ 109951162777600000) (_bl : -109951162777700000 ≤ L ∧ L ≤ 109951162777700000) (hA : p * num = A) (HL : A / d = L) (hLD : L * d = LD) (HE : (L + 1) * d = LD + d) (f4 : LD < A) (f5 : A < LD + d) (hs : 0 ≤ p) (hx : A - LD = LD + d - A) (hq : L % 2 = 0) :
    Calls Try.prog 27 #[.int .i64 p, .int .i64 num, .int .i64 d, .int .i64 4] w fun e w' => e = tellP (L) ∧ w' = w := by
  unfold tellP
  have HH : Hid (A / d = L) := HL
  clear HL
  have hne : (LD != A) = true := by simp; omega
  have q1 : (A - LD == LD + d - A) = true := by simpa using hx
  have q2 : decide (A - LD < LD + d - A) = false := by simp; omega
  have q3 : decide (LD + d - A < A - LD) = false := by simp; omega
  clear hx
  have hq1 : (L.tmod 2 != 0) = false := by rw [tmod2]; simp [hq]
  clear hq
  cases hz : Pen.amt (L)
  all_goals
    simp only [if_true, Bool.false_eq_true, if_false]
    go_enter Try.func27, Try.ntmps27
    go_wp2_with (first
      | (go_at_call 33; refine (noAmt_any _ _).mono ?_; rintro e w' ⟨rfl, rfl⟩; first | rw [ha] | rw [hz])
      | (go_at_call 34; refine (floorP_any _ _ _ (by omega) (by omega) (by omega) (by omega)).mono ?_; rintro e w' ⟨rfl, rfl⟩; rw [HH.out]))
    go_ret2
    exact ⟨rfl, rfl⟩
theorem rp_p4eqo (p num d A L LD : Int) (w : World) (_hp : -1099511627776 ≤ p ∧ p ≤ 1099511627776) (ha : Pen.amt p = true) (h1 : 0 ≤ num) (h2 : num ≤ 100000) (h3 : 1 ≤ d) (h4 : d ≤ 100000) (hm : -109951162777600000 ≤ A ∧ A ≤ 109951162777600000) (_bl : -109951162777700000 ≤ L ∧ L ≤ 109951162777700000) (hA : p * num = A) (HL : A / d = L) (hLD : L * d = LD) (HE : (L + 1) * d = LD + d) (f4 : LD < A) (f5 : A < LD + d) (hs : 0 ≤ p) (hx : A - LD = LD + d - A) (hq : ¬ L % 2 = 0) :
    Calls Try.prog 27 #[.int .i64 p, .int .i64 num, .int .i64 d, .int .i64 4] w fun e w' => e = tellP (L + 1) ∧ w' = w := by
  unfold tellP
  have HH : Hid (A / d = L) := HL
  clear HL
  have hne : (LD != A) = true := by simp; omega
  have q1 : (A - LD == LD + d - A) = true := by simpa using hx
  have q2 : decide (A - LD < LD + d - A) = false := by simp; omega
  have q3 : decide (LD + d - A < A - LD) = false := by simp; omega
  clear hx
  have hq1 : (L.tmod 2 != 0) = true := by rw [tmod2]; simp [hq]
  clear hq
  cases hz : Pen.amt (L + 1)
  all_goals
    simp only [if_true, Bool.false_eq_true, if_false]
    go_enter Try.func27, Try.ntmps27
    go_wp2_with (first
      | (go_at_call 33; refine (noAmt_any _ _).mono ?_; rintro e w' ⟨rfl, rfl⟩; first | rw [ha] | rw [hz])
      | (go_at_call 34; refine (floorP_any _ _ _ (by omega) (by omega) (by omega) (by omega)).mono ?_; rintro e w' ⟨rfl, rfl⟩; rw [HH.out]))
    go_ret2
    exact ⟨rfl, rfl⟩
end Go.Proofs.Ytcaibonnkfhkmaa
