/- What is given back: plain, and the program's walks. -/
import Derived.Test.YthokgbbolijgiaaLawCover1
namespace Go.Proofs.Ythokgbbolijgiaa
open Go.RowKit Go.BigFrame

namespace Cv
/-- an amount that there is -/
def amt (p : Int) : Bool := decide (0 ≤ p ∧ p ≤ 1099511627776)
def rc (l : List Off) (paid used fee : Int) : Int := if amt paid = true ∧ amt fee = true then code l used else 3
def rv (l : List Off) (paid used fee : Int) : Int := if rc l paid used fee = 0 then (if 0 < paid - val l used - fee then paid - val l used - fee else 0) else 0
theorem amt_iff (p : Int) : amt p = true ↔ 0 ≤ p ∧ p ≤ 1099511627776 := by unfold amt; exact decide_eq_true_iff
theorem rc_ok (l : List Off) (paid used fee : Int) (h : rc l paid used fee = 0) : (0 ≤ paid ∧ paid ≤ 1099511627776) ∧ (0 ≤ fee ∧ fee ≤ 1099511627776) ∧ code l used = 0 := by
  unfold rc at h
  by_cases c : amt paid = true ∧ amt fee = true
  · rw [if_pos c] at h
    exact ⟨(amt_iff _).1 c.1, (amt_iff _).1 c.2, h⟩
  · rw [if_neg c] at h; cases h
theorem val_bd (l : List Off) (d : Int) : 0 ≤ val l d ∧ val l d ≤ 400000000 := by
  unfold val
  by_cases h : code l d = 0
  · obtain ⟨ok, h0, h1⟩ := (code_ok l d).1 h
    rw [if_pos h]
    have := best_nonneg l ok d.toNat
    have := best_top l ok d.toNat
    omega
  · rw [if_neg h]; omega
theorem val_mono (l : List Off) (a b : Int) (ha : code l a = 0) (hb : code l b = 0) (h : a ≤ b) : val l a ≤ val l b := by
  obtain ⟨ok, h0, h1⟩ := (code_ok l a).1 ha
  unfold val
  rw [if_pos ha, if_pos hb]
  exact best_mono l ok _ _ (by omega)
end Cv
theorem isPaid_any (p : Int) (b : Bool) (w : World) (hb : Cv.amt p = b) :
    Calls Try.prog 28 #[.int .i64 p] w fun e w' => e = .returned (.bool b) ∧ w' = w := by
  subst hb
  by_cases h1 : 0 ≤ p
  · by_cases h2 : p ≤ 1099511627776
    · have e : Cv.amt p = true := (Cv.amt_iff p).2 ⟨h1, h2⟩
      rw [e]; clear e
      go_enter Try.func28, Try.ntmps28
      go_wp2
      go_ret
      exact ⟨rfl, rfl⟩
    · have e : Cv.amt p = false := decide_eq_false (fun h => h2 h.2)
      rw [e]; clear e
      go_enter Try.func28, Try.ntmps28
      go_wp2
      go_ret
      exact ⟨rfl, rfl⟩
  · have e : Cv.amt p = false := decide_eq_false (fun h => h1 h.1)
    rw [e]; clear e
    have h1' : decide (0 ≤ p) = false := by simpa using h1
    go_enter Try.func28, Try.ntmps28
    go_wp2
    go_ret
    exact ⟨rfl, rfl⟩
theorem worth_at (l : List Cv.Off) (a : Option Addr) (n cap : Nat) (d v c : Int) (w : World) (hn : l.length = n) (hl : l.length ≤ maxLen) (hc : l.length ≤ cap) (hv : Cv.val l d = v) (hcc : Cv.code l d = c) (hr : RowO w a l) :
    Calls Try.prog 18 #[.slice a n cap, .int .i64 d] w fun e w' => e = .returned (.tuple #[.int .i64 v, .int .i64 c]) ∧ Below w.heap.size w w' := by
  have hb := best_at l a n cap d v c w hn hl hc hv hcc hr
  go_enter Try.func18, Try.ntmps18
  go_wp2_with fail
  refine hb.mono ?_
  rintro e w1 ⟨rfl, b1⟩
  go_wp2
  go_ret2
  exact ⟨rfl, b1⟩
set_option maxHeartbeats 1000000 in
theorem refundOf_at (l : List Cv.Off) (a : Option Addr) (n cap : Nat) (paid d fee v c : Int) (w : World) (hn : l.length = n) (hl : l.length ≤ maxLen) (hc : l.length ≤ cap) (hv : Cv.rv l paid d fee = v) (hcc : Cv.rc l paid d fee = c) (hr : RowO w a l) :
    Calls Try.prog 19 #[.int .i64 paid, .slice a n cap, .int .i64 d, .int .i64 fee] w fun e w' => e = .returned (.tuple #[.int .i64 v, .int .i64 c]) ∧ Below w.heap.size w w' := by
  have hwo := worth_at l a n cap d _ _ w hn hl hc rfl rfl hr
  have hvb := Cv.val_bd l d
  by_cases h1 : Cv.amt paid = true
  · have HP1 : Hid (∀ w, Calls Try.prog 28 #[.int .i64 paid] w fun e w' => e = .returned (.bool true) ∧ w' = w) := fun w => isPaid_any paid true w h1
    by_cases h2 : Cv.amt fee = true
    · have HP2 : Hid (∀ w, Calls Try.prog 28 #[.int .i64 fee] w fun e w' => e = .returned (.bool true) ∧ w' = w) := fun w => isPaid_any fee true w h2
      have hrc : Cv.rc l paid d fee = Cv.code l d := by unfold Cv.rc; rw [if_pos ⟨h1, h2⟩]
      obtain ⟨p0, p1⟩ := (Cv.amt_iff _).1 h1
      obtain ⟨f0, f1⟩ := (Cv.amt_iff _).1 h2
      by_cases h3 : Cv.code l d = 0
      · rw [h3] at hwo
        have hc0 : c = 0 := by rw [← hcc, hrc, h3]
        have hve : v = if 0 < paid - Cv.val l d - fee then paid - Cv.val l d - fee else 0 := by
          rw [← hv]; unfold Cv.rv; rw [if_pos (by rw [hrc, h3])]
        subst hc0
        obtain ⟨x, hx⟩ : ∃ x, Cv.val l d = x := ⟨_, rfl⟩
        rw [hx] at hwo hve hvb
        obtain ⟨x0, x1⟩ := hvb
        by_cases h4 : 0 < paid - x - fee
        · rw [if_pos h4] at hve
          subst hve
          clear h1 h2 h3 hrc hv hcc hx hr hl hc hn
          go_enter Try.func19, Try.ntmps19
          go_wp2_with fail
          refine (HP1.out _).mono ?_
          rintro e w1 ⟨rfl, rfl⟩
          go_wp2_with fail
          refine (HP2.out _).mono ?_
          rintro e w1 ⟨rfl, rfl⟩
          go_wp2_with fail
          refine hwo.mono ?_
          rintro e w2 ⟨rfl, b2⟩
          go_wp2
          go_ret2
          exact ⟨rfl, b2⟩
        · rw [if_neg h4] at hve
          subst hve
          clear h1 h2 h3 hrc hv hcc hx hr hl hc hn
          go_enter Try.func19, Try.ntmps19
          go_wp2_with fail
          refine (HP1.out _).mono ?_
          rintro e w1 ⟨rfl, rfl⟩
          go_wp2_with fail
          refine (HP2.out _).mono ?_
          rintro e w1 ⟨rfl, rfl⟩
          go_wp2_with fail
          refine hwo.mono ?_
          rintro e w2 ⟨rfl, b2⟩
          go_wp2
          go_ret2
          exact ⟨rfl, b2⟩
      · have hc0 : Cv.code l d = c := by rw [← hcc, hrc]
        have hve : v = 0 := by rw [← hv]; unfold Cv.rv; rw [if_neg (by rw [hrc]; exact h3)]
        rw [hc0] at hwo h3
        subst hve
        have hcn : (c != 0) = true := by simpa using h3
        generalize Cv.val l d = x at *
        clear h1 h2 h3 hrc hv hcc hr hl hc hn hc0
        go_enter Try.func19, Try.ntmps19
        go_wp2_with fail
        refine (HP1.out _).mono ?_
        rintro e w1 ⟨rfl, rfl⟩
        go_wp2_with fail
        refine (HP2.out _).mono ?_
        rintro e w1 ⟨rfl, rfl⟩
        go_wp2_with fail
        refine hwo.mono ?_
        rintro e w2 ⟨rfl, b2⟩
        go_wp2
        go_ret2
        exact ⟨rfl, b2⟩
    · have hb2 : Cv.amt fee = false := by simpa using h2
      have HP2 : Hid (∀ w, Calls Try.prog 28 #[.int .i64 fee] w fun e w' => e = .returned (.bool false) ∧ w' = w) := fun w => isPaid_any fee false w hb2
      have hrc : Cv.rc l paid d fee = 3 := by unfold Cv.rc; rw [if_neg (fun e => h2 e.2)]
      have hc0 : c = 3 := by rw [← hcc, hrc]
      have hve : v = 0 := by rw [← hv]; unfold Cv.rv; rw [if_neg (by rw [hrc]; decide)]
      subst hc0 hve
      clear h1 h2 hb2 hrc hv hcc hr hl hc hn hwo hvb
      go_enter Try.func19, Try.ntmps19
      go_wp2_with fail
      refine (HP1.out _).mono ?_
      rintro e w1 ⟨rfl, rfl⟩
      go_wp2_with fail
      refine (HP2.out _).mono ?_
      rintro e w1 ⟨rfl, rfl⟩
      go_wp2
      go_ret2
      exact ⟨rfl, Below.refl _ _⟩
  · have hb1 : Cv.amt paid = false := by simpa using h1
    have HP1 : Hid (∀ w, Calls Try.prog 28 #[.int .i64 paid] w fun e w' => e = .returned (.bool false) ∧ w' = w) := fun w => isPaid_any paid false w hb1
    have hrc : Cv.rc l paid d fee = 3 := by unfold Cv.rc; rw [if_neg (fun e => h1 e.1)]
    have hc0 : c = 3 := by rw [← hcc, hrc]
    have hve : v = 0 := by rw [← hv]; unfold Cv.rv; rw [if_neg (by rw [hrc]; decide)]
    subst hc0 hve
    clear h1 hb1 hrc hv hcc hr hl hc hn hwo hvb
    go_enter Try.func19, Try.ntmps19
    go_wp2_with fail
    refine (HP1.out _).mono ?_
    rintro e w1 ⟨rfl, rfl⟩
    go_wp2
    go_ret2
    exact ⟨rfl, Below.refl _ _⟩
theorem rv1 : Cv.rv off3 6000 9 500 = 2500 := by decide +kernel
theorem rc1 : Cv.rc off3 6000 9 500 = 0 := by decide +kernel
theorem rv2 : Cv.rv off3 2000 9 500 = 0 := by decide +kernel
theorem rc2 : Cv.rc off3 2000 9 500 = 0 := by decide +kernel
theorem rv3 : Cv.rv off3 (-1) 9 500 = 0 := by decide +kernel
theorem rc3 : Cv.rc off3 (-1) 9 500 = 3 := by decide +kernel
set_option maxRecDepth 100000 in
set_option maxHeartbeats 2000000 in
theorem rbegun_any (w : World) : Calls Try.prog 20 #[] w fun e w' => e = .returned (.bool true) ∧ Below w.heap.size w w' := by
  go_enter Try.func20, Try.ntmps20
  go_wp2_with fail
  refine (offers_any _).mono ?_
  rintro e w1 ⟨b1, rfl, hr, hb⟩
  have R1 : Hid (RowO w1 (some ⟨b1, 0, none⟩) off3) := hr
  have B1 : Hid (Below w.heap.size w w1) := hb
  clear hr hb
  go_wp2_with fail
  refine (refundOf_at off3 _ _ _ 6000 9 500 2500 0 _ rfl (by decide) (by decide) rv1 rc1 R1.out).mono ?_
  rintro e w2 ⟨rfl, hb⟩
  have B2 : Hid (Below w.heap.size w w2) := below_on B1.out (Nat.le_refl _) hb
  clear hb
  go_wp2_with fail
  refine (offers_any _).mono ?_
  rintro e w3 ⟨b3, rfl, hr, hb⟩
  have R3 : Hid (RowO w3 (some ⟨b3, 0, none⟩) off3) := hr
  have B3 : Hid (Below w.heap.size w w3) := below_on B2.out (Nat.le_refl _) hb
  clear hr hb
  go_wp2_with fail
  refine (refundOf_at off3 _ _ _ 2000 9 500 0 0 _ rfl (by decide) (by decide) rv2 rc2 R3.out).mono ?_
  rintro e w4 ⟨rfl, hb⟩
  have B4 : Hid (Below w.heap.size w w4) := below_on B3.out (Nat.le_refl _) hb
  clear hb
  go_wp2_with fail
  refine (offers_any _).mono ?_
  rintro e w5 ⟨b5, rfl, hr, hb⟩
  have R5 : Hid (RowO w5 (some ⟨b5, 0, none⟩) off3) := hr
  have B5 : Hid (Below w.heap.size w w5) := below_on B4.out (Nat.le_refl _) hb
  clear hr hb
  go_wp2_with fail
  refine (refundOf_at off3 _ _ _ (-1) 9 500 0 3 _ rfl (by decide) (by decide) rv3 rc3 R5.out).mono ?_
  rintro e w6 ⟨rfl, hb⟩
  have B6 : Hid (Below w.heap.size w w6) := below_on B5.out (Nat.le_refl _) hb
  clear hb
  go_wp2_with fail
  refine (offers_any _).mono ?_
  rintro e w7 ⟨b7, rfl, hr, hb⟩
  have R7 : Hid (RowO w7 (some ⟨b7, 0, none⟩) off3) := hr
  have B7 : Hid (Below w.heap.size w w7) := below_on B6.out (Nat.le_refl _) hb
  clear hr hb
  go_wp2_with fail
  refine (worth_at off3 _ _ _ 9 3000 0 _ rfl (by decide) (by decide) v9 c9 R7.out).mono ?_
  rintro e w8 ⟨rfl, hb⟩
  have B8 : Hid (Below w.heap.size w w8) := below_on B7.out (Nat.le_refl _) hb
  clear hb
  go_wp2
  go_ret
  exact ⟨rfl, B8.out⟩
end Go.Proofs.Ythokgbbolijgiaa
