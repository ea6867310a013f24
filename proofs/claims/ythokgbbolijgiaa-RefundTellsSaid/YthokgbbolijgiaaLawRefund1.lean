/- The walk of RefundTells. -/
import Derived.Test.YthokgbbolijgiaaCRf
namespace Go.Proofs.Ythokgbbolijgiaa
open Go.RowKit Go.BigFrame

set_option maxRecDepth 100000 in
set_option maxHeartbeats 4000000 in
theorem refundTells_any (paid : Int) (l : List Cv.Off) (a : Option Addr) (cap : Nat) (d fee : Int) (w : World) (hm : l.length ≤ maxLen ∧ l.length ≤ cap) (hr : RowO w a l) :
    Calls Try.prog 7 #[.int .i64 paid, .slice a l.length cap, .int .i64 d, .int .i64 fee] w fun e w' => e = .returned (.bool true) ∧ Below w.heap.size w w' := by
  have R : Hid (RowO w a l) := hr
  have HM : Hid (l.length ≤ maxLen ∧ l.length ≤ cap) := hm
  obtain ⟨v, hv⟩ : ∃ v, Cv.val l d = v := ⟨_, rfl⟩
  obtain ⟨c, hc⟩ : ∃ c, Cv.code l d = c := ⟨_, rfl⟩
  obtain ⟨n, hn⟩ : ∃ n, Cv.rv l paid d fee = n := ⟨_, rfl⟩
  obtain ⟨f, hf⟩ : ∃ f, Cv.rc l paid d fee = f := ⟨_, rfl⟩
  have HV : Hid (Cv.val l d = v ∧ Cv.code l d = c) := ⟨hv, hc⟩
  have HF : Hid (Cv.rv l paid d fee = n ∧ Cv.rc l paid d fee = f) := ⟨hn, hf⟩
  have HC : Hid (c = 0 ∨ c = 2 ∨ c = 3 ∨ c = 5) := hc ▸ Cv.code_cases l d
  have hvb := Cv.val_bd l d
  rw [hv] at hvb
  obtain ⟨x0, x1⟩ := hvb
  have HRC : Hid (f = if Cv.amt paid = true ∧ Cv.amt fee = true then c else 3) := by rw [← hf, ← hc]; exact rfl
  have HRV : Hid (n = if f = 0 then (if 0 < paid - v - fee then paid - v - fee else 0) else 0) := by rw [← hn, ← hf, ← hv]; exact rfl
  clear hv hc hn hf hm hr
  by_cases p1 : paid < 0
  · obtain rfl : f = 3 := by rw [HRC.out, if_neg (fun h => by have h1 := (Cv.amt_iff _).1 h.1; have h2 := (Cv.amt_iff _).1 h.2; omega)]
    obtain rfl : n = 0 := by rw [HRV.out, if_neg (by decide)]
    go_enter Try.func7, Try.ntmps7
    go_wp2_with fail
    refine (worth_at l a _ cap d _ _ _ rfl HM.out.1 HM.out.2 HV.out.1 HV.out.2 R.out).mono ?_
    rintro e w1 ⟨rfl, hb⟩
    have B1 : Hid (Below w.heap.size w w1) := hb
    clear hb
    go_wp2_with fail
    refine (refundOf_at l a _ cap paid d fee _ _ _ rfl HM.out.1 HM.out.2 HF.out.1 HF.out.2 (R.out.below B1.out)).mono ?_
    rintro e w2 ⟨rfl, hb⟩
    have B2 : Hid (Below w.heap.size w w2) := below_on B1.out (Nat.le_refl _) hb
    clear hb
    go_wp2_with fail
    refine (bestRef_at l a cap d _ _ _ HM.out.1 HV.out.1 HV.out.2 (R.out.below B2.out)).mono ?_
    rintro e w3 ⟨rfl, hb⟩
    have B3 : Hid (Below w.heap.size w w3) := below_on B2.out (Nat.le_refl _) hb
    clear hb
    go_wp2_with fail
    refine (rbegun_any _).mono ?_
    rintro e w4 ⟨rfl, hb⟩
    have B4 : Hid (Below w.heap.size w w4) := below_on B3.out (Nat.le_refl _) hb
    clear hb
    go_wp2
    go_ret
    exact ⟨rfl, B4.out⟩
  · have q1 : decide (paid < 0) = false := decide_eq_false p1
    by_cases p2 : 1099511627776 < paid
    · obtain rfl : f = 3 := by rw [HRC.out, if_neg (fun h => by have h1 := (Cv.amt_iff _).1 h.1; have h2 := (Cv.amt_iff _).1 h.2; omega)]
      obtain rfl : n = 0 := by rw [HRV.out, if_neg (by decide)]
      go_enter Try.func7, Try.ntmps7
      go_wp2_with fail
      refine (worth_at l a _ cap d _ _ _ rfl HM.out.1 HM.out.2 HV.out.1 HV.out.2 R.out).mono ?_
      rintro e w1 ⟨rfl, hb⟩
      have B1 : Hid (Below w.heap.size w w1) := hb
      clear hb
      go_wp2_with fail
      refine (refundOf_at l a _ cap paid d fee _ _ _ rfl HM.out.1 HM.out.2 HF.out.1 HF.out.2 (R.out.below B1.out)).mono ?_
      rintro e w2 ⟨rfl, hb⟩
      have B2 : Hid (Below w.heap.size w w2) := below_on B1.out (Nat.le_refl _) hb
      clear hb
      go_wp2_with fail
      refine (bestRef_at l a cap d _ _ _ HM.out.1 HV.out.1 HV.out.2 (R.out.below B2.out)).mono ?_
      rintro e w3 ⟨rfl, hb⟩
      have B3 : Hid (Below w.heap.size w w3) := below_on B2.out (Nat.le_refl _) hb
      clear hb
      go_wp2_with fail
      refine (rbegun_any _).mono ?_
      rintro e w4 ⟨rfl, hb⟩
      have B4 : Hid (Below w.heap.size w w4) := below_on B3.out (Nat.le_refl _) hb
      clear hb
      go_wp2
      go_ret
      exact ⟨rfl, B4.out⟩
    · have q2 : decide (1099511627776 < paid) = false := decide_eq_false p2
      by_cases p3 : fee < 0
      · obtain rfl : f = 3 := by rw [HRC.out, if_neg (fun h => by have h1 := (Cv.amt_iff _).1 h.1; have h2 := (Cv.amt_iff _).1 h.2; omega)]
        obtain rfl : n = 0 := by rw [HRV.out, if_neg (by decide)]
        go_enter Try.func7, Try.ntmps7
        go_wp2_with fail
        refine (worth_at l a _ cap d _ _ _ rfl HM.out.1 HM.out.2 HV.out.1 HV.out.2 R.out).mono ?_
        rintro e w1 ⟨rfl, hb⟩
        have B1 : Hid (Below w.heap.size w w1) := hb
        clear hb
        go_wp2_with fail
        refine (refundOf_at l a _ cap paid d fee _ _ _ rfl HM.out.1 HM.out.2 HF.out.1 HF.out.2 (R.out.below B1.out)).mono ?_
        rintro e w2 ⟨rfl, hb⟩
        have B2 : Hid (Below w.heap.size w w2) := below_on B1.out (Nat.le_refl _) hb
        clear hb
        go_wp2_with fail
        refine (bestRef_at l a cap d _ _ _ HM.out.1 HV.out.1 HV.out.2 (R.out.below B2.out)).mono ?_
        rintro e w3 ⟨rfl, hb⟩
        have B3 : Hid (Below w.heap.size w w3) := below_on B2.out (Nat.le_refl _) hb
        clear hb
        go_wp2_with fail
        refine (rbegun_any _).mono ?_
        rintro e w4 ⟨rfl, hb⟩
        have B4 : Hid (Below w.heap.size w w4) := below_on B3.out (Nat.le_refl _) hb
        clear hb
        go_wp2
        go_ret
        exact ⟨rfl, B4.out⟩
      · have q3 : decide (fee < 0) = false := decide_eq_false p3
        by_cases p4 : 1099511627776 < fee
        · obtain rfl : f = 3 := by rw [HRC.out, if_neg (fun h => by have h1 := (Cv.amt_iff _).1 h.1; have h2 := (Cv.amt_iff _).1 h.2; omega)]
          obtain rfl : n = 0 := by rw [HRV.out, if_neg (by decide)]
          go_enter Try.func7, Try.ntmps7
          go_wp2_with fail
          refine (worth_at l a _ cap d _ _ _ rfl HM.out.1 HM.out.2 HV.out.1 HV.out.2 R.out).mono ?_
          rintro e w1 ⟨rfl, hb⟩
          have B1 : Hid (Below w.heap.size w w1) := hb
          clear hb
          go_wp2_with fail
          refine (refundOf_at l a _ cap paid d fee _ _ _ rfl HM.out.1 HM.out.2 HF.out.1 HF.out.2 (R.out.below B1.out)).mono ?_
          rintro e w2 ⟨rfl, hb⟩
          have B2 : Hid (Below w.heap.size w w2) := below_on B1.out (Nat.le_refl _) hb
          clear hb
          go_wp2_with fail
          refine (bestRef_at l a cap d _ _ _ HM.out.1 HV.out.1 HV.out.2 (R.out.below B2.out)).mono ?_
          rintro e w3 ⟨rfl, hb⟩
          have B3 : Hid (Below w.heap.size w w3) := below_on B2.out (Nat.le_refl _) hb
          clear hb
          go_wp2_with fail
          refine (rbegun_any _).mono ?_
          rintro e w4 ⟨rfl, hb⟩
          have B4 : Hid (Below w.heap.size w w4) := below_on B3.out (Nat.le_refl _) hb
          clear hb
          go_wp2
          go_ret
          exact ⟨rfl, B4.out⟩
        · have q4 : decide (1099511627776 < fee) = false := decide_eq_false p4
          obtain rfl : f = c := by rw [HRC.out, if_pos ⟨(Cv.amt_iff _).2 (by omega), (Cv.amt_iff _).2 (by omega)⟩]
          by_cases c0 : f = 0
          · subst c0
            by_cases g : v + fee < paid
            · obtain rfl : n = paid - v - fee := by rw [HRV.out, if_pos rfl, if_pos (by omega)]
              go_enter Try.func7, Try.ntmps7
              go_wp2_with fail
              refine (worth_at l a _ cap d _ _ _ rfl HM.out.1 HM.out.2 HV.out.1 HV.out.2 R.out).mono ?_
              rintro e w1 ⟨rfl, hb⟩
              have B1 : Hid (Below w.heap.size w w1) := hb
              clear hb
              go_wp2_with fail
              refine (refundOf_at l a _ cap paid d fee _ _ _ rfl HM.out.1 HM.out.2 HF.out.1 HF.out.2 (R.out.below B1.out)).mono ?_
              rintro e w2 ⟨rfl, hb⟩
              have B2 : Hid (Below w.heap.size w w2) := below_on B1.out (Nat.le_refl _) hb
              clear hb
              go_wp2_with fail
              refine (bestRef_at l a cap d _ _ _ HM.out.1 HV.out.1 HV.out.2 (R.out.below B2.out)).mono ?_
              rintro e w3 ⟨rfl, hb⟩
              have B3 : Hid (Below w.heap.size w w3) := below_on B2.out (Nat.le_refl _) hb
              clear hb
              go_wp2_with fail
              refine (rbegun_any _).mono ?_
              rintro e w4 ⟨rfl, hb⟩
              have B4 : Hid (Below w.heap.size w w4) := below_on B3.out (Nat.le_refl _) hb
              clear hb
              go_wp2
              go_ret
              exact ⟨rfl, B4.out⟩
            · obtain rfl : n = 0 := by rw [HRV.out, if_pos rfl, if_neg (by omega)]
              have g2 : decide (v + fee < paid) = false := decide_eq_false g
              go_enter Try.func7, Try.ntmps7
              go_wp2_with fail
              refine (worth_at l a _ cap d _ _ _ rfl HM.out.1 HM.out.2 HV.out.1 HV.out.2 R.out).mono ?_
              rintro e w1 ⟨rfl, hb⟩
              have B1 : Hid (Below w.heap.size w w1) := hb
              clear hb
              go_wp2_with fail
              refine (refundOf_at l a _ cap paid d fee _ _ _ rfl HM.out.1 HM.out.2 HF.out.1 HF.out.2 (R.out.below B1.out)).mono ?_
              rintro e w2 ⟨rfl, hb⟩
              have B2 : Hid (Below w.heap.size w w2) := below_on B1.out (Nat.le_refl _) hb
              clear hb
              go_wp2_with fail
              refine (bestRef_at l a cap d _ _ _ HM.out.1 HV.out.1 HV.out.2 (R.out.below B2.out)).mono ?_
              rintro e w3 ⟨rfl, hb⟩
              have B3 : Hid (Below w.heap.size w w3) := below_on B2.out (Nat.le_refl _) hb
              clear hb
              go_wp2_with fail
              refine (rbegun_any _).mono ?_
              rintro e w4 ⟨rfl, hb⟩
              have B4 : Hid (Below w.heap.size w w4) := below_on B3.out (Nat.le_refl _) hb
              clear hb
              go_wp2
              go_ret
              exact ⟨rfl, B4.out⟩
          · obtain rfl : n = 0 := by rw [HRV.out, if_neg c0]
            have c1 : (f == 0) = false := by simpa using c0
            have c2 : (f == f) = true := by simp
            go_enter Try.func7, Try.ntmps7
            go_wp2_with fail
            refine (worth_at l a _ cap d _ _ _ rfl HM.out.1 HM.out.2 HV.out.1 HV.out.2 R.out).mono ?_
            rintro e w1 ⟨rfl, hb⟩
            have B1 : Hid (Below w.heap.size w w1) := hb
            clear hb
            go_wp2_with fail
            refine (refundOf_at l a _ cap paid d fee _ _ _ rfl HM.out.1 HM.out.2 HF.out.1 HF.out.2 (R.out.below B1.out)).mono ?_
            rintro e w2 ⟨rfl, hb⟩
            have B2 : Hid (Below w.heap.size w w2) := below_on B1.out (Nat.le_refl _) hb
            clear hb
            go_wp2_with fail
            refine (bestRef_at l a cap d _ _ _ HM.out.1 HV.out.1 HV.out.2 (R.out.below B2.out)).mono ?_
            rintro e w3 ⟨rfl, hb⟩
            have B3 : Hid (Below w.heap.size w w3) := below_on B2.out (Nat.le_refl _) hb
            clear hb
            go_wp2_with fail
            refine (rbegun_any _).mono ?_
            rintro e w4 ⟨rfl, hb⟩
            have B4 : Hid (Below w.heap.size w w4) := below_on B3.out (Nat.le_refl _) hb
            clear hb
            go_wp2
            go_ret
            exact ⟨rfl, B4.out⟩
end Go.Proofs.Ythokgbbolijgiaa
