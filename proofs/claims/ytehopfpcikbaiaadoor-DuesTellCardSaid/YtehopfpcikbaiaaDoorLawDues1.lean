/- The walk of DuesTell. -/
import Derived.Test.YtehopfpcikbaiaaDoorDuBeg
namespace Go.Proofs.YtehopfpcikbaiaaDoor
open Go.RowKit Go.BigFrame

namespace Dp
theorem plan_len (f : Nat → Int × Int) (xs : List Int) (c : Int) : (plan f xs c).1.length ≤ xs.length := by
  unfold plan
  split
  · split
    · show (pL f xs xs.length).length ≤ _; rw [pL_len]; exact Nat.le_refl _
    · exact Nat.zero_le _
  · exact Nat.zero_le _
theorem evn_len (T m : Int) : (Shr.evn T m).length ≤ 32 := by
  unfold Shr.evn
  by_cases h : Shr.ecode T m = 0
  · rw [if_pos h]
    have := (Shr.ecode_zero T m).1 h
    simp; omega
  · rw [if_neg h]; exact Nat.zero_le _
end Dp
set_option maxRecDepth 100000 in
set_option maxHeartbeats 8000000 in
theorem duesTell_any (R : Wk.Rst) (L : List Wk.Rl) (a : Option Addr) (cap : Nat) (s u t T m : Int) (l : List Dp.Du) (la : Option Addr) (lc : Nat) (n : Int) (w : World) (hL : L.length ≤ maxLen) (hw : Laid w) (hr : Row4 w a L) (hl : l.length ≤ maxLen ∧ l.length ≤ lc) (hd : RowD w la l) :
    Calls Tryd.prog 3 #[calV R a L.length cap, .int .i64 s, .agg #[.int .i64 u, .int .i64 t], .int .i64 T, .int .i64 m, .slice la l.length lc, .int .i64 n] w fun e w' => e = .returned (.bool true) ∧ Below w.heap.size w w' := by
  have HL : Hid (L.length ≤ maxLen) := hL
  have HM : Hid (l.length ≤ maxLen ∧ l.length ≤ lc) := hl
  have D0 : Hid (DSt w _ R L a L.length cap u t) := DSt.start hr
  have L0 : Hid (Laid w) := hw
  have Q0 : Hid (RowD w la l) := hd
  obtain ⟨pl, hpl⟩ : ∃ pl, Dp.plan (Dp.fk R L s u t) (Shr.evn T m) (Shr.ecode T m) = pl := ⟨_, rfl⟩
  have HPL : Hid (Dp.plan (Dp.fk R L s u t) (Shr.evn T m) (Shr.ecode T m) = pl) := hpl
  have HPM : Hid (pl.1.length ≤ maxLen) := by
    have h1 := Dp.plan_len (Dp.fk R L s u t) (Shr.evn T m) (Shr.ecode T m)
    have h2 := Dp.evn_len T m
    rw [hpl] at h1
    show _ ≤ _
    unfold maxLen; omega
  obtain ⟨c, hc⟩ : ∃ c, Dp.chk l = c := ⟨_, rfl⟩
  have HC : Hid (Dp.chk l = c) := hc
  clear hL hr hl hd hw hpl hc
  by_cases c0 : c = 0
  · subst c0
    have HOK : Hid (Dp.Ok l) := (Dp.chk_ok l).1 HC.out
    have hfew := HOK.out.few
    have hEA : ∀ x ∈ l, 0 ≤ x.2 ∧ x.2 ≤ 1099511627776 := fun x hx => ⟨(HOK.out.each x hx).2.2.1, (HOK.out.each x hx).2.2.2⟩
    have HEA : Hid (∀ x ∈ l, 0 ≤ x.2 ∧ x.2 ≤ 1099511627776) := hEA
    have hb := Dp.due_bd l n hEA
    have HLA : Hid (Dp.due l 3652059 = Dp.all l) := Dp.due_last l (fun x hx => (HOK.out.each x hx).2.1)
    obtain ⟨x, hx⟩ : ∃ x, Dp.due l n = x := ⟨_, rfl⟩
    obtain ⟨y, hy⟩ : ∃ y, Dp.all l = y := ⟨_, rfl⟩
    have HX : Hid (Dp.due l n = x ∧ Dp.due l 3652059 = y) := ⟨hx, by rw [HLA.out, hy]⟩
    have HPD : Hid (Dp.pd l n = x ∧ Dp.op l n = y - x) := by
      refine ⟨?_, ?_⟩
      · unfold Dp.pd; rw [if_pos HC.out, hx]
      · unfold Dp.op; rw [if_pos HC.out, hx, hy]
    rw [hx, hy] at hb
    obtain ⟨x0, x1, y1⟩ := hb
    have y2 : y ≤ 35184372088832 := by omega
    clear hEA hx hy y1 hfew
    go_enter Tryd.func3, Tryd.ntmps3
    go_wp2_with fail
    have h1 := pDPlan_any R L a cap s u t T m _ (L0.out.below D0.out.below) HL.out D0.out.row
    rw [HPL.out] at h1
    refine h1.mono ?_
    rintro e w1 ⟨pa, pc, rfl, hpc, hpr, b1⟩
    have D1 : Hid (DSt w w1 R L a L.length cap u t) := D0.out.on b1
    have P1 : Hid (RowD w1 pa pl.1) := hpr
    have HPC : Hid (pl.1.length ≤ pc) := hpc
    clear h1 hpc hpr b1
    have Q1 : Hid (RowD w1 la l) := Q0.out.below D1.out.below
    have h2 := pPaid_any l la lc n w1 HM.out Q1.out
    rw [HPD.out.1, HPD.out.2, HC.out] at h2
    go_wp2_with fail
    refine h2.mono ?_
    rintro e w2 ⟨rfl, b2⟩
    have D2 : Hid (DSt w w2 R L a L.length cap u t) := D1.out.on b2
    have P2 : Hid (RowD w2 pa pl.1) := P1.out.below b2
    clear b2 h2
    have g0 := D2.out.box 0 _ rfl
    have g1 := D2.out.box 1 _ rfl
    have g2 := D2.out.box 2 _ rfl
    have g3 := D2.out.box 3 _ rfl
    have g4 := D2.out.box 4 _ rfl
    have g5 := D2.out.box 5 _ rfl
    have g6 := D2.out.box 6 _ rfl
    have g7 := D2.out.box 7 _ rfl
    have t0 := D2.out.tm.1
    have t1 := D2.out.tm.2
    go_wp2_with fail
    have h3 := duesPlan_any R L a cap s u t T m w2 HL.out D2.out.row
    rw [HPL.out] at h3
    refine h3.mono ?_
    rintro e w3 ⟨qa, qc, rfl, hqc, hqr, b3⟩
    have D3 : Hid (DSt w w3 R L a L.length cap u t) := D2.out.on b3
    have P3 : Hid (RowD w3 pa pl.1) := P2.out.below b3
    have S3 : Hid (RowD w3 qa pl.1) := hqr
    have Q3 : Hid (RowD w3 la l) := Q0.out.below D3.out.below
    clear h3 hqc hqr b3 g0 g1 g2 g3 g4 g5 g6 g7 t0 t1
    have h4 := duesCheck_any l la lc w3 HM.out.1 Q3.out
    rw [HC.out] at h4
    go_wp2_with fail
    refine h4.mono ?_
    rintro e w4 ⟨rfl, b4⟩
    have D4 : Hid (DSt w w4 R L a L.length cap u t) := D3.out.on b4
    have P4 : Hid (RowD w4 pa pl.1) := P3.out.below b4
    have S4 : Hid (RowD w4 qa pl.1) := S3.out.below b4
    have Q4 : Hid (RowD w4 la l) := Q3.out.below b4
    clear b4 h4
    go_wp2_with fail
    have h4 := duePence_any l la lc n w4 HOK.out.few HEA.out Q4.out
    rw [HX.out.1] at h4
    refine h4.mono ?_
    rintro e w' ⟨rfl, hw'⟩
    subst hw'
    go_wp2_with fail
    have h5 := duePence_any l la lc 3652059 w' HOK.out.few HEA.out Q4.out
    rw [HX.out.2] at h5
    refine h5.mono ?_
    rintro e w'' ⟨rfl, hw''⟩
    subst hw''
    clear h4 h5
    go_wp2_with fail
    refine (dbegun_any _ (L0.out.below D4.out.below)).mono ?_
    rintro e w5 ⟨rfl, b5⟩
    have D5 : Hid (DSt w w5 R L a L.length cap u t) := D4.out.on b5
    have P5 : Hid (RowD w5 pa pl.1) := P4.out.below b5
    have S5 : Hid (RowD w5 qa pl.1) := S4.out.below b5
    have Q5 : Hid (RowD w5 la l) := Q4.out.below b5
    clear b5
    go_wp2_with fail
    refine (sameDues_at pl.1 pl.1 pa qa _ _ pc qc true w5 rfl rfl HPM.out HPM.out (decide_eq_true rfl) P5.out S5.out).mono ?_
    rintro e w6 ⟨rfl, b6⟩
    have D6 : Hid (DSt w w6 R L a L.length cap u t) := D5.out.on b6
    have Q6 : Hid (RowD w6 la l) := Q5.out.below b6
    clear b6
    have h7 := pDCheck_any l la lc w6 HM.out Q6.out
    rw [HC.out] at h7
    go_wp2_with fail
    refine h7.mono ?_
    rintro e w7 ⟨rfl, b7⟩
    have D7 : Hid (DSt w w7 R L a L.length cap u t) := D6.out.on b7
    clear b7 h7
    go_wp2
    go_ret
    exact ⟨rfl, D7.out.below⟩
  · have c1 : (c == 0) = false := by simpa using c0
    have HPD : Hid (Dp.pd l n = 0 ∧ Dp.op l n = 0) := by
      refine ⟨?_, ?_⟩
      · unfold Dp.pd; rw [HC.out, if_neg c0]
      · unfold Dp.op; rw [HC.out, if_neg c0]
    clear c0
    go_enter Tryd.func3, Tryd.ntmps3
    go_wp2_with fail
    have h1 := pDPlan_any R L a cap s u t T m _ (L0.out.below D0.out.below) HL.out D0.out.row
    rw [HPL.out] at h1
    refine h1.mono ?_
    rintro e w1 ⟨pa, pc, rfl, hpc, hpr, b1⟩
    have D1 : Hid (DSt w w1 R L a L.length cap u t) := D0.out.on b1
    have P1 : Hid (RowD w1 pa pl.1) := hpr
    have HPC : Hid (pl.1.length ≤ pc) := hpc
    clear h1 hpc hpr b1
    have Q1 : Hid (RowD w1 la l) := Q0.out.below D1.out.below
    have h2 := pPaid_any l la lc n w1 HM.out Q1.out
    rw [HPD.out.1, HPD.out.2, HC.out] at h2
    go_wp2_with fail
    refine h2.mono ?_
    rintro e w2 ⟨rfl, b2⟩
    have D2 : Hid (DSt w w2 R L a L.length cap u t) := D1.out.on b2
    have P2 : Hid (RowD w2 pa pl.1) := P1.out.below b2
    clear b2 h2
    have g0 := D2.out.box 0 _ rfl
    have g1 := D2.out.box 1 _ rfl
    have g2 := D2.out.box 2 _ rfl
    have g3 := D2.out.box 3 _ rfl
    have g4 := D2.out.box 4 _ rfl
    have g5 := D2.out.box 5 _ rfl
    have g6 := D2.out.box 6 _ rfl
    have g7 := D2.out.box 7 _ rfl
    have t0 := D2.out.tm.1
    have t1 := D2.out.tm.2
    go_wp2_with fail
    have h3 := duesPlan_any R L a cap s u t T m w2 HL.out D2.out.row
    rw [HPL.out] at h3
    refine h3.mono ?_
    rintro e w3 ⟨qa, qc, rfl, hqc, hqr, b3⟩
    have D3 : Hid (DSt w w3 R L a L.length cap u t) := D2.out.on b3
    have P3 : Hid (RowD w3 pa pl.1) := P2.out.below b3
    have S3 : Hid (RowD w3 qa pl.1) := hqr
    have Q3 : Hid (RowD w3 la l) := Q0.out.below D3.out.below
    clear h3 hqc hqr b3 g0 g1 g2 g3 g4 g5 g6 g7 t0 t1
    have h4 := duesCheck_any l la lc w3 HM.out.1 Q3.out
    rw [HC.out] at h4
    go_wp2_with fail
    refine h4.mono ?_
    rintro e w4 ⟨rfl, b4⟩
    have D4 : Hid (DSt w w4 R L a L.length cap u t) := D3.out.on b4
    have P4 : Hid (RowD w4 pa pl.1) := P3.out.below b4
    have S4 : Hid (RowD w4 qa pl.1) := S3.out.below b4
    have Q4 : Hid (RowD w4 la l) := Q3.out.below b4
    clear b4 h4
    go_wp2_with fail
    refine (dbegun_any _ (L0.out.below D4.out.below)).mono ?_
    rintro e w5 ⟨rfl, b5⟩
    have D5 : Hid (DSt w w5 R L a L.length cap u t) := D4.out.on b5
    have P5 : Hid (RowD w5 pa pl.1) := P4.out.below b5
    have S5 : Hid (RowD w5 qa pl.1) := S4.out.below b5
    have Q5 : Hid (RowD w5 la l) := Q4.out.below b5
    clear b5
    go_wp2_with fail
    refine (sameDues_at pl.1 pl.1 pa qa _ _ pc qc true w5 rfl rfl HPM.out HPM.out (decide_eq_true rfl) P5.out S5.out).mono ?_
    rintro e w6 ⟨rfl, b6⟩
    have D6 : Hid (DSt w w6 R L a L.length cap u t) := D5.out.on b6
    have Q6 : Hid (RowD w6 la l) := Q5.out.below b6
    clear b6
    have h7 := pDCheck_any l la lc w6 HM.out Q6.out
    rw [HC.out] at h7
    go_wp2_with fail
    refine h7.mono ?_
    rintro e w7 ⟨rfl, b7⟩
    have D7 : Hid (DSt w w7 R L a L.length cap u t) := D6.out.on b7
    clear b7 h7
    go_wp2
    go_ret
    exact ⟨rfl, D7.out.below⟩
end Go.Proofs.YtehopfpcikbaiaaDoor
