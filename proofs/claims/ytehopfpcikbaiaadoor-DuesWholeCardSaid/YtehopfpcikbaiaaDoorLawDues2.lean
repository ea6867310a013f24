/- The walk of DuesWhole. -/
import Derived.Test.YtehopfpcikbaiaaDoorDuBeg
import Derived.Test.YtehopfpcikbaiaaDoorDp2
import Derived.BigQuiet
import Derived.Lib.QuietBelow
namespace Go.Proofs.YtehopfpcikbaiaaDoor
open Go.RowKit Go.BigFrame

set_option maxRecDepth 100000 in
set_option maxHeartbeats 8000000 in
theorem duesWhole_any (R : Wk.Rst) (L : List Wk.Rl) (a : Option Addr) (cap : Nat) (s u t T m : Int) (w : World) (hL : L.length ≤ maxLen) (hw : Laid w) (hr : Row4 w a L) :
    Calls Tryd.prog 4 #[calV R a L.length cap, .int .i64 s, .agg #[.int .i64 u, .int .i64 t], .int .i64 T, .int .i64 m] w fun e w' => e = .returned (.bool true) ∧ Below w.heap.size w w' := by
  have HL : Hid (L.length ≤ maxLen) := hL
  have D0 : Hid (DSt w _ R L a L.length cap u t) := DSt.start hr
  have L0 : Hid (Laid w) := hw
  obtain ⟨l, c, hpl⟩ : ∃ l c, Dp.plan (Dp.fk R L s u t) (Shr.evn T m) (Shr.ecode T m) = (l, c) := ⟨_, _, rfl⟩
  have HPL : Hid (Dp.plan (Dp.fk R L s u t) (Shr.evn T m) (Shr.ecode T m) = (l, c)) := hpl
  clear hL hr hw hpl
  by_cases c0 : c = 0
  · subst c0
    have HWH : Hid (Dp.Whole R L s T m l) := Dp.whole HPL.out
    have hpos := HWH.out.pos
    have hfew := HWH.out.few
    obtain ⟨N, hN⟩ : ∃ N, l.length = N := ⟨_, rfl⟩
    have HN : Hid (l.length = N) := hN
    have HNM : Hid ((N : Int) = m) := by have := HWH.out.len; rw [hN] at this; exact this
    rw [hN] at hpos hfew
    go_enter Tryd.func4, Tryd.ntmps4
    go_wp2_with fail
    have h1 := pDPlan_any R L a cap s u t T m _ (L0.out.below D0.out.below) HL.out D0.out.row
    rw [HPL.out] at h1
    refine h1.mono ?_
    rintro e w1 ⟨pa, pc, rfl, hpc, hpr, b1⟩
    have D1 : Hid (DSt w w1 R L a L.length cap u t) := D0.out.on b1
    have P1 : Hid (RowD w1 pa l) := hpr
    have HPC : Hid (l.length ≤ pc) := hpc
    clear h1 hpc hpr b1
    go_wp2_with fail
    refine (dbegun_any _ (L0.out.below D1.out.below)).mono ?_
    rintro e w2 ⟨rfl, b2⟩
    have D2 : Hid (DSt w w2 R L a L.length cap u t) := D1.out.on b2
    have P2 : Hid (RowD w2 pa l) := P1.out.below b2
    clear b2
    go_wp2
    go_loopw [13, 14] (fun sv iv wr => ∃ k : Nat, k ≤ N ∧ iv = .int .i64 k ∧ sv = .int .i64 (Dp.all (l.take k)) ∧ Below w2.heap.size w2 wr) (fun _ iv _ => N - (intOf iv).toNat)
    case atStart => exact ⟨0, Nat.zero_le _, rfl, rfl, Below.refl _ _⟩
    case round =>
      obtain ⟨k, hk, rfl, rfl, hb⟩ := hrel
      have HB : Hid (Below w2.heap.size w2 wr) := hb
      have D3 : Hid (DSt w wr R L a L.length cap u t) := D2.out.on hb
      have P3 : Hid (RowD wr pa l) := P2.out.below hb
      clear hb
      by_cases hlt : k < N
      · have hlt' : (k : Int) < (N : Int) := by omega
        obtain ⟨b, off, d, p, rfl, hbz, hxk, c1, c2⟩ := P3.out.lies (k := k) (by rw [HN.out]; exact hlt)
        obtain ⟨b', off', d0, p0, e', -, hx0, -, c3⟩ := P3.out.lies (k := 0) (by rw [HN.out]; omega)
        obtain ⟨rfl, rfl⟩ : b = b' ∧ off = off' := by simpa using e'
        simp only [Nat.zero_mul, Nat.add_zero] at c3
        have hea := HWH.out.each k (d, p) (d0, p0) hxk hx0
        obtain ⟨f1, f2, f3, f4, f5, f6, f7⟩ := hea
        simp only at f1 f2 f3 f4 f5 f6 f7
        have hnn : ∀ x ∈ l.take k, 0 ≤ x.2 ∧ x.2 ≤ 1099511627776 := fun x hx => by
          obtain ⟨i, hi, rfl⟩ := List.mem_iff_getElem.1 (List.mem_of_mem_take hx)
          have := HWH.out.each i _ (d0, p0) (List.getElem?_eq_getElem hi) hx0
          exact ⟨this.2.2.2.2.2.1, this.2.2.2.2.2.2⟩
        have hbd := Dp.due_bd (l.take k) 0 hnn
        rw [List.length_take, HN.out, Nat.min_eq_left hk] at hbd
        have h00 := HWH.out.each 0 (d0, p0) (d0, p0) hx0 hx0
        have p01 : p0 ≤ 1099511627776 := h00.2.2.2.2.2.2
        have p02 : 0 ≤ p0 := h00.2.2.2.2.2.1
        have HXK : Hid (l[k]? = some (d, p)) := hxk
        have HT : Hid (_) := Dp.all_take l k (d, p) hxk
        have HIS : Hid (∀ W, Below wr.heap.size wr W → Calls Tryd.prog 14 #[calV R a L.length cap, .int .i64 d] W fun e w' => e = .returned (.tuple #[.bool true, .int .i64 0]) ∧ Below W.heap.size W w') := fun W hW => by
          have := pIs R L a cap d W HL.out (L0.out.below (D3.out.on hW).below) (D3.out.on hW).row
          rw [f1, f2] at this
          exact this
        obtain ⟨s0, hs0⟩ : ∃ s0, Dp.all (l.take k) = s0 := ⟨_, rfl⟩
        have HS0 : Hid (Dp.all (l.take k) = s0) := hs0
        rw [hs0] at hbd ⊢
        have s1 : 0 ≤ s0 := by omega
        have s2 : s0 ≤ 35184372088832 := by omega
        have HV : Hid (Dp.all (l.take (k + 1)) = s0 + p) := by show _ = _; rw [HT.out, HS0.out]
        have v1 : decide (d < s) = false := decide_eq_false (by omega)
        have v2 : decide (p0 < p) = false := decide_eq_false (by omega)
        have v3 : decide (p < p0 - 1) = false := decide_eq_false (by omega)
        have g0 := fun d os => cell_regrown (D3.out.box 0 _ rfl) d os
        have g1 := fun d os => cell_regrown (D3.out.box 1 _ rfl) d os
        have g2 := fun d os => cell_regrown (D3.out.box 2 _ rfl) d os
        have g3 := fun d os => cell_regrown (D3.out.box 3 _ rfl) d os
        have g4 := fun d os => cell_regrown (D3.out.box 4 _ rfl) d os
        have g5 := fun d os => cell_regrown (D3.out.box 5 _ rfl) d os
        have g6 := fun d os => cell_regrown (D3.out.box 6 _ rfl) d os
        have g7 := fun d os => cell_regrown (D3.out.box 7 _ rfl) d os
        have g8 := fun d os => cell_regrown c1 d os
        clear hbd hs0 e' hnn f1 f2 f3 f4 f5 hxk h00
        by_cases hk0 : k = 0
        · subst hk0
          simp only [Nat.zero_mul, Nat.add_zero] at c1 c2 g8
          obtain rfl : p = p0 := by have := c2.symm.trans c3; simpa using this
          clear hx0 c3
          go_wp2
          refine wp_region_quiet_below (by kernel_rfl) (by kernel_rfl) ?_
          repeat go_big_quiet_step (first | (go_at_call 14; exact Calls.regrown_of (HIS.out _ (below_regrown _ _ _))))
          refine wpQuiet_nil ?_
          intro _ hw'
          obtain ⟨⟨dq, osq⟩, hw''⟩ := hw'
          subst hw''
          have B3 : Hid (Below wr.heap.size wr (Go.Sort.grow (redrawn wr dq) osq)) := below_regrown _ _ _
          generalize Go.Sort.grow (redrawn wr dq) osq = W3 at *
          clear g0 g1 g2 g3 g4 g5 g6 g7
          have q1 := fun d os => cell_regrown ((B3.out.cell (p := ⟨b, off, none⟩) hbz).trans c1) d os
          have q2 := fun d os => cell_regrown ((B3.out.cell (p := ⟨b, off + 1, none⟩) hbz).trans c2) d os
          go_wp2
          refine wp_region_quiet_below (by kernel_rfl) (by kernel_rfl) ?_
          repeat go_big_quiet_step (fail)
          refine wpQuiet_nil ?_
          intro _ hw'
          obtain ⟨⟨dq2, osq2⟩, hw''⟩ := hw'
          subst hw''
          have B4 : Hid (Below wr.heap.size wr (Go.Sort.grow (redrawn W3 dq2) osq2)) := below_on B3.out (Nat.le_refl _) (below_regrown _ _ _)
          have c5 := q2 dq2 osq2
          generalize Go.Sort.grow (redrawn W3 dq2) osq2 = W4 at *
          clear q1 q2
          go_wp2
          go_roundw
          case rel => exact ⟨0 + 1, by omega, by go_num, by rw [HV.out], below_on HB.out (Nat.le_refl _) B4.out⟩
          case measure => simp [intOf]; omega
        · obtain ⟨j, rfl⟩ : ∃ j, k = j + 1 := ⟨k - 1, by omega⟩
          obtain ⟨b', off', d', p', e', -, hxj, c4, -⟩ := P3.out.lies (k := j) (by rw [HN.out]; omega)
          obtain ⟨rfl, rfl⟩ : b = b' ∧ off = off' := by simpa using e'
          have v4 : decide (d < d') = false := decide_eq_false (by have := HWH.out.rises j (d', p') (d, p) hxj HXK.out; simp only at this; omega)
          have ej : ((j + 1 : Nat) : Int) - 1 = (j : Int) := by omega
          have hj0 : (0 : Int) < ((j + 1 : Nat) : Int) := by omega
          have hjn : (j : Int) < (N : Int) := by omega
          clear e' hxj hk0 hx0
          go_wp2
          refine wp_region_quiet_below (by kernel_rfl) (by kernel_rfl) ?_
          repeat go_big_quiet_step (first | (go_at_call 14; exact Calls.regrown_of (HIS.out _ (below_regrown _ _ _))))
          refine wpQuiet_nil ?_
          intro _ hw'
          obtain ⟨⟨dq, osq⟩, hw''⟩ := hw'
          subst hw''
          have B3 : Hid (Below wr.heap.size wr (Go.Sort.grow (redrawn wr dq) osq)) := below_regrown _ _ _
          generalize Go.Sort.grow (redrawn wr dq) osq = W3 at *
          clear g0 g1 g2 g3 g4 g5 g6 g7
          have q1 := fun d os => cell_regrown ((B3.out.cell (p := ⟨b, off + (j + 1) * 2, none⟩) hbz).trans c1) d os
          have q2 := fun d os => cell_regrown ((B3.out.cell (p := ⟨b, off + (j + 1) * 2 + 1, none⟩) hbz).trans c2) d os
          have q3 := fun d os => cell_regrown ((B3.out.cell (p := ⟨b, off + 1, none⟩) hbz).trans c3) d os
          have q4 := fun d os => cell_regrown ((B3.out.cell (p := ⟨b, off + j * 2, none⟩) hbz).trans c4) d os
          go_wp2
          refine wp_region_quiet_below (by kernel_rfl) (by kernel_rfl) ?_
          repeat go_big_quiet_step (fail)
          refine wpQuiet_nil ?_
          intro _ hw'
          obtain ⟨⟨dq2, osq2⟩, hw''⟩ := hw'
          subst hw''
          have B4 : Hid (Below wr.heap.size wr (Go.Sort.grow (redrawn W3 dq2) osq2)) := below_on B3.out (Nat.le_refl _) (below_regrown _ _ _)
          have c5 := q2 dq2 osq2
          generalize Go.Sort.grow (redrawn W3 dq2) osq2 = W4 at *
          clear q1 q2 q3
          go_wp2
          go_roundw
          case rel => exact ⟨(j + 1) + 1, by omega, by go_num, by rw [HV.out], below_on HB.out (Nat.le_refl _) B4.out⟩
          case measure => simp [intOf]; omega
      · obtain rfl : k = N := by omega
        have HTK : Hid (l.take k = l) := by show _ = _; rw [List.take_of_length_le (by rw [HN.out]; exact Nat.le_refl _)]
        rw [HTK.out, HWH.out.all]
        have v1 : ((k : Int) == m) = true := by rw [beq_iff_eq]; exact HNM.out
        have h7 := pDCheck_any l pa pc wr ⟨by rw [HN.out]; unfold maxLen; omega, HPC.out⟩ P3.out
        rw [HWH.out.ok, HN.out] at h7
        go_wp2_with fail
        refine h7.mono ?_
        rintro e w5 ⟨rfl, b5⟩
        have D5 : Hid (DSt w w5 R L a L.length cap u t) := D3.out.on b5
        clear b5 h7
        go_wp2
        go_ret
        exact ⟨rfl, D5.out.below⟩
  · have c1 : (c != 0) = true := by simpa using c0
    obtain rfl : l = [] := by
      have := HPL.out
      unfold Dp.plan at this
      split at this
      · split at this
        · exact absurd (congrArg Prod.snd this).symm c0
        · exact (congrArg Prod.fst this).symm
      · exact (congrArg Prod.fst this).symm
    clear c0
    go_enter Tryd.func4, Tryd.ntmps4
    go_wp2_with fail
    have h1 := pDPlan_any R L a cap s u t T m _ (L0.out.below D0.out.below) HL.out D0.out.row
    rw [HPL.out] at h1
    refine h1.mono ?_
    rintro e w1 ⟨pa, pc, rfl, hpc, hpr, b1⟩
    have D1 : Hid (DSt w w1 R L a L.length cap u t) := D0.out.on b1
    clear h1 hpc hpr b1
    go_wp2_with fail
    refine (dbegun_any _ (L0.out.below D1.out.below)).mono ?_
    rintro e w2 ⟨rfl, b2⟩
    have D2 : Hid (DSt w w2 R L a L.length cap u t) := D1.out.on b2
    clear b2
    go_wp2
    go_ret
    exact ⟨rfl, D2.out.below⟩
end Go.Proofs.YtehopfpcikbaiaaDoor
