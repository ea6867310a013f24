/- What must be in any case of dues. -/
import Derived.Test.YtehopfpcikbaiaaDoorDuP
import Derived.Test.YtehopfpcikbaiaaDoorVCntToWBegun
namespace Go.Proofs.YtehopfpcikbaiaaDoor
open Go.RowKit Go.BigFrame

namespace Dp
theorem b_v : Cal.vld 2022 1 1 := by unfold Cal.vld; decide
theorem b_n : Cal.num 2022 1 1 = 738156 := by decide
theorem b_nth (k x : Int) (hk : Trm.bad 3 1 738156 k 1000 = 0) (hx : Trm.day 2022 1 1 3 1 k = x) (h0 : x ≠ 0) : Trm.nthF 738156 3 1 k = (x, 0) := by
  unfold Trm.nthF
  rw [if_pos hk, Cal.dt_is b_v b_n]
  show (Trm.day 2022 1 1 3 1 k, Trm.over (Trm.day 2022 1 1 3 1 k)) = _
  rw [hx]
  unfold Trm.over
  rw [if_neg h0]
theorem b_f (k : Nat) (x y : Int) (h : Trm.nthF 738156 3 1 k = (x, 0)) (hy : Wk.told Wk.U Wk.UL (Wk.next Wk.U Wk.UL x) = (y, 0)) : fk Wk.U Wk.UL 738156 3 1 k = (y, 0) := by
  unfold fk
  rw [h, if_pos rfl]
  exact hy
theorem b_w1 : Wk.isW Wk.U Wk.UL 738187 = true := by decide +kernel
theorem b_w2 : Wk.isW Wk.U Wk.UL 738215 = true := by decide +kernel
theorem b_next (x : Int) (h1 : 1 ≤ x) (h2 : x ≤ 3651693) (h : Wk.isW Wk.U Wk.UL x = true) : Wk.told Wk.U Wk.UL (Wk.next Wk.U Wk.UL x) = (x, 0) := by
  rw [Wk.U_told, Wk.next_in Wk.U Wk.UL x h1 h2, if_pos h]
theorem b_f0 : fk Wk.U Wk.UL 738156 3 1 0 = (738159, 0) := b_f 0 738156 738159 (b_nth 0 738156 (by decide) (by decide) (by decide)) Wk.U_next
theorem b_f1 : fk Wk.U Wk.UL 738156 3 1 1 = (738187, 0) := b_f 1 738187 738187 (b_nth 1 738187 (by decide) (by decide) (by decide)) (b_next _ (by decide) (by decide) b_w1)
theorem b_f2 : fk Wk.U Wk.UL 738156 3 1 2 = (738215, 0) := b_f 2 738215 738215 (b_nth 2 738215 (by decide) (by decide) (by decide)) (b_next _ (by decide) (by decide) b_w2)
def bl : List Du := [(738159, 334), (738187, 333), (738215, 333)]
theorem b_ev : Shr.evn 1000 3 = [334, 333, 333] := by decide
theorem b_ec : Shr.ecode 1000 3 = 0 := by decide
theorem b_plan : plan (fk Wk.U Wk.UL 738156 3 1) (Shr.evn 1000 3) (Shr.ecode 1000 3) = (bl, 0) := by
  rw [b_ev, b_ec]
  have hp : pE (fk Wk.U Wk.UL 738156 3 1) 0 [(334 : Int), 333, 333].length = 0 := by
    show pE (fk Wk.U Wk.UL 738156 3 1) 0 3 = 0
    unfold pE
    rw [b_f0, if_pos rfl]
    unfold pE
    rw [b_f1, if_pos rfl]
    unfold pE
    rw [b_f2, if_pos rfl]
    rfl
  unfold plan
  rw [if_pos rfl, if_pos hp]
  show ([((fk Wk.U Wk.UL 738156 3 1 0).1, (334 : Int)), ((fk Wk.U Wk.UL 738156 3 1 1).1, 333), ((fk Wk.U Wk.UL 738156 3 1 2).1, 333)], (0 : Int)) = _
  rw [b_f0, b_f1, b_f2]
  rfl
theorem b_chk : chk bl = 0 := by decide
theorem b_pd : pd bl 738187 = 667 := by decide
theorem b_op : op bl 738187 = 333 := by decide
end Dp
theorem months_any (n : Int) (w : World) :
    Calls Tryd.prog 24 #[.int .i64 n] w fun e w' => e = .returned (.agg #[.int .i64 3, .int .i64 n]) ∧ Below w.heap.size w w' := by
  go_enter Tryd.func24, Tryd.ntmps24
  go_wp2
  exact bodyPost_ret (v := .agg #[.int .i64 3, .int .i64 n]) (by simp [results, Tryd.results24, go_sem]) rfl ⟨rfl, below_box _ _⟩
set_option maxRecDepth 100000 in
set_option maxHeartbeats 2000000 in
theorem dbegun_any (w : World) (hw : Laid w) :
    Calls Tryd.prog 11 #[] w fun e w' => e = .returned (.bool true) ∧ Below w.heap.size w w' := by
  have HW : Hid (Laid w) := hw
  clear hw
  go_enter Tryd.func11, Tryd.ntmps11
  go_wp2_with fail
  refine (mk_any _ _ _ _).mono ?_; rintro e w1 ⟨rfl, b1⟩
  have B1 : Hid (Below w.heap.size w w1) := b1
  clear b1
  go_wp2_with fail
  refine (day_at 2022 1 1 738156 _ (HW.out.below B1.out) Dp.b_v Dp.b_n).mono ?_; rintro e w2 ⟨rfl, b2⟩
  have B2 : Hid (Below w.heap.size w w2) := below_on B1.out (Nat.le_refl _) b2
  clear b2
  go_wp2_with fail
  refine (usual_any _).mono ?_; rintro e w3 ⟨a3, rfl, r3, b3⟩
  have B3 : Hid (Below w.heap.size w w3) := below_on B2.out (Nat.le_refl _) b3
  have R3 : Hid (Row4 w3 a3 Wk.UL) := r3
  clear b3 r3
  go_wp2_with fail
  refine (months_any _ _).mono ?_; rintro e w4 ⟨rfl, b4⟩
  have B4 : Hid (Below w.heap.size w w4) := below_on B3.out (Nat.le_refl _) b4
  have R4 : Hid (Row4 w4 a3 Wk.UL) := R3.out.below b4
  clear b4
  have hpl := pDPlan_any Wk.U Wk.UL a3 3 738156 3 1 1000 3 w4 (HW.out.below B4.out) (by decide) R4.out
  rw [Dp.b_plan] at hpl
  go_wp2_with fail
  refine hpl.mono ?_
  rintro e w5 ⟨la, lc, rfl, hlc, hrow, b5⟩
  have B5 : Hid (Below w.heap.size w w5) := below_on B4.out (Nat.le_refl _) b5
  have R5 : Hid (RowD w5 la Dp.bl) := hrow
  have HLC : Hid (Dp.bl.length ≤ lc) := hlc
  clear b5 hrow hpl hlc
  have hpd := pPaid_any Dp.bl la lc 738187 w5 ⟨by decide, HLC.out⟩ R5.out
  rw [Dp.b_pd, Dp.b_op, Dp.b_chk] at hpd
  go_wp2_with fail
  refine hpd.mono ?_
  rintro e w6 ⟨rfl, b6⟩
  have B6 : Hid (Below w.heap.size w w6) := below_on B5.out (Nat.le_refl _) b6
  have R6 : Hid (RowD w6 la Dp.bl) := R5.out.below b6
  clear b6 hpd
  have RB : Hid (RowD (w6.alloc (.cells #[.int .i64 738159, .int .i64 334, .int .i64 738187, .int .i64 333, .int .i64 738215, .int .i64 333] 42)) (some ⟨w6.heap.size, 0, none⟩) Dp.bl) := lit_rowD w6 Dp.bl _ rfl (by decide)
  have R7 : Hid (RowD (w6.alloc (.cells #[.int .i64 738159, .int .i64 334, .int .i64 738187, .int .i64 333, .int .i64 738215, .int .i64 333] 42)) la Dp.bl) := R6.out.below (below_box w6 _)
  have B7 : Hid (Below w.heap.size w (w6.alloc (.cells #[.int .i64 738159, .int .i64 334, .int .i64 738187, .int .i64 333, .int .i64 738215, .int .i64 333] 42))) := below_on B6.out (Nat.le_refl _) (below_box w6 _)
  go_wp2_with fail
  refine (sameDues_at Dp.bl Dp.bl la _ 3 3 lc 3 true _ rfl rfl (by decide) (by decide) (by decide) R7.out RB.out).mono ?_; rintro e w8 ⟨rfl, b8⟩
  have B8 : Hid (Below w.heap.size w w8) := below_on B7.out (Nat.le_refl _) b8
  clear b8
  go_wp2_with fail
  refine (usual_any _).mono ?_; rintro e w9 ⟨a9, rfl, r9, b9⟩
  have B9 : Hid (Below w.heap.size w w9) := below_on B8.out (Nat.le_refl _) b9
  have R9 : Hid (Row4 w9 a9 Wk.UL) := r9
  clear b9 r9
  have hck := wCheck Wk.U Wk.UL a9 3 w9 (by decide) (HW.out.below B9.out) R9.out
  rw [Wk.U_chk] at hck
  go_wp2_with fail
  refine hck.mono ?_; rintro e w10 ⟨rfl, b10⟩
  have B10 : Hid (Below w.heap.size w w10) := below_on B9.out (Nat.le_refl _) b10
  clear b10 hck
  go_wp2
  go_ret
  exact ⟨rfl, B10.out⟩
end Go.Proofs.YtehopfpcikbaiaaDoor
