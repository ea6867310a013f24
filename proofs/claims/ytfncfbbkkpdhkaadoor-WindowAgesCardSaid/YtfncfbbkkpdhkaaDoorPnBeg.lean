/- What must be in any case of persons. -/
import Derived.Test.YtfncfbbkkpdhkaaDoorPnP
import Derived.Lib.SmallJoins
import Derived.BigQuiet
import Derived.Lib.QuietBelow
namespace Go.Proofs.YtfncfbbkkpdhkaaDoor
open Go.RowKit Go.BigFrame

namespace Prs
theorem age_of {y m d yn mn dn s n x : Int} (v : Cal.vld y m d) (e : Cal.num y m d = s) (vn : Cal.vld yn mn dn) (en : Cal.num yn mn dn = n) (hle : s ≤ n) (hx : byDate y m d yn n = x) (h : x ≤ 150) : AgeAns s n x 0 := by
  have ha := age_is y m d yn mn dn v vn (by omega)
  rw [en, hx] at ha
  exact .inr (.inr ⟨not_bad v e, not_bad vn en, hle, y, m, d, _, v, e, ha, .inr ⟨h, rfl, rfl⟩⟩)
theorem v1 : Cal.vld 2004 2 29 := by unfold Cal.vld; decide
theorem n1 : Cal.num 2004 2 29 = 731640 := by decide
theorem v2 : Cal.vld 2022 2 28 := by unfold Cal.vld; decide
theorem n2 : Cal.num 2022 2 28 = 738214 := by decide
theorem v3 : Cal.vld 2022 2 27 := by unfold Cal.vld; decide
theorem n3 : Cal.num 2022 2 27 = 738213 := by decide
theorem pb1 : AgeAns 731640 738214 18 0 := age_of v1 n1 v2 n2 (by decide) (by decide) (by decide)
theorem pb2 : AgeAns 731640 738213 17 0 := age_of v1 n1 v3 n3 (by decide) (by decide) (by decide)
theorem nb1 : ¬ bad 731640 := by decide
theorem t18 : tns 731640 18 = 738214 := by rw [tns_is v1 n1]; decide
theorem t0 : tns 731640 0 = 731640 := by rw [tns_is v1 n1]; decide
theorem t19 : tns 731640 19 = 738579 := by rw [tns_is v1 n1]; decide
theorem t26 : tns 731640 26 = 741136 := by rw [tns_is v1 n1]; decide
theorem pb3 : turnsV 731640 18 = 738214 ∧ turnsE 731640 18 = 0 := by
  have h : ¬ (bad 731640 ∨ (18 : Int) < 0 ∨ (150 : Int) < 18) := by decide
  unfold turnsV turnsE
  rw [if_neg h, if_neg h, t18, if_neg (by decide)]
  exact ⟨rfl, rfl⟩
theorem w1 : winE 731640 ⟨0, 17, 50⟩ = 0 := by
  unfold winE
  have e : (17 : Int) + 1 = 18 := rfl
  rw [if_neg (by decide), if_neg (by show ¬ tns 731640 (17 + 1) = 0; rw [e, t18]; decide)]
theorem w2 : winE 731640 ⟨16, 25, 34⟩ = 0 := by
  unfold winE
  have e : (25 : Int) + 1 = 26 := rfl
  rw [if_neg (by decide), if_neg (by show ¬ tns 731640 (25 + 1) = 0; rw [e, t26]; decide)]
theorem w3 : winE 731640 ⟨18, 18, 0⟩ = 0 := by
  unfold winE
  have e : (18 : Int) + 1 = 19 := rfl
  rw [if_neg (by decide), if_neg (by show ¬ tns 731640 (18 + 1) = 0; rw [e, t19]; decide)]
theorem pb5 : winF 731640 ⟨18, 18, 0⟩ = 738214 ∧ winT 731640 ⟨18, 18, 0⟩ = 738579 := by
  unfold winF winT
  rw [if_pos w3, if_pos w3]
  exact ⟨t18, t19⟩
def kl2 : List Kl := [⟨0, 17, 50⟩, ⟨16, 25, 34⟩]
theorem pb4 : PctAns 731640 kl2 738214 34 0 := by
  have hw : winsE 731640 kl2 = 0 := by
    show (if winE 731640 ⟨0, 17, 50⟩ = 0 then (if winE 731640 ⟨16, 25, 34⟩ = 0 then 0 else _) else _) = _
    rw [if_pos w1, if_pos w2]
  refine ⟨?_, .inr ⟨rfl, 18, 0, pb1, .inl ⟨rfl, by decide⟩⟩⟩
  unfold pctE
  rw [if_neg (by decide), if_pos hw, if_neg (by decide)]
theorem pb6 : AgeAns 738214 731640 0 4 := .inr (.inl ⟨by decide, by decide, by decide, rfl, rfl⟩)
end Prs
theorem pSpan_any (x y : Int) (w : World) :
    Calls Tryd.prog 27 #[.int .i64 x, .int .i64 y] w fun e w' => e = .returned (.agg #[.int .i64 x, .int .i64 y]) ∧ Below w.heap.size w w' := by
  go_enter Tryd.func27, Tryd.ntmps27
  go_wp2
  exact bodyPost_ret (v := .agg #[.int .i64 x, .int .i64 y]) (by simp [results, Tryd.results27, go_sem]) rfl ⟨rfl, below_box _ _⟩
theorem rowK_kl2 (w : World) : RowK (w.alloc (.cells #[.int .i64 0, .int .i64 17, .int .i64 50, .int .i64 16, .int .i64 25, .int .i64 34] 23)) (some ⟨w.heap.size, 0, none⟩) Prs.kl2 := by
  refine .inr ⟨w.heap.size, 0, rfl, by simp, fun i c hi => ?_⟩
  match i, hi with
  | 0, hi => simp [Prs.kl2] at hi; subst hi; exact ⟨by simp, by simp, by simp⟩
  | 1, hi => simp [Prs.kl2] at hi; subst hi; exact ⟨by simp, by simp, by simp⟩
  | i + 2, hi => simp [Prs.kl2] at hi
set_option maxRecDepth 100000 in
set_option maxHeartbeats 4000000 in
theorem pbegun_any (w : World) (hw : Laid w) :
    Calls Tryd.prog 15 #[] w fun e w' => e = .returned (.bool true) ∧ Below w.heap.size w w' := by
  have HW : Hid (Laid w) := hw
  clear hw
  go_enter Tryd.func15, Tryd.ntmps15
  go_wp2_with fail
  refine (mk_any _ _ _ _).mono ?_; rintro e w1 ⟨rfl, b1⟩
  have B1 : Hid (Below w.heap.size w w1) := b1
  clear b1
  go_wp2_with fail
  refine (day_at 2004 2 29 731640 _ (HW.out.below B1.out) Prs.v1 Prs.n1).mono ?_; rintro e w2 ⟨rfl, b2⟩
  have B2 : Hid (Below w.heap.size w w2) := below_next B1.out (Nat.le_refl _) b2
  clear b2
  go_wp2_with fail
  refine (mk_any _ _ _ _).mono ?_; rintro e w3 ⟨rfl, b3⟩
  have B3 : Hid (Below w.heap.size w w3) := below_next B2.out (Nat.le_refl _) b3
  clear b3
  go_wp2_with fail
  refine (day_at 2022 2 28 738214 _ (HW.out.below B3.out) Prs.v2 Prs.n2).mono ?_; rintro e w4 ⟨rfl, b4⟩
  have B4 : Hid (Below w.heap.size w w4) := below_next B3.out (Nat.le_refl _) b4
  clear b4
  go_wp2_with fail
  refine (pAge_any 731640 738214 18 0 _ (HW.out.below B4.out) Prs.pb1).mono ?_; rintro e w5 ⟨rfl, b5⟩
  have B5 : Hid (Below w.heap.size w w5) := below_next B4.out (Nat.le_refl _) b5
  clear b5
  go_wp2_with fail
  refine (pAge_any 731640 738213 17 0 _ (HW.out.below B5.out) Prs.pb2).mono ?_; rintro e w6 ⟨rfl, b6⟩
  have B6 : Hid (Below w.heap.size w w6) := below_next B5.out (Nat.le_refl _) b6
  clear b6
  go_wp2_with fail
  refine (pTurns_at 731640 18 738214 0 _ (HW.out.below B6.out) Prs.pb3.1 Prs.pb3.2).mono ?_; rintro e w7 ⟨rfl, b7⟩
  have B7 : Hid (Below w.heap.size w w7) := below_next B6.out (Nat.le_refl _) b7
  clear b7
  go_wp2_with fail
  have RL : Hid (RowK (w7.alloc (.cells #[.int .i64 0, .int .i64 17, .int .i64 50, .int .i64 16, .int .i64 25, .int .i64 34] 23)) (some ⟨w7.heap.size, 0, none⟩) Prs.kl2) := rowK_kl2 w7
  have BX : Hid (Below w.heap.size w (w7.alloc (.cells #[.int .i64 0, .int .i64 17, .int .i64 50, .int .i64 16, .int .i64 25, .int .i64 34] 23))) := below_next B7.out (Nat.le_refl _) (below_box _ _)
  refine (pPercent_any 731640 Prs.kl2 _ 2 738214 34 0 _ (HW.out.below BX.out) (by decide) RL.out Prs.pb4).mono ?_; rintro e w8 ⟨rfl, b8⟩
  have B8 : Hid (Below w.heap.size w w8) := below_next BX.out (Nat.le_refl _) b8
  clear b8
  go_wp2_with fail
  refine (pWindow_at 731640 18 18 0 738214 738579 0 _ (HW.out.below B8.out) Prs.pb5.1 Prs.pb5.2 Prs.w3).mono ?_; rintro e w9 ⟨rfl, b9⟩
  have B9 : Hid (Below w.heap.size w w9) := below_next B8.out (Nat.le_refl _) b9
  have K9 : Hid (_) := below_box w9 (.cells #[.int .i64 738214, .int .i64 738579] 29)
  clear b9
  go_wp2_with fail
  refine (pAge_any 738214 731640 0 4 _ (HW.out.below (below_next B9.out (Nat.le_refl _) K9.out)) Prs.pb6).mono ?_; rintro e w10 ⟨rfl, b10⟩
  have B10 : Hid (Below w.heap.size w w10) := below_next (below_next B9.out (Nat.le_refl _) K9.out) (Nat.le_refl _) b10
  have k0 : w10.cell? ⟨w9.heap.size, 0, none⟩ = some (.int .i64 738214) := ((bcell b10).1 _ _ (by simp)).trans (by simp)
  have k1 : w10.cell? ⟨w9.heap.size, 1, none⟩ = some (.int .i64 738579) := ((bcell b10).1 _ _ (by simp)).trans (by simp)
  clear b10
  go_wp2_with fail
  have e0 := cell_regrown k0
  have e1 := cell_regrown k1
  clear k0 k1
  refine wp_region_quiet_below (by kernel_rfl) (by kernel_rfl) ?_
  repeat go_big_quiet_step (first
    | (go_at_call 27; exact Calls.regrown_of (pSpan_any _ _ _)))
  refine wpQuiet_nil ?_
  intro _ hw'
  obtain ⟨⟨dq, osq⟩, hw''⟩ := hw'
  subst hw''
  go_wp2
  go_ret
  exact ⟨rfl, below_next B10.out (Nat.le_refl _) (below_regrown w10 dq osq)⟩
end Go.Proofs.YtfncfbbkkpdhkaaDoor
