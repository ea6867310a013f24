/- The walk of DateCycle: it answers true, whatever it is handed. -/
import Derived.Test.YtbolcbfbcjmpnaaDoorBegun
namespace Go.Proofs.YtbolcbfbcjmpnaaDoor
open Go.RowKit Go.BigFrame Go.Sort

namespace Cal
theorem ahead_400 (y : Int) : ahead (y + 400) = ahead y + 146097 := by unfold ahead; omega
theorem lp_400 (y : Int) : lp (y + 400) = lp y := by
  have e : leap (y + 400) = leap y := by
    rw [Bool.eq_iff_iff, leap_iff, leap_iff]; omega
  unfold lp; rw [e]
theorem mlen_400 (y m : Int) : mlen (y + 400) m = mlen y m := by unfold mlen; rw [lp_400]
theorem cum_400 (y m : Int) : cum (y + 400) m = cum y m := by unfold cum; rw [lp_400]
theorem num_400 (y m d : Int) : num (y + 400) m d = num y m d + 146097 := by unfold num; rw [cum_400, ahead_400]; omega
theorem vld_400 (y m d : Int) (h : vld y m d) (hy : y ≤ 9599) : vld (y + 400) m d := by
  obtain ⟨h1, h2, h3, h4, h5, h6⟩ := h
  exact ⟨by omega, by omega, h3, h4, h5, by rw [mlen_400]; exact h6⟩
theorem yr_400 (n : Int) : yr (n + 146097) = yr n + 400 := by
  have a := yr_spec n
  have b := yr_spec (n + 146097)
  have c := ahead_400 (yr n)
  have d := ahead_400 (yr n + 1)
  have e : yr n + 1 + 400 = yr n + 400 + 1 := by omega
  rw [e] at d
  exact year_inj (n + 146097) _ _ b.1 b.2 (by omega) (by omega)
theorem week_400 (n : Int) : wyear (n + 146097) = wyear n + 400 ∧ wno (n + 146097) = wno n ∧ wday (n + 146097) = wday n := by
  have e1 : wday (n + 146097) = wday n := by unfold wday; omega
  have e2 : mid (n + 146097) = mid n + 146097 := by unfold mid; rw [e1]; omega
  have e3 : wyear (n + 146097) = wyear n + 400 := by unfold wyear; rw [e2, yr_400]
  refine ⟨e3, ?_, e1⟩
  unfold wno; rw [e2, e3, ahead_400]; omega
end Cal
theorem week_is (n Y K E : Int) (w : World) (h1 : 1 ≤ n) (h2 : n ≤ 3652059) (hY : Cal.wyear n = Y) (hK : Cal.wno n = K) (hE : Cal.wday n = E) :
    Calls Tryd.prog 18 #[.int .i64 n] w fun e w' => e = .returned (.tuple #[.agg #[.int .i64 Y, .int .i64 K, .int .i64 E], .int .i64 0]) ∧ Below w.heap.size w w' := by
  subst hY hK hE; exact week_ok n w h1 h2

set_option maxHeartbeats 4000000 in
theorem dateCycle_any (y m d : Int) (w : World) (hw : Laid w) :
    Calls Tryd.prog 6 #[.agg #[.int .i64 y, .int .i64 m, .int .i64 d]] w fun e w' => e = .returned (.bool true) ∧ Below w.heap.size w w' := by
  by_cases hv : Cal.vld y m d
  · by_cases hy : y ≤ 9599
    · have vv := hv
      obtain ⟨h1, h2, h3, h4, h5, h6⟩ := vv
      have hi := Cal.num_in y m d hv
      have hv4 := Cal.vld_400 y m d hv hy
      have hi4 := Cal.num_in (y + 400) m d hv4
      have H4 : Hid (Cal.num (y + 400) m d = Cal.num y m d + 146097) := Cal.num_400 y m d
      rw [H4.out] at hi4
      have HW : Hid (Cal.wyear (Cal.num y m d + 146097) = Cal.wyear (Cal.num y m d) + 400 ∧ Cal.wno (Cal.num y m d + 146097) = Cal.wno (Cal.num y m d) ∧ Cal.wday (Cal.num y m d + 146097) = Cal.wday (Cal.num y m d)) := Cal.week_400 _
      have hwy := Cal.wyear_in (Cal.num y m d) hi.1 hi.2
      clear h6
      go_enter Tryd.func6, Tryd.ntmps6
      go_wp2_with fail
      have l1 := Laid.below hw (below_box w (.cells #[.int .i64 y, .int .i64 m, .int .i64 d] 23))
      have B1 := below_next (Below.refl _ w) (Nat.le_refl _) (below_box w (.cells #[.int .i64 y, .int .i64 m, .int .i64 d] 23))
      clear hw
      have a1 := Has3.new w (y) (m) (d) 23
      refine (day_ok y m d _ l1 hv).mono ?_; rintro e w1 ⟨rfl, b1⟩
      have l2 := Laid.below l1 b1
      have B2 := below_next B1 (Nat.le_refl _) b1
      have a2 := Has3.below a1 b1
      clear l1 B1 a1
      clear b1
      go_wp2_with fail
      refine (begun_any _ l2).mono ?_; rintro e w2 ⟨rfl, b2⟩
      have l3 := Laid.below l2 b2
      have B3 := below_next B2 (Nat.le_refl _) b2
      have a3 := Has3.below a2 b2
      clear l2 B2 a2
      clear b2
      have sa0 := a3.2.1
      have sa1 := a3.2.2.1
      have sa2 := a3.2.2.2
      go_wp2_with fail
      clear sa0 sa1 sa2
      refine (mk_any _ _ _ _).mono ?_; rintro e w3 ⟨rfl, b3⟩
      have l4 := Laid.below l3 b3
      have B4 := below_next B3 (Nat.le_refl _) b3
      have a4 := Has3.below a3 b3
      clear l3 B3 a3
      clear b3
      clear a4
      go_wp2_with fail
      refine (day_at (y + 400) m d (Cal.num y m d + 146097) _ l4 hv4 H4.out).mono ?_; rintro e w4 ⟨rfl, b4⟩
      have l5 := Laid.below l4 b4
      have B5 := below_next B4 (Nat.le_refl _) b4
      clear l4 B4
      clear b4
      go_wp2_with fail
      refine (week_ok (Cal.num y m d) _ hi.1 hi.2).mono ?_; rintro e w5 ⟨rfl, b5⟩
      have l6 := Laid.below l5 b5
      have B6 := below_next B5 (Nat.le_refl _) b5
      clear l5 B5
      clear b5
      have l7 := Laid.below l6 (below_box w5 (.cells #[.int .i64 (Cal.wyear (Cal.num y m d)), .int .i64 (Cal.wno (Cal.num y m d)), .int .i64 (Cal.wday (Cal.num y m d))] 35))
      have B7 := below_next B6 (Nat.le_refl _) (below_box w5 (.cells #[.int .i64 (Cal.wyear (Cal.num y m d)), .int .i64 (Cal.wno (Cal.num y m d)), .int .i64 (Cal.wday (Cal.num y m d))] 35))
      clear l6 B6
      have v7 := Has3.new w5 (Cal.wyear (Cal.num y m d)) (Cal.wno (Cal.num y m d)) (Cal.wday (Cal.num y m d)) 35
      go_wp2_with fail
      refine (week_is (Cal.num y m d + 146097) (Cal.wyear (Cal.num y m d) + 400) (Cal.wno (Cal.num y m d)) (Cal.wday (Cal.num y m d)) _ hi4.1 hi4.2 HW.out.1 HW.out.2.1 HW.out.2.2).mono ?_; rintro e w6 ⟨rfl, b6⟩
      have l8 := Laid.below l7 b6
      have B8 := below_next B7 (Nat.le_refl _) b6
      have v8 := Has3.below v7 b6
      clear l7 B7 v7
      clear b6
      have l9 := Laid.below l8 (below_box w6 (.cells #[.int .i64 (Cal.wyear (Cal.num y m d) + 400), .int .i64 (Cal.wno (Cal.num y m d)), .int .i64 (Cal.wday (Cal.num y m d))] 35))
      have B9 := below_next B8 (Nat.le_refl _) (below_box w6 (.cells #[.int .i64 (Cal.wyear (Cal.num y m d) + 400), .int .i64 (Cal.wno (Cal.num y m d)), .int .i64 (Cal.wday (Cal.num y m d))] 35))
      have v9 := Has3.below v8 (below_box w6 (.cells #[.int .i64 (Cal.wyear (Cal.num y m d) + 400), .int .i64 (Cal.wno (Cal.num y m d)), .int .i64 (Cal.wday (Cal.num y m d))] 35))
      clear l8 B8 v8
      have u9 := Has3.new w6 (Cal.wyear (Cal.num y m d) + 400) (Cal.wno (Cal.num y m d)) (Cal.wday (Cal.num y m d)) 35
      have sv0 := v9.2.1
      have sv1 := v9.2.2.1
      have sv2 := v9.2.2.2
      have su0 := u9.2.1
      have su1 := u9.2.2.1
      have su2 := u9.2.2.2
      go_wp2
      go_ret
      exact ⟨rfl, B9⟩
    · have hy' : 9599 < y := by omega
      go_enter Tryd.func6, Tryd.ntmps6
      go_wp2_with fail
      have l1 := Laid.below hw (below_box w (.cells #[.int .i64 y, .int .i64 m, .int .i64 d] 23))
      have B1 := below_next (Below.refl _ w) (Nat.le_refl _) (below_box w (.cells #[.int .i64 y, .int .i64 m, .int .i64 d] 23))
      clear hw
      have a1 := Has3.new w (y) (m) (d) 23
      refine (day_ok y m d _ l1 hv).mono ?_; rintro e w1 ⟨rfl, b1⟩
      have l2 := Laid.below l1 b1
      have B2 := below_next B1 (Nat.le_refl _) b1
      have a2 := Has3.below a1 b1
      clear l1 B1 a1
      clear b1
      go_wp2_with fail
      refine (begun_any _ l2).mono ?_; rintro e w2 ⟨rfl, b2⟩
      have l3 := Laid.below l2 b2
      have B3 := below_next B2 (Nat.le_refl _) b2
      have a3 := Has3.below a2 b2
      clear l2 B2 a2
      clear b2
      have sa0 := a3.2.1
      have sa1 := a3.2.2.1
      have sa2 := a3.2.2.2
      go_wp2
      go_ret
      exact ⟨rfl, B3⟩
  · skip
    go_enter Tryd.func6, Tryd.ntmps6
    go_wp2_with fail
    have l1 := Laid.below hw (below_box w (.cells #[.int .i64 y, .int .i64 m, .int .i64 d] 23))
    have B1 := below_next (Below.refl _ w) (Nat.le_refl _) (below_box w (.cells #[.int .i64 y, .int .i64 m, .int .i64 d] 23))
    clear hw
    have a1 := Has3.new w (y) (m) (d) 23
    refine (day_err y m d _ l1 hv).mono ?_; rintro e w1 ⟨rfl, b1⟩
    have l2 := Laid.below l1 b1
    have B2 := below_next B1 (Nat.le_refl _) b1
    have a2 := Has3.below a1 b1
    clear l1 B1 a1
    clear b1
    go_wp2_with fail
    refine (begun_any _ l2).mono ?_; rintro e w2 ⟨rfl, b2⟩
    have l3 := Laid.below l2 b2
    have B3 := below_next B2 (Nat.le_refl _) b2
    have a3 := Has3.below a2 b2
    clear l2 B2 a2
    clear b2
    go_wp2
    go_ret
    exact ⟨rfl, B3⟩
end Go.Proofs.YtbolcbfbcjmpnaaDoor
