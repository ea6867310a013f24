/- The walk of WeekBack: it answers true, whatever it is handed. -/
import Derived.Test.YtbolcbfbcjmpnaaDoorBegun
namespace Go.Proofs.YtbolcbfbcjmpnaaDoor
open Go.RowKit Go.BigFrame Go.Sort

theorem ofWeek_at (y k d n : Int) (w : World) (h : Cal.wok y k d) (hn : Cal.wnum y k d = n) :
    Calls Tryd.prog 19 #[.agg #[.int .i64 y, .int .i64 k, .int .i64 d]] w fun e w' => e = .returned (.tuple #[.int .i64 n, .int .i64 0]) ∧ Below w.heap.size w w' := by
  subst hn; exact ofWeek_ok y k d w h
theorem week_to (y k d : Int) (w : World) (h : Cal.wok y k d) :
    Calls Tryd.prog 18 #[.int .i64 (Cal.wnum y k d)] w fun e w' => e = .returned (.tuple #[.agg #[.int .i64 y, .int .i64 k, .int .i64 d], .int .i64 0]) ∧ Below w.heap.size w w' := by
  have e := Cal.week_of y k d h
  have c := week_ok (Cal.wnum y k d) w h.2.2.2.2.2.2.2.1 h.2.2.2.2.2.2.2.2
  rw [e.1, e.2.1, e.2.2] at c
  exact c

set_option maxHeartbeats 4000000 in
theorem weekBack_any (n y k d : Int) (w : World) (hw : Laid w) :
    Calls Tryd.prog 8 #[.int .i64 n, .agg #[.int .i64 y, .int .i64 k, .int .i64 d]] w fun e w' => e = .returned (.bool true) ∧ Below w.heap.size w w' := by
  by_cases hn : 1 ≤ n ∧ n ≤ 3652059
  · obtain ⟨hn1, hn2⟩ := hn
    have HK := Cal.wok_of n hn1 hn2
    have HE : Hid (Cal.wnum (Cal.wyear n) (Cal.wno n) (Cal.wday n) = n) := Cal.wnum_of n
    have hy := Cal.wyear_in n hn1 hn2
    by_cases hv : Cal.wok y k d
    · go_enter Tryd.func8, Tryd.ntmps8
      go_wp2_with fail
      have l1 := Laid.below hw (below_box w (.cells #[.int .i64 y, .int .i64 k, .int .i64 d] 35))
      have B1 := below_next (Below.refl _ w) (Nat.le_refl _) (below_box w (.cells #[.int .i64 y, .int .i64 k, .int .i64 d] 35))
      clear hw
      have p1 := Has3.new w (y) (k) (d) 35
      refine (week_ok n _ hn1 hn2).mono ?_; rintro e w1 ⟨rfl, b1⟩
      have l2 := Laid.below l1 b1
      have B2 := below_next B1 (Nat.le_refl _) b1
      have p2 := Has3.below p1 b1
      clear l1 B1 p1
      clear b1
      have l3 := Laid.below l2 (below_box w1 (.cells #[.int .i64 (Cal.wyear n), .int .i64 (Cal.wno n), .int .i64 (Cal.wday n)] 35))
      have B3 := below_next B2 (Nat.le_refl _) (below_box w1 (.cells #[.int .i64 (Cal.wyear n), .int .i64 (Cal.wno n), .int .i64 (Cal.wday n)] 35))
      have p3 := Has3.below p2 (below_box w1 (.cells #[.int .i64 (Cal.wyear n), .int .i64 (Cal.wno n), .int .i64 (Cal.wday n)] 35))
      clear l2 B2 p2
      have a3 := Has3.new w1 (Cal.wyear n) (Cal.wno n) (Cal.wday n) 35
      have sp0 := p3.2.1
      have sp1 := p3.2.2.1
      have sp2 := p3.2.2.2
      go_wp2_with fail
      clear sp0 sp1 sp2
      refine (ofWeek_ok y k d _ hv).mono ?_; rintro e w2 ⟨rfl, b2⟩
      have l4 := Laid.below l3 b2
      have B4 := below_next B3 (Nat.le_refl _) b2
      have p4 := Has3.below p3 b2
      have a4 := Has3.below a3 b2
      clear l3 B3 p3 a3
      clear b2
      go_wp2_with fail
      refine (begun_any _ l4).mono ?_; rintro e w3 ⟨rfl, b3⟩
      have l5 := Laid.below l4 b3
      have B5 := below_next B4 (Nat.le_refl _) b3
      have p5 := Has3.below p4 b3
      have a5 := Has3.below a4 b3
      clear l4 B4 p4 a4
      clear b3
      have sa0 := a5.2.1
      have sa1 := a5.2.2.1
      have sa2 := a5.2.2.2
      have sp0 := p5.2.1
      have sp1 := p5.2.2.1
      have sp2 := p5.2.2.2
      go_wp2_with fail
      clear sa0 sa1 sa2 sp0 sp1 sp2
      refine (ofWeek_at _ _ _ n _ HK HE.out).mono ?_; rintro e w4 ⟨rfl, b4⟩
      have l6 := Laid.below l5 b4
      have B6 := below_next B5 (Nat.le_refl _) b4
      have p6 := Has3.below p5 b4
      have a6 := Has3.below a5 b4
      clear l5 B5 p5 a5
      clear b4
      have sp0 := p6.2.1
      have sp1 := p6.2.2.1
      have sp2 := p6.2.2.2
      go_wp2_with fail
      clear sp0 sp1 sp2
      refine (week_to y k d _ hv).mono ?_; rintro e w5 ⟨rfl, b5⟩
      have l7 := Laid.below l6 b5
      have B7 := below_next B6 (Nat.le_refl _) b5
      have p7 := Has3.below p6 b5
      have a7 := Has3.below a6 b5
      clear l6 B6 p6 a6
      clear b5
      have l8 := Laid.below l7 (below_box w5 (.cells #[.int .i64 y, .int .i64 k, .int .i64 d] 35))
      have B8 := below_next B7 (Nat.le_refl _) (below_box w5 (.cells #[.int .i64 y, .int .i64 k, .int .i64 d] 35))
      have p8 := Has3.below p7 (below_box w5 (.cells #[.int .i64 y, .int .i64 k, .int .i64 d] 35))
      have a8 := Has3.below a7 (below_box w5 (.cells #[.int .i64 y, .int .i64 k, .int .i64 d] 35))
      clear l7 B7 p7 a7
      have x8 := Has3.new w5 (y) (k) (d) 35
      have sx0 := x8.2.1
      have sx1 := x8.2.2.1
      have sx2 := x8.2.2.2
      have sp0 := p8.2.1
      have sp1 := p8.2.2.1
      have sp2 := p8.2.2.2
      go_wp2
      go_ret
      exact ⟨rfl, B8⟩
    · go_enter Tryd.func8, Tryd.ntmps8
      go_wp2_with fail
      have l1 := Laid.below hw (below_box w (.cells #[.int .i64 y, .int .i64 k, .int .i64 d] 35))
      have B1 := below_next (Below.refl _ w) (Nat.le_refl _) (below_box w (.cells #[.int .i64 y, .int .i64 k, .int .i64 d] 35))
      clear hw
      have p1 := Has3.new w (y) (k) (d) 35
      refine (week_ok n _ hn1 hn2).mono ?_; rintro e w1 ⟨rfl, b1⟩
      have l2 := Laid.below l1 b1
      have B2 := below_next B1 (Nat.le_refl _) b1
      have p2 := Has3.below p1 b1
      clear l1 B1 p1
      clear b1
      have l3 := Laid.below l2 (below_box w1 (.cells #[.int .i64 (Cal.wyear n), .int .i64 (Cal.wno n), .int .i64 (Cal.wday n)] 35))
      have B3 := below_next B2 (Nat.le_refl _) (below_box w1 (.cells #[.int .i64 (Cal.wyear n), .int .i64 (Cal.wno n), .int .i64 (Cal.wday n)] 35))
      have p3 := Has3.below p2 (below_box w1 (.cells #[.int .i64 (Cal.wyear n), .int .i64 (Cal.wno n), .int .i64 (Cal.wday n)] 35))
      clear l2 B2 p2
      have a3 := Has3.new w1 (Cal.wyear n) (Cal.wno n) (Cal.wday n) 35
      have sp0 := p3.2.1
      have sp1 := p3.2.2.1
      have sp2 := p3.2.2.2
      go_wp2_with fail
      clear sp0 sp1 sp2
      refine (ofWeek_err y k d _ hv).mono ?_; rintro e w2 ⟨rfl, b2⟩
      have l4 := Laid.below l3 b2
      have B4 := below_next B3 (Nat.le_refl _) b2
      have p4 := Has3.below p3 b2
      have a4 := Has3.below a3 b2
      clear l3 B3 p3 a3
      clear b2
      go_wp2_with fail
      refine (begun_any _ l4).mono ?_; rintro e w3 ⟨rfl, b3⟩
      have l5 := Laid.below l4 b3
      have B5 := below_next B4 (Nat.le_refl _) b3
      have p5 := Has3.below p4 b3
      have a5 := Has3.below a4 b3
      clear l4 B4 p4 a4
      clear b3
      have sa0 := a5.2.1
      have sa1 := a5.2.2.1
      have sa2 := a5.2.2.2
      have sp0 := p5.2.1
      have sp1 := p5.2.2.1
      have sp2 := p5.2.2.2
      go_wp2_with fail
      clear sa0 sa1 sa2 sp0 sp1 sp2
      refine (ofWeek_at _ _ _ n _ HK HE.out).mono ?_; rintro e w4 ⟨rfl, b4⟩
      have l6 := Laid.below l5 b4
      have B6 := below_next B5 (Nat.le_refl _) b4
      have p6 := Has3.below p5 b4
      have a6 := Has3.below a5 b4
      clear l5 B5 p5 a5
      clear b4
      have sp0 := p6.2.1
      have sp1 := p6.2.2.1
      have sp2 := p6.2.2.2
      go_wp2
      go_ret
      exact ⟨rfl, B6⟩
  · have HN : Hid (n < 1 ∨ 3652059 < n) := by unfold Hid; omega
    clear hn
    by_cases hv : Cal.wok y k d
    · go_enter Tryd.func8, Tryd.ntmps8
      go_wp2_with fail
      have l1 := Laid.below hw (below_box w (.cells #[.int .i64 y, .int .i64 k, .int .i64 d] 35))
      have B1 := below_next (Below.refl _ w) (Nat.le_refl _) (below_box w (.cells #[.int .i64 y, .int .i64 k, .int .i64 d] 35))
      clear hw
      have p1 := Has3.new w (y) (k) (d) 35
      refine (week_err n _ HN.out).mono ?_; rintro e w1 ⟨rfl, b1⟩
      have l2 := Laid.below l1 b1
      have B2 := below_next B1 (Nat.le_refl _) b1
      have p2 := Has3.below p1 b1
      clear l1 B1 p1
      clear b1
      have l3 := Laid.below l2 (below_box w1 (.cells #[.int .i64 0, .int .i64 0, .int .i64 0] 35))
      have B3 := below_next B2 (Nat.le_refl _) (below_box w1 (.cells #[.int .i64 0, .int .i64 0, .int .i64 0] 35))
      have p3 := Has3.below p2 (below_box w1 (.cells #[.int .i64 0, .int .i64 0, .int .i64 0] 35))
      clear l2 B2 p2
      have a3 := Has3.new w1 (0) (0) (0) 35
      have sp0 := p3.2.1
      have sp1 := p3.2.2.1
      have sp2 := p3.2.2.2
      go_wp2_with fail
      clear sp0 sp1 sp2
      refine (ofWeek_ok y k d _ hv).mono ?_; rintro e w2 ⟨rfl, b2⟩
      have l4 := Laid.below l3 b2
      have B4 := below_next B3 (Nat.le_refl _) b2
      have p4 := Has3.below p3 b2
      have a4 := Has3.below a3 b2
      clear l3 B3 p3 a3
      clear b2
      go_wp2_with fail
      refine (begun_any _ l4).mono ?_; rintro e w3 ⟨rfl, b3⟩
      have l5 := Laid.below l4 b3
      have B5 := below_next B4 (Nat.le_refl _) b3
      have p5 := Has3.below p4 b3
      have a5 := Has3.below a4 b3
      clear l4 B4 p4 a4
      clear b3
      have sa0 := a5.2.1
      have sa1 := a5.2.2.1
      have sa2 := a5.2.2.2
      have sp0 := p5.2.1
      have sp1 := p5.2.2.1
      have sp2 := p5.2.2.2
      go_wp2_with fail
      clear sa0 sa1 sa2 sp0 sp1 sp2
      refine (week_to y k d _ hv).mono ?_; rintro e w4 ⟨rfl, b4⟩
      have l6 := Laid.below l5 b4
      have B6 := below_next B5 (Nat.le_refl _) b4
      have p6 := Has3.below p5 b4
      have a6 := Has3.below a5 b4
      clear l5 B5 p5 a5
      clear b4
      have l7 := Laid.below l6 (below_box w4 (.cells #[.int .i64 y, .int .i64 k, .int .i64 d] 35))
      have B7 := below_next B6 (Nat.le_refl _) (below_box w4 (.cells #[.int .i64 y, .int .i64 k, .int .i64 d] 35))
      have p7 := Has3.below p6 (below_box w4 (.cells #[.int .i64 y, .int .i64 k, .int .i64 d] 35))
      have a7 := Has3.below a6 (below_box w4 (.cells #[.int .i64 y, .int .i64 k, .int .i64 d] 35))
      clear l6 B6 p6 a6
      have x7 := Has3.new w4 (y) (k) (d) 35
      have sx0 := x7.2.1
      have sx1 := x7.2.2.1
      have sx2 := x7.2.2.2
      have sp0 := p7.2.1
      have sp1 := p7.2.2.1
      have sp2 := p7.2.2.2
      go_wp2
      go_ret
      exact ⟨rfl, B7⟩
    · go_enter Tryd.func8, Tryd.ntmps8
      go_wp2_with fail
      have l1 := Laid.below hw (below_box w (.cells #[.int .i64 y, .int .i64 k, .int .i64 d] 35))
      have B1 := below_next (Below.refl _ w) (Nat.le_refl _) (below_box w (.cells #[.int .i64 y, .int .i64 k, .int .i64 d] 35))
      clear hw
      have p1 := Has3.new w (y) (k) (d) 35
      refine (week_err n _ HN.out).mono ?_; rintro e w1 ⟨rfl, b1⟩
      have l2 := Laid.below l1 b1
      have B2 := below_next B1 (Nat.le_refl _) b1
      have p2 := Has3.below p1 b1
      clear l1 B1 p1
      clear b1
      have l3 := Laid.below l2 (below_box w1 (.cells #[.int .i64 0, .int .i64 0, .int .i64 0] 35))
      have B3 := below_next B2 (Nat.le_refl _) (below_box w1 (.cells #[.int .i64 0, .int .i64 0, .int .i64 0] 35))
      have p3 := Has3.below p2 (below_box w1 (.cells #[.int .i64 0, .int .i64 0, .int .i64 0] 35))
      clear l2 B2 p2
      have a3 := Has3.new w1 (0) (0) (0) 35
      have sp0 := p3.2.1
      have sp1 := p3.2.2.1
      have sp2 := p3.2.2.2
      go_wp2_with fail
      clear sp0 sp1 sp2
      refine (ofWeek_err y k d _ hv).mono ?_; rintro e w2 ⟨rfl, b2⟩
      have l4 := Laid.below l3 b2
      have B4 := below_next B3 (Nat.le_refl _) b2
      have p4 := Has3.below p3 b2
      have a4 := Has3.below a3 b2
      clear l3 B3 p3 a3
      clear b2
      go_wp2_with fail
      refine (begun_any _ l4).mono ?_; rintro e w3 ⟨rfl, b3⟩
      have l5 := Laid.below l4 b3
      have B5 := below_next B4 (Nat.le_refl _) b3
      have p5 := Has3.below p4 b3
      have a5 := Has3.below a4 b3
      clear l4 B4 p4 a4
      clear b3
      have sa0 := a5.2.1
      have sa1 := a5.2.2.1
      have sa2 := a5.2.2.2
      have sp0 := p5.2.1
      have sp1 := p5.2.2.1
      have sp2 := p5.2.2.2
      go_wp2
      go_ret
      exact ⟨rfl, B5⟩
end Go.Proofs.YtbolcbfbcjmpnaaDoor
