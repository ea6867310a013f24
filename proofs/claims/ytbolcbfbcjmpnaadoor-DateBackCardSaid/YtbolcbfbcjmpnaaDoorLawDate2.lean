/- The walk of DateBack: it answers true, whatever it is handed. -/
import Derived.Test.YtbolcbfbcjmpnaaDoorBegun
namespace Go.Proofs.YtbolcbfbcjmpnaaDoor
open Go.RowKit Go.BigFrame Go.Sort

set_option maxHeartbeats 4000000 in
theorem dateBack_any (y m d n : Int) (w : World) (hw : Laid w) :
    Calls Tryd.prog 4 #[.agg #[.int .i64 y, .int .i64 m, .int .i64 d], .int .i64 n] w fun e w' => e = .returned (.bool true) ∧ Below w.heap.size w w' := by
  by_cases hn : 1 ≤ n ∧ n ≤ 3652059
  · obtain ⟨oy, om, od, hov, hon⟩ := Cal.ex_date n hn.1 hn.2
    obtain ⟨hn1, hn2⟩ := hn
    have HON : Hid (Cal.num oy om od = n) := hon
    clear hon
    by_cases hv : Cal.vld y m d
    · go_enter Tryd.func4, Tryd.ntmps4
      go_wp2_with fail
      have l1 := Laid.below hw (below_box w (.cells #[.int .i64 y, .int .i64 m, .int .i64 d] 23))
      have B1 := below_next (Below.refl _ w) (Nat.le_refl _) (below_box w (.cells #[.int .i64 y, .int .i64 m, .int .i64 d] 23))
      clear hw
      have a1 := Has3.new w (y) (m) (d) 23
      refine (day_ok y m d _ l1 hv).mono ?_; rintro e w1 ⟨rfl, b1⟩
      have l2 := Laid.below l1 b1
      have B2 := below_next B1 (Nat.le_refl _) b1
      have a2 := Has3.below a1 b1
      clear l1 B1 a1
      clear b1
      go_wp2_with fail
      refine (of_at n oy om od _ l2 hov HON.out).mono ?_; rintro e w2 ⟨rfl, b2⟩
      have l3 := Laid.below l2 b2
      have B3 := below_next B2 (Nat.le_refl _) b2
      have a3 := Has3.below a2 b2
      clear l2 B2 a2
      clear b2
      have l4 := Laid.below l3 (below_box w2 (.cells #[.int .i64 oy, .int .i64 om, .int .i64 od] 23))
      have B4 := below_next B3 (Nat.le_refl _) (below_box w2 (.cells #[.int .i64 oy, .int .i64 om, .int .i64 od] 23))
      have a4 := Has3.below a3 (below_box w2 (.cells #[.int .i64 oy, .int .i64 om, .int .i64 od] 23))
      clear l3 B3 a3
      have b4 := Has3.new w2 (oy) (om) (od) 23
      go_wp2_with fail
      refine (begun_any _ l4).mono ?_; rintro e w3 ⟨rfl, b3⟩
      have l5 := Laid.below l4 b3
      have B5 := below_next B4 (Nat.le_refl _) b3
      have a5 := Has3.below a4 b3
      have b5 := Has3.below b4 b3
      clear l4 B4 a4 b4
      clear b3
      go_wp2_with fail
      refine (of_at (Cal.num y m d) y m d _ l5 hv rfl).mono ?_; rintro e w4 ⟨rfl, b4⟩
      have l6 := Laid.below l5 b4
      have B6 := below_next B5 (Nat.le_refl _) b4
      have a6 := Has3.below a5 b4
      have b6 := Has3.below b5 b4
      clear l5 B5 a5 b5
      clear b4
      have l7 := Laid.below l6 (below_box w4 (.cells #[.int .i64 y, .int .i64 m, .int .i64 d] 23))
      have B7 := below_next B6 (Nat.le_refl _) (below_box w4 (.cells #[.int .i64 y, .int .i64 m, .int .i64 d] 23))
      have a7 := Has3.below a6 (below_box w4 (.cells #[.int .i64 y, .int .i64 m, .int .i64 d] 23))
      have b7 := Has3.below b6 (below_box w4 (.cells #[.int .i64 y, .int .i64 m, .int .i64 d] 23))
      clear l6 B6 a6 b6
      have x7 := Has3.new w4 (y) (m) (d) 23
      have sa0 := a7.2.1
      have sa1 := a7.2.2.1
      have sa2 := a7.2.2.2
      have sx0 := x7.2.1
      have sx1 := x7.2.2.1
      have sx2 := x7.2.2.2
      have sb0 := b7.2.1
      have sb1 := b7.2.2.1
      have sb2 := b7.2.2.2
      go_wp2_with fail
      clear sa0 sa1 sa2 sx0 sx1 sx2 sb0 sb1 sb2
      clear a7 x7
      refine (day_at oy om od n _ l7 hov HON.out).mono ?_; rintro e w5 ⟨rfl, b5⟩
      have l8 := Laid.below l7 b5
      have B8 := below_next B7 (Nat.le_refl _) b5
      have b8 := Has3.below b7 b5
      clear l7 B7 b7
      clear b5
      go_wp2
      go_ret
      exact ⟨rfl, B8⟩
    · go_enter Tryd.func4, Tryd.ntmps4
      go_wp2_with fail
      have l1 := Laid.below hw (below_box w (.cells #[.int .i64 y, .int .i64 m, .int .i64 d] 23))
      have B1 := below_next (Below.refl _ w) (Nat.le_refl _) (below_box w (.cells #[.int .i64 y, .int .i64 m, .int .i64 d] 23))
      clear hw
      have a1 := Has3.new w (y) (m) (d) 23
      refine (day_err y m d _ l1 hv).mono ?_; rintro e w1 ⟨rfl, b1⟩
      have l2 := Laid.below l1 b1
      have B2 := below_next B1 (Nat.le_refl _) b1
      have a2 := Has3.below a1 b1
      clear l1 B1 a1
      clear b1
      go_wp2_with fail
      refine (of_at n oy om od _ l2 hov HON.out).mono ?_; rintro e w2 ⟨rfl, b2⟩
      have l3 := Laid.below l2 b2
      have B3 := below_next B2 (Nat.le_refl _) b2
      have a3 := Has3.below a2 b2
      clear l2 B2 a2
      clear b2
      have l4 := Laid.below l3 (below_box w2 (.cells #[.int .i64 oy, .int .i64 om, .int .i64 od] 23))
      have B4 := below_next B3 (Nat.le_refl _) (below_box w2 (.cells #[.int .i64 oy, .int .i64 om, .int .i64 od] 23))
      have a4 := Has3.below a3 (below_box w2 (.cells #[.int .i64 oy, .int .i64 om, .int .i64 od] 23))
      clear l3 B3 a3
      have b4 := Has3.new w2 (oy) (om) (od) 23
      go_wp2_with fail
      refine (begun_any _ l4).mono ?_; rintro e w3 ⟨rfl, b3⟩
      have l5 := Laid.below l4 b3
      have B5 := below_next B4 (Nat.le_refl _) b3
      have a5 := Has3.below a4 b3
      have b5 := Has3.below b4 b3
      clear l4 B4 a4 b4
      clear b3
      have sa0 := a5.2.1
      have sa1 := a5.2.2.1
      have sa2 := a5.2.2.2
      have sb0 := b5.2.1
      have sb1 := b5.2.2.1
      have sb2 := b5.2.2.2
      go_wp2_with fail
      clear sa0 sa1 sa2 sb0 sb1 sb2
      clear a5
      refine (day_at oy om od n _ l5 hov HON.out).mono ?_; rintro e w4 ⟨rfl, b4⟩
      have l6 := Laid.below l5 b4
      have B6 := below_next B5 (Nat.le_refl _) b4
      have b6 := Has3.below b5 b4
      clear l5 B5 b5
      clear b4
      go_wp2
      go_ret
      exact ⟨rfl, B6⟩
  · have HN : Hid (n < 1 ∨ 3652059 < n) := by unfold Hid; omega
    by_cases h1 : n < 1
    · clear hn
      by_cases hv : Cal.vld y m d
      · go_enter Tryd.func4, Tryd.ntmps4
        go_wp2_with fail
        have l1 := Laid.below hw (below_box w (.cells #[.int .i64 y, .int .i64 m, .int .i64 d] 23))
        have B1 := below_next (Below.refl _ w) (Nat.le_refl _) (below_box w (.cells #[.int .i64 y, .int .i64 m, .int .i64 d] 23))
        clear hw
        have a1 := Has3.new w (y) (m) (d) 23
        refine (day_ok y m d _ l1 hv).mono ?_; rintro e w1 ⟨rfl, b1⟩
        have l2 := Laid.below l1 b1
        have B2 := below_next B1 (Nat.le_refl _) b1
        have a2 := Has3.below a1 b1
        clear l1 B1 a1
        clear b1
        go_wp2_with fail
        refine (of_err n _ HN.out).mono ?_; rintro e w2 ⟨rfl, b2⟩
        have l3 := Laid.below l2 b2
        have B3 := below_next B2 (Nat.le_refl _) b2
        have a3 := Has3.below a2 b2
        clear l2 B2 a2
        clear b2
        have l4 := Laid.below l3 (below_box w2 (.cells #[.int .i64 0, .int .i64 0, .int .i64 0] 23))
        have B4 := below_next B3 (Nat.le_refl _) (below_box w2 (.cells #[.int .i64 0, .int .i64 0, .int .i64 0] 23))
        have a4 := Has3.below a3 (below_box w2 (.cells #[.int .i64 0, .int .i64 0, .int .i64 0] 23))
        clear l3 B3 a3
        have b4 := Has3.new w2 (0) (0) (0) 23
        go_wp2_with fail
        refine (begun_any _ l4).mono ?_; rintro e w3 ⟨rfl, b3⟩
        have l5 := Laid.below l4 b3
        have B5 := below_next B4 (Nat.le_refl _) b3
        have a5 := Has3.below a4 b3
        have b5 := Has3.below b4 b3
        clear l4 B4 a4 b4
        clear b3
        go_wp2_with fail
        refine (of_at (Cal.num y m d) y m d _ l5 hv rfl).mono ?_; rintro e w4 ⟨rfl, b4⟩
        have l6 := Laid.below l5 b4
        have B6 := below_next B5 (Nat.le_refl _) b4
        have a6 := Has3.below a5 b4
        have b6 := Has3.below b5 b4
        clear l5 B5 a5 b5
        clear b4
        have l7 := Laid.below l6 (below_box w4 (.cells #[.int .i64 y, .int .i64 m, .int .i64 d] 23))
        have B7 := below_next B6 (Nat.le_refl _) (below_box w4 (.cells #[.int .i64 y, .int .i64 m, .int .i64 d] 23))
        have a7 := Has3.below a6 (below_box w4 (.cells #[.int .i64 y, .int .i64 m, .int .i64 d] 23))
        have b7 := Has3.below b6 (below_box w4 (.cells #[.int .i64 y, .int .i64 m, .int .i64 d] 23))
        clear l6 B6 a6 b6
        have x7 := Has3.new w4 (y) (m) (d) 23
        have sa0 := a7.2.1
        have sa1 := a7.2.2.1
        have sa2 := a7.2.2.2
        have sx0 := x7.2.1
        have sx1 := x7.2.2.1
        have sx2 := x7.2.2.2
        have sb0 := b7.2.1
        have sb1 := b7.2.2.1
        have sb2 := b7.2.2.2
        go_wp2_with fail
        go_wp2
        go_ret
        exact ⟨rfl, B7⟩
      · go_enter Tryd.func4, Tryd.ntmps4
        go_wp2_with fail
        have l1 := Laid.below hw (below_box w (.cells #[.int .i64 y, .int .i64 m, .int .i64 d] 23))
        have B1 := below_next (Below.refl _ w) (Nat.le_refl _) (below_box w (.cells #[.int .i64 y, .int .i64 m, .int .i64 d] 23))
        clear hw
        have a1 := Has3.new w (y) (m) (d) 23
        refine (day_err y m d _ l1 hv).mono ?_; rintro e w1 ⟨rfl, b1⟩
        have l2 := Laid.below l1 b1
        have B2 := below_next B1 (Nat.le_refl _) b1
        have a2 := Has3.below a1 b1
        clear l1 B1 a1
        clear b1
        go_wp2_with fail
        refine (of_err n _ HN.out).mono ?_; rintro e w2 ⟨rfl, b2⟩
        have l3 := Laid.below l2 b2
        have B3 := below_next B2 (Nat.le_refl _) b2
        have a3 := Has3.below a2 b2
        clear l2 B2 a2
        clear b2
        have l4 := Laid.below l3 (below_box w2 (.cells #[.int .i64 0, .int .i64 0, .int .i64 0] 23))
        have B4 := below_next B3 (Nat.le_refl _) (below_box w2 (.cells #[.int .i64 0, .int .i64 0, .int .i64 0] 23))
        have a4 := Has3.below a3 (below_box w2 (.cells #[.int .i64 0, .int .i64 0, .int .i64 0] 23))
        clear l3 B3 a3
        have b4 := Has3.new w2 (0) (0) (0) 23
        go_wp2_with fail
        refine (begun_any _ l4).mono ?_; rintro e w3 ⟨rfl, b3⟩
        have l5 := Laid.below l4 b3
        have B5 := below_next B4 (Nat.le_refl _) b3
        have a5 := Has3.below a4 b3
        have b5 := Has3.below b4 b3
        clear l4 B4 a4 b4
        clear b3
        have sa0 := a5.2.1
        have sa1 := a5.2.2.1
        have sa2 := a5.2.2.2
        have sb0 := b5.2.1
        have sb1 := b5.2.2.1
        have sb2 := b5.2.2.2
        go_wp2_with fail
        go_wp2
        go_ret
        exact ⟨rfl, B5⟩
    · have h2 : 3652059 < n := by omega
      clear hn
      by_cases hv : Cal.vld y m d
      · go_enter Tryd.func4, Tryd.ntmps4
        go_wp2_with fail
        have l1 := Laid.below hw (below_box w (.cells #[.int .i64 y, .int .i64 m, .int .i64 d] 23))
        have B1 := below_next (Below.refl _ w) (Nat.le_refl _) (below_box w (.cells #[.int .i64 y, .int .i64 m, .int .i64 d] 23))
        clear hw
        have a1 := Has3.new w (y) (m) (d) 23
        refine (day_ok y m d _ l1 hv).mono ?_; rintro e w1 ⟨rfl, b1⟩
        have l2 := Laid.below l1 b1
        have B2 := below_next B1 (Nat.le_refl _) b1
        have a2 := Has3.below a1 b1
        clear l1 B1 a1
        clear b1
        go_wp2_with fail
        refine (of_err n _ HN.out).mono ?_; rintro e w2 ⟨rfl, b2⟩
        have l3 := Laid.below l2 b2
        have B3 := below_next B2 (Nat.le_refl _) b2
        have a3 := Has3.below a2 b2
        clear l2 B2 a2
        clear b2
        have l4 := Laid.below l3 (below_box w2 (.cells #[.int .i64 0, .int .i64 0, .int .i64 0] 23))
        have B4 := below_next B3 (Nat.le_refl _) (below_box w2 (.cells #[.int .i64 0, .int .i64 0, .int .i64 0] 23))
        have a4 := Has3.below a3 (below_box w2 (.cells #[.int .i64 0, .int .i64 0, .int .i64 0] 23))
        clear l3 B3 a3
        have b4 := Has3.new w2 (0) (0) (0) 23
        go_wp2_with fail
        refine (begun_any _ l4).mono ?_; rintro e w3 ⟨rfl, b3⟩
        have l5 := Laid.below l4 b3
        have B5 := below_next B4 (Nat.le_refl _) b3
        have a5 := Has3.below a4 b3
        have b5 := Has3.below b4 b3
        clear l4 B4 a4 b4
        clear b3
        go_wp2_with fail
        refine (of_at (Cal.num y m d) y m d _ l5 hv rfl).mono ?_; rintro e w4 ⟨rfl, b4⟩
        have l6 := Laid.below l5 b4
        have B6 := below_next B5 (Nat.le_refl _) b4
        have a6 := Has3.below a5 b4
        have b6 := Has3.below b5 b4
        clear l5 B5 a5 b5
        clear b4
        have l7 := Laid.below l6 (below_box w4 (.cells #[.int .i64 y, .int .i64 m, .int .i64 d] 23))
        have B7 := below_next B6 (Nat.le_refl _) (below_box w4 (.cells #[.int .i64 y, .int .i64 m, .int .i64 d] 23))
        have a7 := Has3.below a6 (below_box w4 (.cells #[.int .i64 y, .int .i64 m, .int .i64 d] 23))
        have b7 := Has3.below b6 (below_box w4 (.cells #[.int .i64 y, .int .i64 m, .int .i64 d] 23))
        clear l6 B6 a6 b6
        have x7 := Has3.new w4 (y) (m) (d) 23
        have sa0 := a7.2.1
        have sa1 := a7.2.2.1
        have sa2 := a7.2.2.2
        have sx0 := x7.2.1
        have sx1 := x7.2.2.1
        have sx2 := x7.2.2.2
        have sb0 := b7.2.1
        have sb1 := b7.2.2.1
        have sb2 := b7.2.2.2
        go_wp2_with fail
        go_wp2
        go_ret
        exact ⟨rfl, B7⟩
      · go_enter Tryd.func4, Tryd.ntmps4
        go_wp2_with fail
        have l1 := Laid.below hw (below_box w (.cells #[.int .i64 y, .int .i64 m, .int .i64 d] 23))
        have B1 := below_next (Below.refl _ w) (Nat.le_refl _) (below_box w (.cells #[.int .i64 y, .int .i64 m, .int .i64 d] 23))
        clear hw
        have a1 := Has3.new w (y) (m) (d) 23
        refine (day_err y m d _ l1 hv).mono ?_; rintro e w1 ⟨rfl, b1⟩
        have l2 := Laid.below l1 b1
        have B2 := below_next B1 (Nat.le_refl _) b1
        have a2 := Has3.below a1 b1
        clear l1 B1 a1
        clear b1
        go_wp2_with fail
        refine (of_err n _ HN.out).mono ?_; rintro e w2 ⟨rfl, b2⟩
        have l3 := Laid.below l2 b2
        have B3 := below_next B2 (Nat.le_refl _) b2
        have a3 := Has3.below a2 b2
        clear l2 B2 a2
        clear b2
        have l4 := Laid.below l3 (below_box w2 (.cells #[.int .i64 0, .int .i64 0, .int .i64 0] 23))
        have B4 := below_next B3 (Nat.le_refl _) (below_box w2 (.cells #[.int .i64 0, .int .i64 0, .int .i64 0] 23))
        have a4 := Has3.below a3 (below_box w2 (.cells #[.int .i64 0, .int .i64 0, .int .i64 0] 23))
        clear l3 B3 a3
        have b4 := Has3.new w2 (0) (0) (0) 23
        go_wp2_with fail
        refine (begun_any _ l4).mono ?_; rintro e w3 ⟨rfl, b3⟩
        have l5 := Laid.below l4 b3
        have B5 := below_next B4 (Nat.le_refl _) b3
        have a5 := Has3.below a4 b3
        have b5 := Has3.below b4 b3
        clear l4 B4 a4 b4
        clear b3
        have sa0 := a5.2.1
        have sa1 := a5.2.2.1
        have sa2 := a5.2.2.2
        have sb0 := b5.2.1
        have sb1 := b5.2.2.1
        have sb2 := b5.2.2.2
        go_wp2_with fail
        go_wp2
        go_ret
        exact ⟨rfl, B5⟩
end Go.Proofs.YtbolcbfbcjmpnaaDoor
