/- The walk of WeekTells: it answers true, whatever it is handed. -/
import Derived.Test.YtbolcbfbcjmpnaaDoorRef3
namespace Go.Proofs.YtbolcbfbcjmpnaaDoor
open Go.RowKit Go.BigFrame Go.Sort

/-- Week's answer, whatever it is handed: the program's and the reference's. -/
theorem week_all (n : Int) : ∃ y k d e : Int, (∀ w, Calls Tryd.prog 18 #[.int .i64 n] w fun r w' => r = .returned (.tuple #[.agg #[.int .i64 y, .int .i64 k, .int .i64 d], .int .i64 e]) ∧ Below w.heap.size w w') ∧
    (∀ w, Calls Tryd.prog 20 #[.int .i64 n] w fun r w' => r = .returned (.tuple #[.agg #[.int .i64 y, .int .i64 k, .int .i64 d], .int .i64 e]) ∧ Below w.heap.size w w') := by
  by_cases h : 1 ≤ n ∧ n ≤ 3652059
  · exact ⟨_, _, _, 0, fun w => week_ok n w h.1 h.2, fun w => weekOf_ok n w h.1 h.2⟩
  · exact ⟨0, 0, 0, 3, fun w => week_err n w (by omega), fun w => weekOf_err n w (by omega)⟩

set_option maxHeartbeats 4000000 in
theorem weekTells_any (n y k d : Int) (w : World) (hw : Laid w) :
    Calls Tryd.prog 7 #[.int .i64 n, .agg #[.int .i64 y, .int .i64 k, .int .i64 d]] w fun e w' => e = .returned (.bool true) ∧ Below w.heap.size w w' := by
  obtain ⟨ay, ak, ad, ae, hwk, hwo⟩ := week_all n
  obtain ⟨X, E, hT⟩ := told_ex y k d
  go_enter Tryd.func7, Tryd.ntmps7
  go_wp2_with fail
  have l1 := Laid.below hw (below_box w (.cells #[.int .i64 y, .int .i64 k, .int .i64 d] 35))
  have B1 := below_next (Below.refl _ w) (Nat.le_refl _) (below_box w (.cells #[.int .i64 y, .int .i64 k, .int .i64 d] 35))
  clear hw
  have p1 := Has3.new w (y) (k) (d) 35
  refine (hwk _).mono ?_; rintro e w1 ⟨rfl, b1⟩
  have l2 := Laid.below l1 b1
  have B2 := below_next B1 (Nat.le_refl _) b1
  have p2 := Has3.below p1 b1
  clear l1 B1 p1
  clear b1
  have l3 := Laid.below l2 (below_box w1 (.cells #[.int .i64 ay, .int .i64 ak, .int .i64 ad] 35))
  have B3 := below_next B2 (Nat.le_refl _) (below_box w1 (.cells #[.int .i64 ay, .int .i64 ak, .int .i64 ad] 35))
  have p3 := Has3.below p2 (below_box w1 (.cells #[.int .i64 ay, .int .i64 ak, .int .i64 ad] 35))
  clear l2 B2 p2
  have a3 := Has3.new w1 (ay) (ak) (ad) 35
  have sp0 := p3.2.1
  have sp1 := p3.2.2.1
  have sp2 := p3.2.2.2
  go_wp2_with fail
  clear sp0 sp1 sp2
  refine (ofWeek_all y k d X E _ hT).mono ?_; rintro e w2 ⟨rfl, b2⟩
  have l4 := Laid.below l3 b2
  have B4 := below_next B3 (Nat.le_refl _) b2
  have p4 := Has3.below p3 b2
  have a4 := Has3.below a3 b2
  clear l3 B3 p3 a3
  clear b2
  go_wp2_with fail
  refine (hwo _).mono ?_; rintro e w3 ⟨rfl, b3⟩
  have l5 := Laid.below l4 b3
  have B5 := below_next B4 (Nat.le_refl _) b3
  have p5 := Has3.below p4 b3
  have a5 := Has3.below a4 b3
  clear l4 B4 p4 a4
  clear b3
  have l6 := Laid.below l5 (below_box w3 (.cells #[.int .i64 ay, .int .i64 ak, .int .i64 ad] 35))
  have B6 := below_next B5 (Nat.le_refl _) (below_box w3 (.cells #[.int .i64 ay, .int .i64 ak, .int .i64 ad] 35))
  have p6 := Has3.below p5 (below_box w3 (.cells #[.int .i64 ay, .int .i64 ak, .int .i64 ad] 35))
  have a6 := Has3.below a5 (below_box w3 (.cells #[.int .i64 ay, .int .i64 ak, .int .i64 ad] 35))
  clear l5 B5 p5 a5
  have x6 := Has3.new w3 (ay) (ak) (ad) 35
  have sp0 := p6.2.1
  have sp1 := p6.2.2.1
  have sp2 := p6.2.2.2
  go_wp2_with fail
  clear sp0 sp1 sp2
  refine (weekNo_all y k d X E _ hT).mono ?_; rintro e w4 ⟨rfl, b4⟩
  have l7 := Laid.below l6 b4
  have B7 := below_next B6 (Nat.le_refl _) b4
  have p7 := Has3.below p6 b4
  have a7 := Has3.below a6 b4
  have x7 := Has3.below x6 b4
  clear l6 B6 p6 a6 x6
  clear b4
  go_wp2_with fail
  refine (begun_any _ l7).mono ?_; rintro e w5 ⟨rfl, b5⟩
  have l8 := Laid.below l7 b5
  have B8 := below_next B7 (Nat.le_refl _) b5
  have p8 := Has3.below p7 b5
  have a8 := Has3.below a7 b5
  have x8 := Has3.below x7 b5
  clear l7 B7 p7 a7 x7
  clear b5
  have sa0 := a8.2.1
  have sa1 := a8.2.2.1
  have sa2 := a8.2.2.2
  have sx0 := x8.2.1
  have sx1 := x8.2.2.1
  have sx2 := x8.2.2.2
  go_wp2
  go_ret
  exact ⟨rfl, B8⟩
end Go.Proofs.YtbolcbfbcjmpnaaDoor
