/- The walk of PenceNear: it answers true, whatever it is handed. -/
import Derived.Test.YtmlkfjgbomoneaaPBegun
namespace Go.Proofs.Ytmlkfjgbomoneaa
open Go.RowKit

set_option maxHeartbeats 1000000 in
theorem penceNear_any (p num d way : Int) (w : World) :
    Calls Try.prog 4 #[.int .i64 p, .int .i64 num, .int .i64 d, .int .i64 way] w fun e w' => e = .returned (.bool true) ∧ Below w.heap.size w w' := by
  by_cases h : Pen.partE p num d way = 0
  · obtain ⟨ha, hw1, hw2, h1, h2, h3, h4⟩ := Pen.ok_of p num d way h
    obtain ⟨e1, e2⟩ := Pen.ok_raw p num d way h
    obtain ⟨N, A, hN, hA, n1, n2, n3, n4, n5⟩ := Pen.raw_near p num d way hw1 hw2 h1 h3
    have hp := Pen.amt_yes p ha
    have hA2 := Pen.mul_bd p num hp.1 hp.2 h1 h2
    rw [hA] at hA2
    have hx := Pen.amt_yes _ e2
    have HP : Hid (Pen.part p num d way = Pen.raw p num d way) := e1
    have HE : Hid (Pen.partE p num d way = 0) := h
    clear h e1 e2 ha
    generalize Pen.raw p num d way = X at *
    by_cases hneg : N - A < 0
    all_goals
      by_cases hs : p < 0
      all_goals
        rcases (show way = 1 ∨ way = 2 ∨ 3 ≤ way by omega) with hw | hw | hw
        · have n4' := n4 hw
          subst hw
          clear n3 n4 n5
          go_enter Try.func4, Try.ntmps4
          go_wp2_with (first
            | (go_at_call 9; refine (pPart_at _ _ _ _ X 0 _ HP.out HE.out).mono ?_; rintro e w1 ⟨rfl, b1⟩)
            | (go_at_call 12; refine (pbegun_any _).mono ?_; rintro e w2 ⟨rfl, b2⟩))
          all_goals first | omega | (go_ret; exact ⟨ret_bool (by simp <;> omega), below_on b1 (Nat.le_refl _) b2⟩)
        · have n5' := n5 hw
          subst hw
          clear n3 n4 n5
          go_enter Try.func4, Try.ntmps4
          go_wp2_with (first
            | (go_at_call 9; refine (pPart_at _ _ _ _ X 0 _ HP.out HE.out).mono ?_; rintro e w1 ⟨rfl, b1⟩)
            | (go_at_call 12; refine (pbegun_any _).mono ?_; rintro e w2 ⟨rfl, b2⟩))
          all_goals first | omega | (go_ret; exact ⟨ret_bool (by simp <;> omega), below_on b1 (Nat.le_refl _) b2⟩)
        · have n3' := n3 hw
          have hw3 : (way != 1) = true := by simp; omega
          have hw4 : (way != 2) = true := by simp; omega
          clear n3 n4 n5
          go_enter Try.func4, Try.ntmps4
          go_wp2_with (first
            | (go_at_call 9; refine (pPart_at _ _ _ _ X 0 _ HP.out HE.out).mono ?_; rintro e w1 ⟨rfl, b1⟩)
            | (go_at_call 12; refine (pbegun_any _).mono ?_; rintro e w2 ⟨rfl, b2⟩))
          all_goals first | omega | (go_ret; exact ⟨ret_bool (by simp <;> omega), below_on b1 (Nat.le_refl _) b2⟩)
  · have hz := Pen.err_zero p num d way h
    have he : (Pen.partE p num d way != 0) = true := by simpa using h
    have HZ : Hid (Pen.part p num d way = 0) := hz
    have HE : Hid (Pen.partE p num d way = Pen.partE p num d way) := rfl
    clear hz h
    generalize hq : Pen.partE p num d way = E at *
    clear HE
    have HQ : Hid (Pen.partE p num d way = E) := hq
    clear hq
    go_enter Try.func4, Try.ntmps4
    go_wp2_with (first
      | (go_at_call 9; refine (pPart_at _ _ _ _ 0 E _ HZ.out HQ.out).mono ?_; rintro e w1 ⟨rfl, b1⟩)
      | (go_at_call 12; refine (pbegun_any _).mono ?_; rintro e w2 ⟨rfl, b2⟩))
    go_ret
    exact ⟨rfl, below_on b1 (Nat.le_refl _) b2⟩
end Go.Proofs.Ytmlkfjgbomoneaa
