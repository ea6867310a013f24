/- What must be in any case (shareBegun) is so. -/
import Derived.Test.YthbobmanicnplabHHam
import Derived.Test.YthbobmanicnplabHRef
namespace Go.Proofs.Ythbobmanicnplab
open Go.RowKit Go.BigFrame Go.Sort

theorem row1_four (w : World) (a b c d : Int) (t : TypeId) : Row1 (w.alloc (.cells #[.int .i64 a, .int .i64 b, .int .i64 c, .int .i64 d] t)) (some ⟨w.heap.size, 0, none⟩) [a, b, c, d] := by
  refine .inr ⟨w.heap.size, 0, rfl, by simp, fun i hi => ?_⟩
  match i, hi with
  | 0, _ => simp
  | 1, _ => simp
  | 2, _ => simp
  | 3, _ => simp
theorem row1_two (w : World) (a b : Int) (t : TypeId) : Row1 (w.alloc (.cells #[.int .i64 a, .int .i64 b] t)) (some ⟨w.heap.size, 0, none⟩) [a, b] := by
  refine .inr ⟨w.heap.size, 0, rfl, by simp, fun i hi => ?_⟩
  match i, hi with
  | 0, _ => simp
  | 1, _ => simp
theorem pEven_at (T m : Int) (xs : List Int) (c : Int) (w : World) (hx : Shr.evn T m = xs) (hc : Shr.ecode T m = c) :
    Calls Try.prog 15 #[.int .i64 T, .int .i64 m] w fun e w' => ∃ a cap, e = .returned (.tuple #[.slice a xs.length cap, .int .i64 c]) ∧ Row1 w' a xs ∧ Below w.heap.size w w' := by
  subst hx hc
  refine (pEven T m w).mono ?_
  rintro e w' ⟨v, rfl, ho, hb⟩
  obtain ⟨a, cap, rfl, hr⟩ := ho.row
  exact ⟨a, cap, rfl, hr, hb⟩
theorem pHam_at (T : Int) (l : List Int) (a : Option Addr) (cap : Nat) (xs : List Int) (c : Int) (w : World) (hl : l.length ≤ maxLen) (hr : Row1 w a l) (hx : Shr.ham T l = xs) (hc : Shr.code T l = c) :
    Calls Try.prog 4 #[.int .i64 T, .slice a l.length cap] w fun e w' => ∃ a' cap', e = .returned (.tuple #[.slice a' xs.length cap', .int .i64 c]) ∧ Row1 w' a' xs ∧ Below w.heap.size w w' := by
  subst hx hc
  refine (pHamilton T l a cap w hl hr).mono ?_
  rintro e w' ⟨v, rfl, ho, hb⟩
  obtain ⟨a', cap', rfl, hr'⟩ := ho.row
  exact ⟨a', cap', rfl, hr', hb⟩
theorem pJeff_at (T : Int) (l : List Int) (a : Option Addr) (cap : Nat) (xs : List Int) (c : Int) (w : World) (hl : l.length ≤ maxLen) (hr : Row1 w a l) (hx : Shr.jeff T l = xs) (hc : Shr.code T l = c) :
    Calls Try.prog 5 #[.int .i64 T, .slice a l.length cap] w fun e w' => ∃ a' cap', e = .returned (.tuple #[.slice a' xs.length cap', .int .i64 c]) ∧ Row1 w' a' xs ∧ Below w.heap.size w w' := by
  subst hx hc
  refine (pJefferson T l a cap w hl hr).mono ?_
  rintro e w' ⟨v, rfl, ho, hb⟩
  obtain ⟨a', cap', rfl, hr'⟩ := ho.row
  exact ⟨a', cap', rfl, hr', hb⟩
theorem b_even : Shr.evn 11 4 = [3, 3, 3, 2] ∧ Shr.ecode 11 4 = 0 := by decide +kernel
theorem b_ham : Shr.ham 10 [6, 3, 1, 1] = [5, 3, 1, 1] ∧ Shr.code 10 [6, 3, 1, 1] = 0 := by decide +kernel
theorem b_jeff : Shr.jeff 10 [6, 3, 1, 1] = [6, 3, 1, 0] := by decide +kernel
theorem b_none : Shr.ham 10 [0, 0] = [] ∧ Shr.code 10 [0, 0] = 5 := by decide +kernel
set_option maxHeartbeats 1000000 in
theorem hbegun_any (w : World) :
    Calls Try.prog 6 #[] w fun e w' => e = .returned (.bool true) ∧ Below w.heap.size w w' := by
  go_enter Try.func6, Try.ntmps6
  go_wp2_with fail
  refine (pEven_at 11 4 [3, 3, 3, 2] 0 _ b_even.1 b_even.2).mono ?_; rintro e w1 ⟨a1, k1, rfl, r1, b1⟩
  go_wp2_with fail
  have r2 := row1_four w1 6 3 1 1 3
  have q1 := r1.below (below_box w1 (.cells #[.int .i64 6, .int .i64 3, .int .i64 1, .int .i64 1] 3))
  have B1 := below_on b1 (Nat.le_refl _) (below_box w1 (.cells #[.int .i64 6, .int .i64 3, .int .i64 1, .int .i64 1] 3))
  refine (pHam_at 10 [6, 3, 1, 1] _ _ [5, 3, 1, 1] 0 _ (by decide) r2 b_ham.1 b_ham.2).mono ?_; rintro e w2 ⟨a2, k2, rfl, r2', b2⟩
  replace q1 := q1.below b2
  have B2 := below_on B1 (Nat.le_refl _) b2
  clear r1 b1 r2 b2 B1
  go_wp2_with fail
  have r3 := row1_four w2 6 3 1 1 3
  have bx := below_box w2 (.cells #[.int .i64 6, .int .i64 3, .int .i64 1, .int .i64 1] 3)
  replace q1 := q1.below bx
  have q2 := r2'.below bx
  have B3 := below_on B2 (Nat.le_refl _) bx
  refine (pJeff_at 10 [6, 3, 1, 1] _ _ [6, 3, 1, 0] 0 _ (by decide) r3 b_jeff b_ham.2).mono ?_; rintro e w3 ⟨a3, k3, rfl, r3', b3⟩
  replace q1 := q1.below b3
  replace q2 := q2.below b3
  have B4 := below_on B3 (Nat.le_refl _) b3
  clear r3 b3 B3 B2 bx r2'
  go_wp2_with fail
  have r4 := row1_two w3 0 0 3
  have bx := below_box w3 (.cells #[.int .i64 0, .int .i64 0] 3)
  replace q1 := q1.below bx
  replace q2 := q2.below bx
  have q3 := r3'.below bx
  have B5 := below_on B4 (Nat.le_refl _) bx
  refine (pHam_at 10 [0, 0] _ _ [] 5 _ (by decide) r4 b_none.1 b_none.2).mono ?_; rintro e w4 ⟨a4, k4, rfl, -, b4⟩
  replace q1 := q1.below b4
  replace q2 := q2.below b4
  replace q3 := q3.below b4
  have B6 := below_on B5 (Nat.le_refl _) b4
  clear r4 b4 B4 B5 bx r3'
  go_wp2_with fail
  have bx := below_box w4 (.cells #[.int .i64 3, .int .i64 3, .int .i64 3, .int .i64 2] 3)
  have B7 := below_on B6 (Nat.le_refl _) bx
  refine (hSame [3, 3, 3, 2] _ _ _ _ _ (by decide) (q1.below bx) (row1_four w4 3 3 3 2 3)).mono ?_; rintro e w5 ⟨rfl, b5⟩
  replace q2 := (q2.below bx).below b5
  replace q3 := (q3.below bx).below b5
  have B8 := below_on B7 (Nat.le_refl _) b5
  clear bx b5 B6 B7 q1
  go_wp2_with fail
  have bx := below_box w5 (.cells #[.int .i64 5, .int .i64 3, .int .i64 1, .int .i64 1] 3)
  have B9 := below_on B8 (Nat.le_refl _) bx
  refine (hSame [5, 3, 1, 1] _ _ _ _ _ (by decide) (q2.below bx) (row1_four w5 5 3 1 1 3)).mono ?_; rintro e w6 ⟨rfl, b6⟩
  replace q3 := (q3.below bx).below b6
  have C1 := below_on B9 (Nat.le_refl _) b6
  clear bx b6 B8 B9 q2
  go_wp2_with fail
  have bx := below_box w6 (.cells #[.int .i64 6, .int .i64 3, .int .i64 1, .int .i64 0] 3)
  have C2 := below_on C1 (Nat.le_refl _) bx
  refine (hSame [6, 3, 1, 0] _ _ _ _ _ (by decide) (q3.below bx) (row1_four w6 6 3 1 0 3)).mono ?_; rintro e w7 ⟨rfl, b7⟩
  have C3 := below_on C2 (Nat.le_refl _) b7
  clear bx b7 C1 C2 q3
  go_wp2
  go_ret
  exact ⟨rfl, C3⟩
end Go.Proofs.Ythbobmanicnplab
