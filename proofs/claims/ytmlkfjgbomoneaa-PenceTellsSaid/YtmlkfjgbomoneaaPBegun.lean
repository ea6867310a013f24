/- What must be in any case (penceBegun) is so. -/
import Derived.Test.YtmlkfjgbomoneaaPen2
namespace Go.Proofs.Ytmlkfjgbomoneaa
open Go.RowKit

theorem row1_three (w : World) (a b c : Int) (t : TypeId) : Row1 (w.alloc (.cells #[.int .i64 a, .int .i64 b, .int .i64 c] t)) (some ⟨w.heap.size, 0, none⟩) [a, b, c] := by
  refine .inr ⟨w.heap.size, 0, rfl, by simp, fun i hi => ?_⟩
  match i, hi with
  | 0, _ => simp
  | 1, _ => simp
  | 2, _ => simp
theorem pPart_at (p num d way x e : Int) (w : World) (hx : Pen.part p num d way = x) (he : Pen.partE p num d way = e) :
    Calls Try.prog 9 #[.int .i64 p, .int .i64 num, .int .i64 d, .int .i64 way] w fun e' w' => e' = .returned (.tuple #[.int .i64 x, .int .i64 e]) ∧ Below w.heap.size w w' := by
  subst hx he; exact pPart_any p num d way w
theorem pSum_at (l : List Int) (x e : Int) (a : Option Addr) (cap : Nat) (w : World) (hl : l.length ≤ 32) (hr : Row1 w a l) (hx : Pen.tot l = x) (he : Pen.totE l = e) :
    Calls Try.prog 8 #[.slice a l.length cap] w fun e' w' => e' = .returned (.tuple #[.int .i64 x, .int .i64 e]) ∧ w' = w := by
  subst hx he; exact pSum_any l a cap w hl hr
theorem pAdd_at (a b x e : Int) (w : World) (hx : Pen.tot [a, b] = x) (he : Pen.totE [a, b] = e) :
    Calls Try.prog 7 #[.int .i64 a, .int .i64 b] w fun e' w' => e' = .returned (.tuple #[.int .i64 x, .int .i64 e]) ∧ Below w.heap.size w w' := by
  subst hx he; exact pAdd_any a b w
set_option maxHeartbeats 400000 in
theorem pbegun_any (w : World) :
    Calls Try.prog 12 #[] w fun e w' => e = .returned (.bool true) ∧ Below w.heap.size w w' := by
  go_enter Try.func12, Try.ntmps12
  go_wp2_with fail
  refine (pPart_at 5 1 2 4 2 0 _ (by decide) (by decide)).mono ?_; rintro e w1 ⟨rfl, b1⟩
  go_wp2_with fail
  refine (pPart_at (-5) 1 2 3 (-3) 0 _ (by decide) (by decide)).mono ?_; rintro e w2 ⟨rfl, b2⟩
  have B2 := below_on b1 (Nat.le_refl _) b2
  clear b1 b2
  go_wp2_with fail
  refine (pPart_at 7 1 3 2 3 0 _ (by decide) (by decide)).mono ?_; rintro e w3 ⟨rfl, b3⟩
  have B3 := below_on B2 (Nat.le_refl _) b3
  clear B2 b3
  go_wp2_with fail
  refine (pSum_at [1099511627776, 5, -6] 1099511627775 0 _ _ _ (by decide) (row1_three _ _ _ _ _) (by decide) (by decide)).mono ?_; rintro e w4 ⟨rfl, rfl⟩
  have B4 := below_on B3 (Nat.le_refl _) (below_box _ (.cells #[.int .i64 1099511627776, .int .i64 5, .int .i64 (-6)] 3))
  clear B3
  go_wp2_with fail
  refine (pAdd_at 1099511627776 1 0 8 _ (by decide) (by decide)).mono ?_; rintro e w5 ⟨rfl, b5⟩
  have B5 := below_on B4 (Nat.le_refl _) b5
  clear B4 b5
  go_wp2
  go_ret
  exact ⟨rfl, B5⟩
end Go.Proofs.Ytmlkfjgbomoneaa
