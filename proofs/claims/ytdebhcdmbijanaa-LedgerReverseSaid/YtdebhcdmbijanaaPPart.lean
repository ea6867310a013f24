/- The walks of pence's entry points: Add, Sum, Part. -/
import Derived.Test.YtdebhcdmbijanaaPWk
namespace Go.Proofs.Ytdebhcdmbijanaa
open Go.RowKit

theorem row1_two (w : World) (a b : Int) (t : TypeId) : Row1 (w.alloc (.cells #[.int .i64 a, .int .i64 b] t)) (some ⟨w.heap.size, 0, none⟩) [a, b] := by
  refine .inr ⟨w.heap.size, 0, rfl, by simp, fun i hi => ?_⟩
  match i, hi with
  | 0, _ => simp
  | 1, _ => simp
theorem pAdd_any (a b : Int) (w : World) :
    Calls Try.prog 36 #[.int .i64 a, .int .i64 b] w fun e w' => e = .returned (.tuple #[.int .i64 (Pen.tot [a, b]), .int .i64 (Pen.totE [a, b])]) ∧ Below w.heap.size w w' := by
  go_enter Try.func36, Try.ntmps36
  go_wp2_with (go_at_call 37; refine (total_any [a, b] _ _ _ (by simp) (row1_two _ _ _ _)).mono ?_; rintro e w' ⟨rfl, rfl⟩)
  go_ret2
  exact ⟨rfl, below_box _ _⟩
end Go.Proofs.Ytdebhcdmbijanaa
