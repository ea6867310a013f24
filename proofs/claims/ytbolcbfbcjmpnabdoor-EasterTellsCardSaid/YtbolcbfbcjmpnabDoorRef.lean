/- The walks of the document's own answers (the reference): they come to the same plain mathematics; nothing old in memory turns. -/
import Derived.Test.YtbolcbfbcjmpnabDoorCore
import Derived.Deep.RegionWith
namespace Go.Proofs.YtbolcbfbcjmpnabDoor
open Go.RowKit

theorem floor_any (a : Int) (w : World) (h1 : 0 ≤ a) (h2 : a ≤ 20000) :
    Calls Tryd.prog 30 #[.int .i64 a, .int .i64 400] w fun e w' => e = .returned (.int .i64 (a / 400)) ∧ w' = w := by
  by_cases h : a % 400 = 0
  all_goals
    go_enter Tryd.func30, Tryd.ntmps30
    go_wp2
    go_ret
    exact ⟨rfl, rfl⟩
set_option maxHeartbeats 400000 in
theorem dayOf_any (y m d : Int) (w : World) (h1 : 1 ≤ y) (h2 : y ≤ 10000) (h3 : 1 ≤ m) (h4 : m ≤ 12) (h5 : 1 ≤ d) (h6 : d ≤ 31) :
    Calls Tryd.prog 24 #[.agg #[.int .i64 y, .int .i64 m, .int .i64 d]] w fun e w' => e = .returned (.int .i64 (Cal.num y m d)) ∧ Below w.heap.size w w' := by
  by_cases hm : 3 ≤ m
  · have HN : Hid (_) := Cal.dayOf_hi y m d hm
    go_enter Tryd.func24, Tryd.ntmps24
    go_wp2_with (go_at_call 30; refine (floor_any _ _ (by omega) (by omega)).mono ?_; rintro e w' ⟨rfl, rfl⟩)
    go_ret
    exact ⟨ret_int HN.out, below_box _ _⟩
  · have HN : Hid (_) := Cal.dayOf_lo y m d h3 (by omega)
    go_enter Tryd.func24, Tryd.ntmps24
    go_wp2_with (go_at_call 30; refine (floor_any _ _ (by omega) (by omega)).mono ?_; rintro e w' ⟨rfl, rfl⟩)
    go_ret
    exact ⟨ret_int HN.out, below_box _ _⟩
end Go.Proofs.YtbolcbfbcjmpnabDoor
