/- The walks of package tag: the way back. -/
import Derived.Test.YtfjajnpeehdbaaaGWk
namespace Go.Proofs.Ytfjajnpeehdbaaa
open Go.RowKit

set_option maxRecDepth 100000 in
set_option maxHeartbeats 4000000 in
theorem back_any (a b c d : Tg.W) (w : World) :
    Calls Try.prog 22 #[.agg #[.int .u64 (wd a), .int .u64 (wd b), .int .u64 (wd c), .int .u64 (wd d)]] w fun e w' => e = .returned (.agg #[.int .u64 (wd (Tg.bck (a, b, c, d)).1), .int .u64 (wd (Tg.bck (a, b, c, d)).2.1), .int .u64 (wd (Tg.bck (a, b, c, d)).2.2.1), .int .u64 (wd (Tg.bck (a, b, c, d)).2.2.2)]) ∧ Below w.heap.size w w' := by
  have ra := wd_sub
  have rx := wd_xor
  have t1 : tk (-32) = 32 := rfl
  have t2 : tk (-17) = 47 := rfl
  have t3 : tk (-21) = 43 := rfl
  have t4 : tk (-16) = 48 := rfl
  have t5 : tk (-13) = 51 := rfl
  go_enter Try.func22, Try.ntmps22
  go_wp2_with (go_at_call 23; refine (rot_all _ _ (by decide) _).mono ?_; rintro e w' ⟨rfl, rfl⟩)
  exact bodyPost_ret (v := .agg #[.int .u64 (wd (Tg.bck (a, b, c, d)).1), .int .u64 (wd (Tg.bck (a, b, c, d)).2.1), .int .u64 (wd (Tg.bck (a, b, c, d)).2.2.1), .int .u64 (wd (Tg.bck (a, b, c, d)).2.2.2)]) (by simp [results, Try.results22, go_sem, Tg.bck]) rfl ⟨rfl, (below_box w _).alloc (by simp) _⟩
end Go.Proofs.Ytfjajnpeehdbaaa
