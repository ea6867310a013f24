/- The walks of package tag: a round, and its way back. -/
import Derived.Test.YtcjpbmfdgheolaaGWk
import Derived.RegionTactic
import Derived.BigRegion
import Derived.Deep.RegionHeld3
import Derived.Deep.DeepCutAuto
namespace Go.Proofs.Ytcjpbmfdgheolaa
open Go.RowKit

/-- four words as a value -/
abbrev v4 (v : Tg.V) : Value := .agg #[.int .u64 (wd v.1), .int .u64 (wd v.2.1), .int .u64 (wd v.2.2.1), .int .u64 (wd v.2.2.2)]
set_option maxRecDepth 100000 in
set_option maxHeartbeats 4000000 in
theorem round_any (a b c d : Tg.W) (w : World) :
    Calls Try.prog 48 #[.agg #[.int .u64 (wd a), .int .u64 (wd b), .int .u64 (wd c), .int .u64 (wd d)]] w fun e w' => e = .returned (v4 (Tg.rnd (a, b, c, d))) ∧ Below w.heap.size w w' := by
  have ra := wd_add
  have rx := wd_xor
  go_enter Try.func48, Try.ntmps48
  go_upto_region 2 with fail
  go_cut [] (fun wx => wx = (((w.alloc (.cells #[.int .u64 (wd (a + b)), .int .u64 (wd (Tg.rl b 13 ^^^ (a + b))), .int .u64 (wd c), .int .u64 (wd d)] 62)).alloc (.cells #[.int .u64 0, .int .u64 0, .int .u64 0, .int .u64 0] 62)).drew))
  case first =>
    go_region_with ((go_at_call 50; refine (rot_13 _ _).mono ?_; rintro e w' ⟨rfl, rfl⟩))
    all_goals (go_wp2_with fail; go_meet; rfl)
  case rest =>
    subst hcut
    go_upto_region 5 with ((go_at_call 50; refine (rot_32 _ _).mono ?_; rintro e w' ⟨rfl, rfl⟩))
    go_cut [] (fun wx => wx = (((w.alloc (.cells #[.int .u64 (wd (Tg.rl (a + b) 32)), .int .u64 (wd (Tg.rl b 13 ^^^ (a + b))), .int .u64 (wd (c + d)), .int .u64 (wd (Tg.rl d 16 ^^^ (c + d)))] 62)).alloc (.cells #[.int .u64 0, .int .u64 0, .int .u64 0, .int .u64 0] 62)).drew.drew))
    case first =>
      go_region_with ((go_at_call 50; refine (rot_16 _ _).mono ?_; rintro e w' ⟨rfl, rfl⟩))
      all_goals (go_wp2_with fail; go_meet; rfl)
    case rest =>
      subst hcut
      go_upto_region 7 with fail
      go_cut [] (fun wx => wx = (((w.alloc (.cells #[.int .u64 (wd ((Tg.rl (a + b) 32) + (Tg.rl d 16 ^^^ (c + d)))), .int .u64 (wd (Tg.rl b 13 ^^^ (a + b))), .int .u64 (wd (c + d)), .int .u64 (wd (Tg.rl (Tg.rl d 16 ^^^ (c + d)) 21 ^^^ ((Tg.rl (a + b) 32) + (Tg.rl d 16 ^^^ (c + d)))))] 62)).alloc (.cells #[.int .u64 0, .int .u64 0, .int .u64 0, .int .u64 0] 62)).drew.drew.drew))
      case first =>
        go_region_with ((go_at_call 50; refine (rot_21 _ _).mono ?_; rintro e w' ⟨rfl, rfl⟩))
        all_goals (go_wp2_with fail; go_meet; rfl)
      case rest =>
        subst hcut
        go_upto_region 9 with fail
        go_cut [] (fun wx => wx = (((w.alloc (.cells #[.int .u64 (wd ((Tg.rl (a + b) 32) + (Tg.rl d 16 ^^^ (c + d)))), .int .u64 (wd (Tg.rl (Tg.rl b 13 ^^^ (a + b)) 17 ^^^ ((c + d) + (Tg.rl b 13 ^^^ (a + b))))), .int .u64 (wd ((c + d) + (Tg.rl b 13 ^^^ (a + b)))), .int .u64 (wd (Tg.rl (Tg.rl d 16 ^^^ (c + d)) 21 ^^^ ((Tg.rl (a + b) 32) + (Tg.rl d 16 ^^^ (c + d)))))] 62)).alloc (.cells #[.int .u64 0, .int .u64 0, .int .u64 0, .int .u64 0] 62)).drew.drew.drew.drew))
        case first =>
          go_region_with ((go_at_call 50; refine (rot_17 _ _).mono ?_; rintro e w' ⟨rfl, rfl⟩))
          all_goals (go_wp2_with fail; go_meet; rfl)
        case rest =>
          subst hcut
          go_wp2_with ((go_at_call 50; refine (rot_32 _ _).mono ?_; rintro e w' ⟨rfl, rfl⟩))
          exact bodyPost_ret (v := v4 (Tg.rnd (a, b, c, d))) (by simp [results, Try.results48, go_sem, Tg.rnd, v4]) rfl ⟨rfl, (((((below_box w _).alloc (by simp) _).drew).drew).drew).drew⟩
end Go.Proofs.Ytcjpbmfdgheolaa
