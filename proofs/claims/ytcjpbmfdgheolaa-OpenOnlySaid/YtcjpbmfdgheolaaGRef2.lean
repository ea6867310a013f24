/- The walks of the document's own tags: a round, the start, a word taken, the end. -/
import Derived.Test.YtcjpbmfdgheolaaGRef
import Derived.Test.YtcjpbmfdgheolaaGTk
namespace Go.Proofs.Ytcjpbmfdgheolaa
open Go.RowKit

theorem xored_n (x : Tg.W) (n : Int) (h0 : 0 ≤ n) (h1 : n < 18446744073709551616) (w : World) :
    Calls Try.prog 46 #[.int .u64 (wd x), .int .u64 n] w fun e w' => e = .returned (.int .u64 (wd (x ^^^ BitVec.ofNat 64 n.toNat))) ∧ w' = w := by
  have e : n = wd (BitVec.ofNat 64 n.toNat) := by rw [wd_of _ (by omega)]; omega
  have := xored_any x (BitVec.ofNat 64 n.toNat) w
  rw [← e] at this
  exact this
set_option maxRecDepth 100000 in
set_option maxHeartbeats 4000000 in
theorem roundOf_any (a b c d : Tg.W) (w : World) :
    Calls Try.prog 47 #[.agg #[.int .u64 (wd a), .int .u64 (wd b), .int .u64 (wd c), .int .u64 (wd d)]] w fun e w' => e = .returned (v4 (Tg.rnd (a, b, c, d))) ∧ Below w.heap.size w w' := by
  have ra := wd_add
  go_enter Try.func47, Try.ntmps47
  go_upto_region 1 with fail
  go_big_region
  go_wp2_with (first
    | (go_at_call 49; refine (turned_at _ _ (by decide) (by decide) _).mono ?_; rintro e w' ⟨rfl, rfl⟩)
    | (go_at_call 46; refine (xored_any _ _ _).mono ?_; rintro e w' ⟨rfl, rfl⟩))
  exact bodyPost_ret (v := v4 (Tg.rnd (a, b, c, d))) (by simp [results, Try.results47, go_sem, Tg.rnd, v4]) rfl ⟨rfl, ((below_box w _).alloc (by simp) _).drew⟩
set_option maxRecDepth 100000 in
set_option maxHeartbeats 4000000 in
theorem startOf_any (a b : Tg.W) (w : World) :
    Calls Try.prog 41 #[.agg #[.int .u64 (wd a), .int .u64 (wd b)]] w fun e w' => e = .returned (v4 (Tg.start a b)) ∧ Below w.heap.size w w' := by
  go_enter Try.func41, Try.ntmps41
  go_upto_region 1 with fail
  go_region_held3 (fun w' => w'.cell? ⟨w.heap.size, 0, none⟩ = some (.int .u64 (wd a)) ∧ w'.cell? ⟨w.heap.size, 1, none⟩ = some (.int .u64 (wd b))) (go_keep)
    ((go_at_call 46; refine (xored_n _ _ (by decide) (by decide) _).mono ?_; rintro e w' ⟨rfl, rfl⟩))
  all_goals go_wp2
  all_goals exact bodyPost_ret (v := v4 (Tg.start a b)) (by simp [results, Try.results41, go_sem, Tg.start, v4]) rfl ⟨rfl, ((below_box w _).alloc (by simp) _).drew⟩
set_option maxRecDepth 100000 in
set_option maxHeartbeats 2000000 in
theorem takenOf_any (a b c d m : Tg.W) (w : World) :
    Calls Try.prog 43 #[.agg #[.int .u64 (wd a), .int .u64 (wd b), .int .u64 (wd c), .int .u64 (wd d)], .int .u64 (wd m)] w fun e w' => e = .returned (v4 (Tg.take (a, b, c, d) m)) ∧ Below w.heap.size w w' := by
  have O : Hid (Own4 ((w.alloc (.cells #[.int .u64 (wd a), .int .u64 (wd b), .int .u64 (wd c), .int .u64 (wd (d ^^^ m))] 62)).alloc (.cells #[.int .u64 0, .int .u64 0, .int .u64 0, .int .u64 0] 62)) w.heap.size (a, b, c, d ^^^ m)) := (Own4.new w a b c (d ^^^ m)).alloc _
  have Z : Hid (Own4 ((w.alloc (.cells #[.int .u64 (wd a), .int .u64 (wd b), .int .u64 (wd c), .int .u64 (wd (d ^^^ m))] 62)).alloc (.cells #[.int .u64 0, .int .u64 0, .int .u64 0, .int .u64 0] 62)) (w.heap.size + 1) (0, 0, 0, 0)) := by
    have := Own4.zero (w.alloc (.cells #[.int .u64 (wd a), .int .u64 (wd b), .int .u64 (wd c), .int .u64 (wd (d ^^^ m))] 62))
    rw [World.size_alloc] at this
    exact this
  have B : Hid (Below w.heap.size w ((w.alloc (.cells #[.int .u64 (wd a), .int .u64 (wd b), .int .u64 (wd c), .int .u64 (wd (d ^^^ m))] 62)).alloc (.cells #[.int .u64 0, .int .u64 0, .int .u64 0, .int .u64 0] 62))) := (below_box w _).alloc (by simp) _
  go_enter Try.func43, Try.ntmps43
  go_upto_region 2 with (go_at_call 46; refine (xored_any _ _ _).mono ?_; rintro e w' ⟨rfl, rfl⟩)
  go_wp2_with fail
  refine (roundOf_any _ _ _ _ _).mono ?_; rintro e w0 ⟨rfl, hb0⟩
  have O0 : Hid (Own4 w0 w.heap.size (a, b, c, d ^^^ m)) := O.out.below hb0
  have Z0 : Hid (Own4 w0 (w.heap.size + 1) (0, 0, 0, 0)) := Z.out.below hb0
  have B0 : Hid (Below w.heap.size w w0) := below_on B.out (Nat.le_refl _) hb0
  clear hb0 O Z B
  go_wp2_with fail
  refine (roundOf_any _ _ _ _ _).mono ?_; rintro e w1 ⟨rfl, hb⟩
  have O1 := O0.out.below hb
  have Z1 := Z0.out.below hb
  have B1 : Hid (Below w.heap.size w w1) := below_on B0.out (Nat.le_refl _) hb
  clear hb O0 Z0 B0
  obtain ⟨c0, c1, c2, c3⟩ := O1.cells
  obtain ⟨f0, f1, f2, f3⟩ := O1.frozen
  obtain ⟨z0, z1, z2, z3⟩ := Z1.cells
  obtain ⟨g0, g1, g2, g3⟩ := Z1.frozen
  have hl1 := Z1.lt
  clear O1 Z1
  go_wp2_with (go_at_call 46; refine (xored_any _ _ _).mono ?_; rintro e w' ⟨rfl, rfl⟩)
  exact bodyPost_ret (v := v4 (Tg.take (a, b, c, d) m)) (by simp [results, Try.results43, go_sem, Tg.take, v4, *]) rfl ⟨rfl, below_set4 ((below_set4 B1.out (Nat.le_refl _) _ _ _ _).setCell (p := ⟨w.heap.size, 0, none⟩) (Nat.le_refl _) _) (by omega) _ _ _ _⟩
theorem roundOf_v (v : Tg.V) (w : World) : Calls Try.prog 47 #[v4 v] w fun e w' => e = .returned (v4 (Tg.rnd v)) ∧ Below w.heap.size w w' := roundOf_any v.1 v.2.1 v.2.2.1 v.2.2.2 w
set_option maxRecDepth 100000 in
set_option maxHeartbeats 2000000 in
theorem finishOf_any (a b c d : Tg.W) (w : World) :
    Calls Try.prog 44 #[.agg #[.int .u64 (wd a), .int .u64 (wd b), .int .u64 (wd c), .int .u64 (wd d)]] w fun e w' => e = .returned (.int .u64 (wd (Tg.fin (a, b, c, d)))) ∧ Below w.heap.size w w' := by
  have O : Hid (Own4 (w.alloc (.cells #[.int .u64 (wd a), .int .u64 (wd b), .int .u64 (wd (c ^^^ 255)), .int .u64 (wd d)] 62)) w.heap.size (a, b, c ^^^ 255, d)) := Own4.new w a b (c ^^^ 255) d
  have B : Hid (Below w.heap.size w (w.alloc (.cells #[.int .u64 (wd a), .int .u64 (wd b), .int .u64 (wd (c ^^^ 255)), .int .u64 (wd d)] 62))) := below_box w _
  go_enter Try.func44, Try.ntmps44
  go_upto_region 2 with (go_at_call 46; refine (xored_n _ _ (by decide) (by decide) _).mono ?_; rintro e w' ⟨rfl, rfl⟩)
  go_wp2_with fail
  refine (roundOf_any _ _ _ _ _).mono ?_; rintro e w0 ⟨rfl, hb0⟩
  have O0 : Hid (Own4 w0 w.heap.size (a, b, c ^^^ 255, d)) := O.out.below hb0
  have B0 : Hid (Below w.heap.size w w0) := below_on B.out (Nat.le_refl _) hb0
  clear hb0 O B
  go_wp2_with fail
  refine (roundOf_v _ _).mono ?_; rintro e w1 ⟨rfl, hb⟩
  have O1 : Hid (Own4 w1 w.heap.size (a, b, c ^^^ 255, d)) := O0.out.below hb
  have B1 : Hid (Below w.heap.size w w1) := below_on B0.out (Nat.le_refl _) hb
  clear hb O0 B0
  go_wp2_with fail
  refine (roundOf_v _ _).mono ?_; rintro e w2 ⟨rfl, hb⟩
  have O2 : Hid (Own4 w2 w.heap.size (a, b, c ^^^ 255, d)) := O1.out.below hb
  have B2 : Hid (Below w.heap.size w w2) := below_on B1.out (Nat.le_refl _) hb
  clear hb O1 B1
  go_wp2_with fail
  refine (roundOf_v _ _).mono ?_; rintro e w3 ⟨rfl, hb⟩
  have O3 := O2.out.below hb
  have B3 : Hid (Below w.heap.size w w3) := below_on B2.out (Nat.le_refl _) hb
  clear hb O2 B2
  obtain ⟨c0, c1, c2, c3⟩ := O3.cells
  obtain ⟨f0, f1, f2, f3⟩ := O3.frozen
  have hl1 := O3.lt
  clear O3
  go_upto_region 3 with fail
  go_quiet ((go_at_call 46; exact Calls.quiet_of_same (xored_any _ _ _)))
  go_wp2
  go_ret
  refine ⟨ret_int ?_, below_drewN (below_set4 B3.out (Nat.le_refl _) _ _ _ _) _⟩
  refine congrArg wd ?_
  unfold Tg.fin
  rw [BitVec.xor_assoc (_ ^^^ _) _ _]
  rfl
end Go.Proofs.Ytcjpbmfdgheolaa
