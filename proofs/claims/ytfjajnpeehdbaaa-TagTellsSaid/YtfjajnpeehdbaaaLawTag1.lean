/- The walks of RoundBack and TakeApart: they answer true, whatever they are handed. -/
import Derived.Test.YtfjajnpeehdbaaaGOf
import Derived.Test.YtfjajnpeehdbaaaGBck
import Derived.Lib.QuietBelow
import Derived.BigQuiet
namespace Go.Proofs.Ytfjajnpeehdbaaa
open Go.RowKit Go.BigFrame Go.Sort

theorem back_v (v : Tg.V) (w : World) : Calls Try.prog 22 #[v4 v] w fun e w' => e = .returned (v4 (Tg.bck v)) ∧ Below w.heap.size w w' := back_any v.1 v.2.1 v.2.2.1 v.2.2.2 w
theorem round_v (v : Tg.V) (w : World) : Calls Try.prog 9 #[v4 v] w fun e w' => e = .returned (v4 (Tg.rnd v)) ∧ Below w.heap.size w w' := round_any v.1 v.2.1 v.2.2.1 v.2.2.2 w
set_option maxHeartbeats 1000000 in
theorem eq4 (a b c d a' b' c' d' : Int) (w : World) : (Op.equalIn 10000 23 (.agg #[.int .u64 a, .int .u64 b, .int .u64 c, .int .u64 d]) (.agg #[.int .u64 a', .int .u64 b', .int .u64 c', .int .u64 d'])).run Try.prog w = .ok (a == a' && b == b' && c == c' && d == d') w := by
  have u4 := Try.underlying22
  have a4 := Try.isAgg22
  have z4 := Try.sizeOf22
  rw [show (10000 : Nat) = 9999 + 1 from rfl, Op.equalIn]
  simp only [Sem.run_bind, run_underlying Try.underlying23, Result.andThen_ok]
  simp only [Std.Legacy.Range.forIn_eq_forIn_range', Std.Legacy.Range.size, Nat.sub_zero, Nat.add_sub_cancel, Nat.div_one, List.range'_succ, List.range'_zero, List.forIn_cons, List.forIn_nil]
  go_simp
  by_cases h0 : a = a'
  · by_cases h1 : b = b'
    · by_cases h2 : c = c'
      · by_cases h3 : d = d' <;> simp [h0, h1, h2, h3]
      · simp [h0, h1, h2]
    · simp [h0, h1]
  · simp [h0]
theorem eqV (u v : Tg.V) (w : World) : (Op.equalIn 10000 23 (v4 u) (v4 v)).run Try.prog w = .ok (decide (u = v)) w := by
  rw [eq4]
  congr 1
  obtain ⟨a, b, c, d⟩ := u
  obtain ⟨a', b', c', d'⟩ := v
  rw [Bool.eq_iff_iff]
  simp [wd_inj, Prod.ext_iff, and_assoc]
theorem wd_ex (x : Int) (h0 : 0 ≤ x) (h1 : x < 18446744073709551616) : ∃ y : Tg.W, x = wd y := ⟨BitVec.ofNat 64 x.toNat, by rw [wd_of _ (by omega)]; omega⟩
set_option maxRecDepth 100000 in
set_option maxHeartbeats 2000000 in
theorem roundBack_any (v : Tg.V) (w : World) :
    Calls Try.prog 4 #[v4 v] w fun e w' => e = .returned (.bool true) ∧ Below w.heap.size w w' := by
  have O : Hid (Own4 (w.alloc (.cells #[.int .u64 (wd v.1), .int .u64 (wd v.2.1), .int .u64 (wd v.2.2.1), .int .u64 (wd v.2.2.2)] 23)) w.heap.size v) := Own4.new w _ _ _ _
  have B : Hid (Below w.heap.size w (w.alloc (.cells #[.int .u64 (wd v.1), .int .u64 (wd v.2.1), .int .u64 (wd v.2.2.1), .int .u64 (wd v.2.2.2)] 23))) := below_box w _
  have heq : ∀ W : World, (Op.equalIn 10000 23 (v4 v) (v4 v)).run Try.prog W = .ok true W := fun W => by rw [eqV]; simp
  have r1 := Tg.bck_rnd v
  have r2 := Tg.rnd_bck v
  go_enter Try.func4, Try.ntmps4
  go_upto_region 1 with fail
  generalize w.alloc (.cells #[.int .u64 (wd v.1), .int .u64 (wd v.2.1), .int .u64 (wd v.2.2.1), .int .u64 (wd v.2.2.2)] 23) = W at *
  obtain ⟨c0, c1, c2, c3⟩ := O.out.cells
  have k0 := cell_regrown c0
  have k1 := cell_regrown c1
  have k2 := cell_regrown c2
  have k3 := cell_regrown c3
  clear c0 c1 c2 c3 O
  refine wp_region_quiet_below (by kernel_rfl) (by kernel_rfl) ?_
  repeat go_big_quiet_step (first
    | (go_at_call 8; exact Calls.regrown_of (gbegun_any _))
    | (go_at_call 9; exact Calls.regrown_of (round_v _ _))
    | (go_at_call 22; exact Calls.regrown_of (back_v _ _)))
  refine wpQuiet_nil ?_
  intro _ hw'
  obtain ⟨⟨dq, osq⟩, hw''⟩ := hw'
  subst hw''
  go_wp2
  go_ret
  exact ⟨rfl, below_on B.out (Nat.le_refl _) (below_regrown _ dq osq)⟩
/-- the words of the law's own boxes -/
structure TA (w : World) (v u x : Tg.V) (b : Nat) (W : World) : Prop where
  v : Own4 W w.heap.size v
  u : Own4 W (w.heap.size + 1) u
  x : Own4 W b x
  ge : w.heap.size + 2 ≤ b
  below : Below w.heap.size w W
theorem TA.on {w W W' : World} {v u x : Tg.V} {b : Nat} (h : TA w v u x b W) (hb : Below W.heap.size W W') : TA w v u x b W' :=
  ⟨h.v.below hb, h.u.below hb, h.x.below hb, h.ge, below_on h.below (Nat.le_refl _) hb⟩
theorem Own4.set0 {w : World} {b : Nat} {v : Tg.V} (h : Own4 w b v) (x : Tg.W) : Own4 (w.setCell ⟨b, 0, none⟩ (.int .u64 (wd x))) b (x, v.2.1, v.2.2.1, v.2.2.2) := by
  refine World.rowIs.congr (World.rowIs.set h 0 _) (fun i hi => ?_)
  match i, hi with
  | 0, _ => rfl
  | 1, _ => rfl
  | 2, _ => rfl
  | 3, _ => rfl
theorem Own4.set3 {w : World} {b : Nat} {v : Tg.V} (h : Own4 w b v) (x : Tg.W) : Own4 (w.setCell ⟨b, 3, none⟩ (.int .u64 (wd x))) b (v.1, v.2.1, v.2.2.1, x) := by
  refine World.rowIs.congr (World.rowIs.set h 3 _) (fun i hi => ?_)
  match i, hi with
  | 0, _ => rfl
  | 1, _ => rfl
  | 2, _ => rfl
  | 3, _ => rfl
theorem TA.set0 {w W : World} {v u x : Tg.V} {b : Nat} (h : TA w v u x b W) (y : Tg.W) : TA w v u (y, x.2.1, x.2.2.1, x.2.2.2) b (W.setCell ⟨b, 0, none⟩ (.int .u64 (wd y))) := by
  have := h.ge
  exact ⟨h.v.other (by omega) _, h.u.other (by omega) _, h.x.set0 y, h.ge, h.below.setCell (p := ⟨b, 0, none⟩) (by show _ ≤ b; omega) _⟩
theorem TA.set3 {w W : World} {v u x : Tg.V} {b : Nat} (h : TA w v u x b W) (y : Tg.W) : TA w v u (x.1, x.2.1, x.2.2.1, y) b (W.setCell ⟨b, 3, none⟩ (.int .u64 (wd y))) := by
  have := h.ge
  exact ⟨h.v.other (by omega) _, h.u.other (by omega) _, h.x.set3 y, h.ge, h.below.setCell (p := ⟨b, 3, none⟩) (by show _ ≤ b; omega) _⟩
theorem TA.set {w W : World} {v u x : Tg.V} {b : Nat} (h : TA w v u x b W) (y : Tg.V) : TA w v u y b ((((W.setCell ⟨b, 0, none⟩ (.int .u64 (wd y.1))).setCell ⟨b, 1, none⟩ (.int .u64 (wd y.2.1))).setCell ⟨b, 2, none⟩ (.int .u64 (wd y.2.2.1))).setCell ⟨b, 3, none⟩ (.int .u64 (wd y.2.2.2))) := by
  have := h.ge
  exact ⟨h.v.other4 (by omega) _ _ _ _, h.u.other4 (by omega) _ _ _ _, h.x.set y, h.ge, below_set4 h.below (by omega) _ _ _ _⟩
set_option maxRecDepth 100000 in
set_option maxHeartbeats 4000000 in
theorem takeApart_any (v u : Tg.V) (m : Tg.W) (w : World) :
    Calls Try.prog 5 #[v4 v, v4 u, .int .u64 (wd m)] w fun e w' => e = .returned (.bool true) ∧ Below w.heap.size w w' := by
  have rx := wd_xor
  have T0 : Hid (Own4 ((w.alloc (.cells #[.int .u64 (wd v.1), .int .u64 (wd v.2.1), .int .u64 (wd v.2.2.1), .int .u64 (wd v.2.2.2)] 23)).alloc (.cells #[.int .u64 (wd u.1), .int .u64 (wd u.2.1), .int .u64 (wd u.2.2.1), .int .u64 (wd u.2.2.2)] 23)) w.heap.size v ∧ Own4 ((w.alloc (.cells #[.int .u64 (wd v.1), .int .u64 (wd v.2.1), .int .u64 (wd v.2.2.1), .int .u64 (wd v.2.2.2)] 23)).alloc (.cells #[.int .u64 (wd u.1), .int .u64 (wd u.2.1), .int .u64 (wd u.2.2.1), .int .u64 (wd u.2.2.2)] 23)) (w.heap.size + 1) u ∧ Below w.heap.size w ((w.alloc (.cells #[.int .u64 (wd v.1), .int .u64 (wd v.2.1), .int .u64 (wd v.2.2.1), .int .u64 (wd v.2.2.2)] 23)).alloc (.cells #[.int .u64 (wd u.1), .int .u64 (wd u.2.1), .int .u64 (wd u.2.2.1), .int .u64 (wd u.2.2.2)] 23))) := by
    refine ⟨(Own4.new w _ _ _ _).alloc _, ?_, (below_box w _).alloc (by simp) _⟩
    have := Own4.new (w.alloc (.cells #[.int .u64 (wd v.1), .int .u64 (wd v.2.1), .int .u64 (wd v.2.2.1), .int .u64 (wd v.2.2.2)] 23)) u.1 u.2.1 u.2.2.1 u.2.2.2
    rw [World.size_alloc] at this
    exact this
  have hux : Hid (Tg.untake (Tg.take v m) m = v) := Tg.untake_take v m
  have heq : ∀ W : World, (Op.equalIn 10000 23 (v4 v) (v4 v)).run Try.prog W = .ok true W := fun W => by rw [eqV]; simp
  have heq1 : ∀ W : World, (Op.equalIn 10000 23 (v4 v) (v4 u)).run Try.prog W = .ok (decide (v = u)) W := eqV v u
  have heq2 : ∀ W : World, (Op.equalIn 10000 23 (v4 (Tg.take v m)) (v4 (Tg.take u m))).run Try.prog W = .ok (decide (v = u)) W := fun W => by
    rw [eqV]; congr 1; rw [Bool.eq_iff_iff]; simp [Tg.take_inj]
  go_enter Try.func5, Try.ntmps5
  go_wp2_with fail
  refine (take_v _ _ _).mono ?_; rintro e w1 ⟨rfl, hb⟩
  have hge : w.heap.size + 2 ≤ w1.heap.size := by have := hb.size; simp at this; omega
  have T1 : Hid (TA w v u (Tg.take v m) w1.heap.size (w1.alloc (.cells #[.int .u64 (wd (Tg.take v m).1), .int .u64 (wd (Tg.take v m).2.1), .int .u64 (wd (Tg.take v m).2.2.1), .int .u64 (wd (Tg.take v m).2.2.2)] 23))) :=
    ⟨(T0.out.1.below hb).alloc _, (T0.out.2.1.below hb).alloc _, Own4.new w1 _ _ _ _, hge, below_on (below_on T0.out.2.2 (Nat.le_refl _) hb) (Nat.le_refl _) (below_box _ _)⟩
  clear hb T0
  go_upto_region 2 with fail
  generalize w1.alloc (.cells #[.int .u64 (wd (Tg.take v m).1), .int .u64 (wd (Tg.take v m).2.1), .int .u64 (wd (Tg.take v m).2.2.1), .int .u64 (wd (Tg.take v m).2.2.2)] 23) = W at *
  generalize w1.heap.size = b at *
  obtain ⟨c0, c1, c2, c3⟩ := T1.out.x.cells
  obtain ⟨f0, f1, f2, f3⟩ := T1.out.x.frozen
  have hlb := T1.out.x.lt
  go_upto_region 3 with fail
  have T2 : Hid (TA w v u ((Tg.take v m).1 ^^^ m, (Tg.take v m).2.1, (Tg.take v m).2.2.1, (Tg.take v m).2.2.2) b (W.setCell ⟨b, 0, none⟩ (.int .u64 (wd ((Tg.take v m).1 ^^^ m))))) := T1.out.set0 _
  have HU : Hid (v = (let y := Tg.bck (Tg.bck ((Tg.take v m).1 ^^^ m, (Tg.take v m).2.1, (Tg.take v m).2.2.1, (Tg.take v m).2.2.2)); (y.1, y.2.1, y.2.2.1, y.2.2.2 ^^^ m))) := hux.out.symm
  clear c0 c1 c2 c3 f0 f1 f2 f3 hlb T1 hux
  generalize ((Tg.take v m).1 ^^^ m, (Tg.take v m).2.1, (Tg.take v m).2.2.1, (Tg.take v m).2.2.2) = X at *
  generalize (W.setCell ⟨b, 0, none⟩ (.int .u64 (wd ((Tg.take v m).1 ^^^ m)))) = W2 at *
  obtain ⟨c0, c1, c2, c3⟩ := T2.out.x.cells
  go_wp2_with fail
  refine (back_v X _).mono ?_; rintro e w3 ⟨rfl, hb⟩
  have T3 : Hid (TA w v u X b w3) := T2.out.on hb
  clear hb T2 c0 c1 c2 c3
  go_wp2_with fail
  refine (back_v (Tg.bck X) _).mono ?_; rintro e w4 ⟨rfl, hb⟩
  have T4 : Hid (TA w v u X b w4) := T3.out.on hb
  clear hb T3
  generalize Tg.bck (Tg.bck X) = Y at *
  obtain ⟨c0, c1, c2, c3⟩ := T4.out.x.cells
  obtain ⟨f0, f1, f2, f3⟩ := T4.out.x.frozen
  have hlb := T4.out.x.lt
  go_upto_region 5 with fail
  have T5 : Hid (TA w v u v b (((((w4.setCell ⟨b, 0, none⟩ (.int .u64 (wd Y.1))).setCell ⟨b, 1, none⟩ (.int .u64 (wd Y.2.1))).setCell ⟨b, 2, none⟩ (.int .u64 (wd Y.2.2.1))).setCell ⟨b, 3, none⟩ (.int .u64 (wd Y.2.2.2))).setCell ⟨b, 3, none⟩ (.int .u64 (wd (Y.2.2.2 ^^^ m))))) := by
    have := (T4.out.set Y).set3 (Y.2.2.2 ^^^ m)
    have e : (Y.1, Y.2.1, Y.2.2.1, Y.2.2.2 ^^^ m) = v := HU.out.symm
    rw [e] at this
    exact this
  clear c0 c1 c2 c3 f0 f1 f2 f3 hlb T4 HU
  generalize (((((w4.setCell ⟨b, 0, none⟩ (.int .u64 (wd Y.1))).setCell ⟨b, 1, none⟩ (.int .u64 (wd Y.2.1))).setCell ⟨b, 2, none⟩ (.int .u64 (wd Y.2.2.1))).setCell ⟨b, 3, none⟩ (.int .u64 (wd Y.2.2.2))).setCell ⟨b, 3, none⟩ (.int .u64 (wd (Y.2.2.2 ^^^ m)))) = W5 at *
  obtain ⟨c0, c1, c2, c3⟩ := T5.out.x.cells
  obtain ⟨d0, d1, d2, d3⟩ := T5.out.v.cells
  obtain ⟨e0, e1, e2, e3⟩ := T5.out.u.cells
  have k0 := cell_regrown c0
  have k1 := cell_regrown c1
  have k2 := cell_regrown c2
  have k3 := cell_regrown c3
  have l0 := cell_regrown d0
  have l1 := cell_regrown d1
  have l2 := cell_regrown d2
  have l3 := cell_regrown d3
  have m0 := cell_regrown e0
  have m1 := cell_regrown e1
  have m2 := cell_regrown e2
  have m3 := cell_regrown e3
  clear c0 c1 c2 c3 d0 d1 d2 d3 e0 e1 e2 e3
  have hbb : (decide (v = u) == decide (v = u)) = true := by simp
  generalize decide (v = u) = B at *
  refine wp_region_quiet_below (by kernel_rfl) (by kernel_rfl) ?_
  repeat go_big_quiet_step (first
    | (go_at_call 8; exact Calls.regrown_of (gbegun_any _))
    | (go_at_call 16; exact Calls.regrown_of (take_v _ _ _)))
  refine wpQuiet_nil ?_
  intro _ hw'
  obtain ⟨⟨dq, osq⟩, hw''⟩ := hw'
  subst hw''
  go_wp2
  go_ret
  exact ⟨rfl, below_on T5.out.below (Nat.le_refl _) (below_regrown _ dq osq)⟩
end Go.Proofs.Ytfjajnpeehdbaaa
