/- What must be in any case (dateBegun) is so: it answers true, whatever lies in memory beside the table of months. -/
import Derived.Test.YtbolcbfbcjmpnabDoorCore
import Derived.Deep.RegionWith
import Derived.BigQuiet
import Derived.Lib.QuietBelow
namespace Go.Proofs.YtbolcbfbcjmpnabDoor
open Go.RowKit Go.BigFrame Go.Sort

/-- A block of three whole numbers that lies there. -/
def Has3 (w : World) (b : Nat) (x y z : Int) : Prop := b < w.heap.size ∧ w.cell? ⟨b, 0, none⟩ = some (.int .i64 x) ∧ w.cell? ⟨b, 1, none⟩ = some (.int .i64 y) ∧ w.cell? ⟨b, 2, none⟩ = some (.int .i64 z)
theorem Has3.below {w w' : World} {b : Nat} {x y z : Int} (h : Has3 w b x y z) (hb : Below w.heap.size w w') : Has3 w' b x y z :=
  ⟨Nat.lt_of_lt_of_le h.1 hb.size, by rw [(bcell hb).1 b 0 h.1]; exact h.2.1, by rw [(bcell hb).1 b 1 h.1]; exact h.2.2.1, by rw [(bcell hb).1 b 2 h.1]; exact h.2.2.2⟩
theorem Has3.new (w : World) (x y z : Int) (t : Nat) : Has3 (w.alloc (.cells #[.int .i64 x, .int .i64 y, .int .i64 z] t)) w.heap.size x y z :=
  ⟨by simp, by simp, by simp, by simp⟩
theorem Has3.alloc {w : World} {b : Nat} {x y z : Int} (h : Has3 w b x y z) (o : Obj) : Has3 (w.alloc o) b x y z := h.below (below_box w o)
theorem Has3.drewN {w : World} {b : Nat} {x y z : Int} (h : Has3 w b x y z) (n : Nat) : Has3 (w.drewN n) b x y z := h.below (below_drewN (Below.refl _ _) n)
theorem below_next {B : Nat} {a W w' : World} (h : Below B a W) (hB : B ≤ a.heap.size) (hb : Below W.heap.size W w') : Below B a w' :=
  h.trans (hb.mono (Nat.le_trans hB h.size))

theorem below_a {B : Nat} {a w : World} (h : Below B a w) (hB : B ≤ a.heap.size) (o : Obj) : Below B a (w.alloc o) := h.alloc (Nat.le_trans hB h.size) o

theorem day_at (y m d n : Int) (w : World) (hw : Laid w) (h : Cal.vld y m d) (hn : Cal.num y m d = n) :
    Calls Tryd.prog 14 #[.agg #[.int .i64 y, .int .i64 m, .int .i64 d]] w fun e w' => e = .returned (.tuple #[.int .i64 n, .int .i64 0]) ∧ Below w.heap.size w w' := by
  subst hn; exact day_ok y m d w hw h
theorem of_at (n y m d : Int) (w : World) (hw : Laid w) (h : Cal.vld y m d) (hn : Cal.num y m d = n) :
    Calls Tryd.prog 9 #[.int .i64 n] w fun e w' => e = .returned (.tuple #[.agg #[.int .i64 y, .int .i64 m, .int .i64 d], .int .i64 0]) ∧ Below w.heap.size w w' := by
  have hi := Cal.num_in y m d h
  refine (of_ok n w hw (by omega) (by omega)).mono ?_
  rintro e w' ⟨y', m', d', rfl, hv, hn', hb⟩
  obtain ⟨rfl, rfl, rfl⟩ := Cal.num_inj _ _ _ _ _ _ hv h (by omega)
  exact ⟨rfl, hb⟩
theorem mk_any (y m d : Int) (w : World) :
    Calls Tryd.prog 15 #[.int .i64 y, .int .i64 m, .int .i64 d] w fun e w' => e = .returned (.agg #[.int .i64 y, .int .i64 m, .int .i64 d]) ∧ Below w.heap.size w w' := by
  go_enter Tryd.func15, Tryd.ntmps15
  go_wp2
  exact bodyPost_ret (v := .agg #[.int .i64 y, .int .i64 m, .int .i64 d]) (by simp [results, Tryd.results15, go_sem]) rfl ⟨rfl, below_box _ _⟩
theorem leap_is (y : Int) (b : Bool) (w : World) (h : Cal.leap y = b) :
    Calls Tryd.prog 21 #[.int .i64 y] w fun e w' => e = .returned (.bool b) ∧ Below w.heap.size w w' := by
  subst h
  exact (leap_any y w).mono fun _ _ h => ⟨h.1, h.2 ▸ Below.refl _ _⟩
theorem mk_exact (y m d : Int) (w : World) :
    Calls Tryd.prog 15 #[.int .i64 y, .int .i64 m, .int .i64 d] w fun e w' => e = .returned (.agg #[.int .i64 y, .int .i64 m, .int .i64 d]) ∧ w' = w.alloc (.cells #[.int .i64 y, .int .i64 m, .int .i64 d] 29) := by
  go_enter Tryd.func15, Tryd.ntmps15
  go_wp2
  exact bodyPost_ret (v := .agg #[.int .i64 y, .int .i64 m, .int .i64 d]) (by simp [results, Tryd.results15, go_sem]) rfl ⟨rfl, rfl⟩
theorem week_at : Cal.wyear 739936 = 2026 ∧ Cal.wno 739936 = 47 ∧ Cal.wday 739936 = 1 := by decide +kernel

set_option maxHeartbeats 2000000 in
theorem begun_any (w : World) (hw : Laid w) :
    Calls Tryd.prog 8 #[] w fun e w' => e = .returned (.bool true) ∧ Below w.heap.size w w' := by
  go_enter Tryd.func8, Tryd.ntmps8
  go_wp2_with fail
  refine (mk_any _ _ _ _).mono ?_; rintro e w1 ⟨rfl, b1⟩
  have l1 := hw.below b1
  go_wp2_with fail
  refine (day_at 2026 11 16 739936 _ l1 (by unfold Cal.vld; decide) (by decide)).mono ?_; rintro e w2 ⟨rfl, b2⟩
  have l2 := l1.below b2
  have B2 := below_next b1 (Nat.le_refl _) b2
  clear hw l1 b1 b2
  go_wp2_with fail
  refine (of_at 730120 2000 1 1 _ l2 (by unfold Cal.vld; decide) (by decide)).mono ?_; rintro e w3 ⟨rfl, b3⟩
  have l3 := l2.below b3
  have B3 := below_next B2 (Nat.le_refl _) b3
  clear l2 B2 b3
  go_wp2_with fail
  refine (week_ok 739936 _ (by decide) (by decide)).mono ?_; rintro e w4 ⟨rfl, b4⟩
  rw [week_at.1, week_at.2.1, week_at.2.2]
  have l4 := (l3.alloc _).below b4
  have d4 := (Has3.new w3 2000 1 1 29).below b4
  have B4 := below_next (below_next B3 (Nat.le_refl _) (below_box _ _)) (Nat.le_refl _) b4
  clear l3 B3 b4
  go_wp2_with fail
  refine (ofWeek_ok 2026 53 7 _ (by unfold Cal.wok; decide +kernel)).mono ?_; rintro e w5 ⟨rfl, b5⟩
  have l5 := (l4.alloc _).below b5
  have d5 := (d4.alloc _).below b5
  have v5 := (Has3.new w4 2026 47 1 23).below b5
  have B5 := below_next (below_next B4 (Nat.le_refl _) (below_box _ _)) (Nat.le_refl _) b5
  clear l4 d4 B4 b5
  go_wp2_with fail
  refine (of_at (Cal.wnum 2026 53 7) 2027 1 3 _ l5 (by unfold Cal.vld; decide) (by decide +kernel)).mono ?_; rintro e w6 ⟨rfl, b6⟩
  have l6 := l5.below b6
  have d6 := d5.below b6
  have v6 := v5.below b6
  have B6 := below_next B5 (Nat.le_refl _) b6
  clear l5 d5 v5 B5 b6
  go_wp2_with fail
  refine (mk_any _ _ _ _).mono ?_; rintro e w7 ⟨rfl, b7⟩
  have l7 := (l6.alloc _).below b7
  have d7 := (d6.alloc _).below b7
  have v7 := (v6.alloc _).below b7
  have x7 := (Has3.new w6 2027 1 3 29).below b7
  have B7 := below_next (below_next B6 (Nat.le_refl _) (below_box _ _)) (Nat.le_refl _) b7
  clear l6 d6 v6 B6 b7
  go_wp2_with fail
  refine (day_err 2026 2 29 _ l7 (by unfold Cal.vld; decide)).mono ?_; rintro e w8 ⟨rfl, b8⟩
  have l8 := l7.below b8
  have d8 := d7.below b8
  have v8 := v7.below b8
  have x8 := x7.below b8
  have B8 := below_next B7 (Nat.le_refl _) b8
  clear l7 d7 v7 x7 B7 b8
  go_wp2_with fail
  refine (mk_any _ _ _ _).mono ?_; rintro e w9 ⟨rfl, b9⟩
  have l9 := l8.below b9
  have d9 := d8.below b9
  have v9 := v8.below b9
  have x9 := x8.below b9
  have B9 := below_next B8 (Nat.le_refl _) b9
  clear l8 d8 v8 x8 B8 b9
  go_wp2_with fail
  refine (day_at 9999 12 31 3652059 _ l9 (by unfold Cal.vld; decide) (by decide)).mono ?_; rintro e wa ⟨rfl, ba⟩
  have la := l9.below ba
  have da := d9.below ba
  have va := v9.below ba
  have xa := x9.below ba
  have Ba := below_next B9 (Nat.le_refl _) ba
  clear l9 d9 v9 x9 B9 ba
  go_wp2_with fail
  have d0 := cell_regrown da.2.1
  have d1 := cell_regrown da.2.2.1
  have d2 := cell_regrown da.2.2.2
  have v0 := cell_regrown va.2.1
  have v1 := cell_regrown va.2.2.1
  have v2 := cell_regrown va.2.2.2
  have x0 := cell_regrown xa.2.1
  have x1 := cell_regrown xa.2.2.1
  have x2 := cell_regrown xa.2.2.2
  clear da va xa la
  refine wp_region_quiet_below (by kernel_rfl) (by kernel_rfl) ?_
  repeat go_big_quiet_step (first
    | (go_at_call 15; exact Calls.regrown_of (mk_any _ _ _ _))
    | (go_at_call 21; exact Calls.regrown_of (leap_is _ true _ (by decide)))
    | (go_at_call 21; exact Calls.regrown_of (leap_is _ false _ (by decide))))
  refine wpQuiet_nil ?_
  intro _ hw'
  obtain ⟨⟨dq, osq⟩, hw''⟩ := hw'
  subst hw''
  go_wp2
  go_ret
  exact ⟨rfl, below_next Ba (Nat.le_refl _) (below_regrown wa dq osq)⟩
end Go.Proofs.YtbolcbfbcjmpnabDoor
