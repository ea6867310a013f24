/- The walk of DateTells: it answers true, whatever it is handed. -/
import Derived.Test.YtbolcbfbcjmpnaaDoorBegun
import Derived.Test.YtbolcbfbcjmpnaaDoorRef
namespace Go.Proofs.YtbolcbfbcjmpnaaDoor
open Go.RowKit Go.BigFrame Go.Sort

/-- Day's answer, whatever it is handed: the program's and the reference's. -/
theorem day_all (y m d : Int) : ∃ X E : Int, (∀ w, Laid w → Calls Tryd.prog 9 #[.agg #[.int .i64 y, .int .i64 m, .int .i64 d]] w fun r w' => r = .returned (.tuple #[.int .i64 X, .int .i64 E]) ∧ Below w.heap.size w w') ∧
    (∀ w, Calls Tryd.prog 11 #[.agg #[.int .i64 y, .int .i64 m, .int .i64 d]] w fun r w' => r = .returned (.tuple #[.int .i64 X, .int .i64 E]) ∧ Below w.heap.size w w') := by
  by_cases h : Cal.vld y m d
  · exact ⟨_, _, fun w hw => day_ok y m d w hw h, fun w => dayNo_ok y m d w h⟩
  · exact ⟨_, _, fun w hw => day_err y m d w hw h, fun w => dayNo_err y m d w h⟩
/-- Of's answer, whatever it is handed: the date, and why not. -/
theorem of_all (n : Int) : ∃ y m d e : Int, (∀ w, Laid w → Calls Tryd.prog 10 #[.int .i64 n] w fun r w' => r = .returned (.tuple #[.agg #[.int .i64 y, .int .i64 m, .int .i64 d], .int .i64 e]) ∧ Below w.heap.size w w') ∧
    (∀ w, Calls Tryd.prog 12 #[.int .i64 n] w fun r w' => r = .returned (.tuple #[.agg #[.int .i64 y, .int .i64 m, .int .i64 d], .int .i64 e]) ∧ Below w.heap.size w w') := by
  by_cases h : 1 ≤ n ∧ n ≤ 3652059
  · obtain ⟨y, m, d, hv, hn⟩ := Cal.ex_date n h.1 h.2
    exact ⟨y, m, d, 0, fun w hw => of_at n y m d w hw hv hn, fun w => dateOf_ok n y m d w hv hn⟩
  · exact ⟨0, 0, 0, 3, fun w _ => of_err n w (by omega), fun w => dateOf_err n w (by omega)⟩

theorem refLeap_is (y : Int) (b : Bool) (w : World) (h : Cal.leap y = b) :
    Calls Tryd.prog 15 #[.int .i64 y] w fun e w' => e = .returned (.bool b) ∧ Below w.heap.size w w' := by
  subst h
  exact (refLeap_any y w).mono fun _ _ h => ⟨h.1, h.2 ▸ Below.refl _ _⟩
set_option maxHeartbeats 2000000 in
theorem dateTells_any (y m d n : Int) (w : World) (hw : Laid w) :
    Calls Tryd.prog 3 #[.agg #[.int .i64 y, .int .i64 m, .int .i64 d], .int .i64 n] w fun e w' => e = .returned (.bool true) ∧ Below w.heap.size w w' := by
  obtain ⟨oy, om, od, oe, hof, hdof⟩ := of_all n
  obtain ⟨X, E, hday, hdno⟩ := day_all y m d
  go_enter Tryd.func3, Tryd.ntmps3
  go_wp2_with fail
  have l1 := hw.alloc (.cells #[.int .i64 y, .int .i64 m, .int .i64 d] 23)
  have a1 := Has3.new w y m d 23
  have B1 := below_box w (.cells #[.int .i64 y, .int .i64 m, .int .i64 d] 23)
  refine (hday _ l1).mono ?_; rintro e w2 ⟨rfl, b2⟩
  have l2 := l1.below b2
  have a2 := a1.below b2
  have B2 := below_next B1 (Nat.le_refl _) b2
  clear l1 a1 B1 b2 hw
  go_wp2_with fail
  refine (hof _ l2).mono ?_; rintro e w3 ⟨rfl, b3⟩
  have l3 := (l2.below b3).alloc (.cells #[.int .i64 oy, .int .i64 om, .int .i64 od] 23)
  have a3 := (a2.below b3).alloc (.cells #[.int .i64 oy, .int .i64 om, .int .i64 od] 23)
  have o3 := Has3.new w3 oy om od 23
  have B3 := below_next (below_next B2 (Nat.le_refl _) b3) (Nat.le_refl _) (below_box w3 (.cells #[.int .i64 oy, .int .i64 om, .int .i64 od] 23))
  clear l2 a2 B2 b3
  have k1 := a3.2.1
  have k2 := a3.2.2.1
  have k3 := a3.2.2.2
  go_wp2_with fail
  refine (hdno _).mono ?_; rintro e w4 ⟨rfl, b4⟩
  have l4 := l3.below b4
  have a4 := a3.below b4
  have o4 := o3.below b4
  have B4 := below_next B3 (Nat.le_refl _) b4
  clear l3 a3 o3 B3 b4 k1 k2 k3
  go_wp2_with fail
  refine (hdof _).mono ?_; rintro e w5 ⟨rfl, b5⟩
  have l5 := (l4.below b5).alloc (.cells #[.int .i64 oy, .int .i64 om, .int .i64 od] 23)
  have a5 := (a4.below b5).alloc (.cells #[.int .i64 oy, .int .i64 om, .int .i64 od] 23)
  have o5 := (o4.below b5).alloc (.cells #[.int .i64 oy, .int .i64 om, .int .i64 od] 23)
  have r5 := Has3.new w5 oy om od 23
  have B5 := below_next (below_next B4 (Nat.le_refl _) b5) (Nat.le_refl _) (below_box w5 (.cells #[.int .i64 oy, .int .i64 om, .int .i64 od] 23))
  clear l4 a4 o4 B4 b5 hday hdno hof hdof
  go_wp2_with fail
  have c0 := cell_regrown a5.2.1
  have o0 := cell_regrown o5.2.1
  have o1 := cell_regrown o5.2.2.1
  have o2 := cell_regrown o5.2.2.2
  have r0 := cell_regrown r5.2.1
  have r1 := cell_regrown r5.2.2.1
  have r2 := cell_regrown r5.2.2.2
  clear a5 o5 r5
  refine wp_region_quiet_below (by kernel_rfl) (by kernel_rfl) ?_
  repeat go_big_quiet_step (first
    | (go_at_call 13; exact Calls.regrown_of (begun_any _ (l5.below (below_regrown _ _ _))))
    | (go_at_call 14; exact Calls.regrown_of (leap_is y (Cal.leap y) _ rfl))
    | (go_at_call 15; exact Calls.regrown_of (refLeap_is y (Cal.leap y) _ rfl)))
  refine wpQuiet_nil ?_
  intro _ hw'
  obtain ⟨⟨dq, osq⟩, hw''⟩ := hw'
  subst hw''
  go_wp2
  go_ret
  exact ⟨rfl, below_next B5 (Nat.le_refl _) (below_regrown _ dq osq)⟩
end Go.Proofs.YtbolcbfbcjmpnaaDoor
