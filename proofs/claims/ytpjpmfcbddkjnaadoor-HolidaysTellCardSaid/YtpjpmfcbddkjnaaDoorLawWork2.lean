/- The walk of HolidaysTell: it answers true, whatever it is handed. -/
import Derived.Test.YtpjpmfcbddkjnaaDoorWLaw
import Derived.Lib.QuietBelow
namespace Go.Proofs.YtpjpmfcbddkjnaaDoor
open Go.RowKit Go.BigFrame Go.Sort
namespace Wk
theorem holV_len (R : Rst) (L : List Rl) (y : Int) : (holV R L y).length ≤ 1000 := by
  unfold holV
  split
  · rename_i h
    have hz : cchk R L = 0 := by
      unfold holC at h
      by_cases c : cchk R L = 0
      · exact c
      · rw [if_neg c] at h; exact h
    have h1 := (cchk_zero R L).1 hz
    have h2 : (Spn.once (days R L y)).length ≤ (days R L y).length := by have := Spn.compact_len ((days R L y).mergeSort fun x y => decide (x ≤ y)); rw [List.length_mergeSort] at this; exact this
    have h3 := days_len R L y
    have := h1.2.1
    unfold hol
    omega
  · simp
end Wk
theorem both_hol (R : Wk.Rst) (l : List Wk.Rl) (a : Option Addr) (cap : Nat) (y : Int) (hl : l.length ≤ maxLen) : ∃ (xs : List Int) (c : Int), xs.length ≤ 1000 ∧
    (∀ w, Laid w → Row4 w a l → Calls Tryd.prog 9 #[calV R a l.length cap, .int .i64 y] w fun e w' => ∃ b k, e = .returned (.tuple #[.slice b xs.length k, .int .i64 c]) ∧ Row1 w' b xs ∧ Below w.heap.size w w') ∧
    (∀ w, Row4 w a l → Calls Tryd.prog 10 #[calV R a l.length cap, .int .i64 y] w fun e w' => ∃ b k, e = .returned (.tuple #[.slice b xs.length k, .int .i64 c]) ∧ Row1 w' b xs ∧ Below w.heap.size w w') := by
  refine ⟨Wk.holV R l y, Wk.holC R l y, Wk.holV_len R l y, fun w hw hr => (pHolidays R l a cap y w hl hw hr).mono ?_, fun w hr => (vHolidaysOf R l a cap y w hl hr).mono ?_⟩
  all_goals
    rintro e w' ⟨v, rfl, ho, hb⟩
    obtain ⟨b, c, rfl, h1⟩ := ho.row
    exact ⟨b, c, rfl, h1, hb⟩
theorem both_check (R : Wk.Rst) (l : List Wk.Rl) (a : Option Addr) (cap : Nat) (hl : l.length ≤ maxLen) : ∃ (c : Int),
    (∀ w, Laid w → Row4 w a l → Calls Tryd.prog 12 #[calV R a l.length cap] w fun e w' => e = .returned (.int .i64 c) ∧ Below w.heap.size w w') ∧
    (∀ w, Row4 w a l → Calls Tryd.prog 13 #[calV R a l.length cap] w fun e w' => e = .returned (.int .i64 c) ∧ Below w.heap.size w w') :=
  ⟨_, fun w hw hr => wCheck R l a cap w hl hw hr, fun w hr => vCal R l a cap w hl hr⟩
set_option maxRecDepth 100000 in
set_option maxHeartbeats 4000000 in
theorem holidaysTell_any (R : Wk.Rst) (l : List Wk.Rl) (a : Option Addr) (cap : Nat) (y : Int) (w : World) (hl : l.length ≤ maxLen) (hw : Laid w) (hr : Row4 w a l) :
    Calls Tryd.prog 3 #[calV R a l.length cap, .int .i64 y] w fun e w' => e = .returned (.bool true) ∧ Below w.heap.size w w' := by
  obtain ⟨xs, c, hxs, pH, rH⟩ := both_hol R l a cap y hl
  obtain ⟨cc, pC, rC⟩ := both_check R l a cap hl
  have s0 : WSt w (w.alloc (calBox R a l.length cap)) R l a l.length cap := WSt.start hw hr
  go_enter Tryd.func3, Tryd.ntmps3
  go_wp2_with fail
  refine (pH _ s0.laid s0.row).mono ?_; rintro e w1 ⟨q1, k1, rfl, r1, b1⟩
  have s1 := s0.on b1
  clear s0 b1
  obtain ⟨g0, g1, g2, g3, g4, g5, g6, g7⟩ := s1.cells
  go_wp2_with fail
  clear g0 g1 g2 g3 g4 g5 g6 g7
  refine (rH _ s1.row).mono ?_; rintro e w2 ⟨q2, k2, rfl, r2, b2⟩
  have s2 := s1.on b2
  have r1 := Row1.below r1 b2
  clear s1 b2
  go_wp2_with fail
  obtain ⟨g0, g1, g2, g3, g4, g5, g6, g7⟩ := s2.cells
  replace g0 := cell_regrown g0
  replace g1 := cell_regrown g1
  replace g2 := cell_regrown g2
  replace g3 := cell_regrown g3
  replace g4 := cell_regrown g4
  replace g5 := cell_regrown g5
  replace g6 := cell_regrown g6
  replace g7 := cell_regrown g7
  have S := fun d os => s2.on (below_regrown w2 d os)
  replace r1 := fun d os => Row1.below r1 (below_regrown w2 d os)
  replace r2 := fun d os => Row1.below r2 (below_regrown w2 d os)
  refine wp_region_quiet_below (by kernel_rfl) (by kernel_rfl) ?_
  repeat go_big_quiet_step (first
    | (go_at_call 11; exact Calls.regrown_of (wbegun_any _ (S _ _).laid))
    | (go_at_call 12; exact Calls.regrown_of (pC _ (S _ _).laid (S _ _).row))
    | (go_at_call 13; exact Calls.regrown_of (rC _ (S _ _).row))
    | (go_at_call 14; exact Calls.regrown_of (vSame xs q1 q2 k1 k2 _ hxs (r1 _ _) (r2 _ _))))
  refine wpQuiet_nil ?_
  intro _ hw'
  obtain ⟨⟨dq, osq⟩, hw''⟩ := hw'
  subst hw''
  go_wp2
  go_ret
  exact ⟨rfl, (S _ _).below⟩
end Go.Proofs.YtpjpmfcbddkjnaaDoor
