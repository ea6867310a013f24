/- The walk of TermTells: it answers true, whatever it is handed. -/
import Derived.Test.YthojffiajlpneaaDoorTLaw
namespace Go.Proofs.YthojffiajlpneaaDoor
open Go.RowKit Go.BigFrame

set_option maxRecDepth 100000 in
set_option maxHeartbeats 1000000 in
theorem termTells_any (s u n k N : Int) (w : World) (hw : Laid w) :
    Calls Tryd.prog 3 #[.int .i64 s, .agg #[.int .i64 u, .int .i64 n], .int .i64 k, .int .i64 N] w fun e w' => e = .returned (.bool true) ∧ Below w.heap.size w w' := by
  obtain ⟨x, c, h1⟩ := Trm.nth_ex s u n k
  obtain ⟨x2, c2, h2⟩ := Trm.find_is_ex s u n N
  obtain ⟨l, c3, h3, hl⟩ := Trm.full_is_ex s u n k
  obtain ⟨q, hq⟩ : ∃ q, Trm.chk u n = q := ⟨_, rfl⟩
  have hl' : l.length ≤ maxLen := by unfold maxLen; omega
  have H1 : Hid (_) := h1
  have H2 : Hid (_) := h2
  have H3 : Hid (_) := h3
  have HQ : Hid (_) := hq
  have HL : Hid (l.length ≤ maxLen) := hl'
  have T0 : Hid (_) := TL.new (u := u) (n := n) hw
  clear h1 h2 h3 hq hw hl hl'
  go_enter Tryd.func3, Tryd.ntmps3
  go_wp2_with fail
  refine (nth_is _ _ _ _ _ _ _ T0.out.lay H1.out).mono ?_; rintro e w1 ⟨rfl, b1⟩
  have T1 : Hid (TL w u n w1) := T0.out.on b1
  obtain ⟨p0, p1⟩ := T1.out.cells
  clear b1 T0
  go_wp2_with fail
  refine (find_is _ _ _ _ _ _ _ T1.out.lay H2.out).mono ?_; rintro e w2 ⟨rfl, b2⟩
  have T2 : Hid (TL w u n w2) := T1.out.on b2
  clear b2 T1 p0 p1
  obtain ⟨p0, p1⟩ := T2.out.cells
  go_wp2_with fail
  refine (full_is _ _ _ _ _ _ _ T2.out.lay H3.out).mono ?_; rintro e w3 ⟨a3, k3, rfl, r3, b3⟩
  have T3 : Hid (TL w u n w3) := T2.out.on b3
  have R3 : Hid (Row2 w3 a3 l) := r3
  clear b3 T2 p0 p1 r3
  obtain ⟨p0, p1⟩ := T3.out.cells
  go_wp2_with fail
  refine (refNth_is _ _ _ _ _ _ _ H1.out).mono ?_; rintro e w4 ⟨rfl, b4⟩
  have T4 : Hid (TL w u n w4) := T3.out.on b4
  have R4 : Hid (Row2 w4 a3 l) := Row2.below R3.out b4
  clear b4 T3 p0 p1 R3
  obtain ⟨p0, p1⟩ := T4.out.cells
  go_wp2_with fail
  refine (refFind_is _ _ _ _ _ _ _ H2.out).mono ?_; rintro e w5 ⟨rfl, b5⟩
  have T5 : Hid (TL w u n w5) := T4.out.on b5
  have R5 : Hid (Row2 w5 a3 l) := Row2.below R4.out b5
  clear b5 T4 p0 p1 R4
  obtain ⟨p0, p1⟩ := T5.out.cells
  go_wp2_with fail
  refine (refFull_is _ _ _ _ _ _ _ H3.out).mono ?_; rintro e w6 ⟨a6, k6, rfl, r6, b6⟩
  have T6 : Hid (TL w u n w6) := T5.out.on b6
  have R6 : Hid (Row2 w6 a3 l) := Row2.below R5.out b6
  have S6 : Hid (Row2 w6 a6 l) := r6
  clear b6 T5 p0 p1 R5 r6
  go_wp2_with fail
  have S : ∀ d os, TL w u n (Sort.grow (redrawn w6 d) os) := fun d os => T6.out.on (below_regrown w6 d os)
  have r1 : ∀ d os, Row2 (Sort.grow (redrawn w6 d) os) a3 l := fun d os => Row2.below R6.out (below_regrown w6 d os)
  have r2 : ∀ d os, Row2 (Sort.grow (redrawn w6 d) os) a6 l := fun d os => Row2.below S6.out (below_regrown w6 d os)
  have d0 := cell_regrown T6.out.cells.1
  have d1 := cell_regrown T6.out.cells.2
  have HS : Hid (_) := S
  have HR1 : Hid (_) := r1
  have HR2 : Hid (_) := r2
  clear S r1 r2 R6 S6
  refine wp_region_quiet_below (by kernel_rfl) (by kernel_rfl) ?_
  repeat go_big_quiet_step (first
    | (go_at_call 14; exact Calls.regrown_of (tbegun_any _ (HS.out _ _).lay))
    | (go_at_call 15; exact Calls.regrown_of (tcheck_at _ _ _ _ HQ.out))
    | (go_at_call 16; exact Calls.regrown_of (refTCheck_at _ _ _ _ HQ.out))
    | (go_at_call 17; exact Calls.regrown_of (same_below l l true a3 a6 k3 k6 _ HL.out HL.out (by simp) (HR1.out _ _) (HR2.out _ _))))
  refine wpQuiet_nil ?_
  intro _ hw'
  obtain ⟨⟨dq, osq⟩, hw''⟩ := hw'
  subst hw''
  have Bz : Hid (_) := (HS.out dq osq).fin
  go_wp2
  go_ret
  exact ⟨rfl, Bz.out⟩
end Go.Proofs.YthojffiajlpneaaDoor
