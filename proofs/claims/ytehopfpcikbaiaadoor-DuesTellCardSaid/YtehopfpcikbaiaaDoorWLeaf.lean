/- The program's looks at rules and calendars. -/
import Derived.Test.YtehopfpcikbaiaaDoorWkA
import Derived.Test.YtehopfpcikbaiaaDoorBegunToTWk
namespace Go.Proofs.YtehopfpcikbaiaaDoor
open Go.RowKit

theorem wWithin (n a b : Int) (w : World) :
    Calls Tryd.prog 62 #[.int .i64 n, .int .i64 a, .int .i64 b] w fun e w' => e = .returned (.bool (decide (a ≤ n ∧ n ≤ b))) ∧ w' = w := by
  by_cases h1 : a ≤ n
  · by_cases h2 : n ≤ b
    · have e : decide (a ≤ n ∧ n ≤ b) = true := decide_eq_true ⟨h1, h2⟩
      rw [e]; clear e
      go_enter Tryd.func62, Tryd.ntmps62
      go_wp2
      go_ret
      exact ⟨rfl, rfl⟩
    · have e : decide (a ≤ n ∧ n ≤ b) = false := decide_eq_false (fun h => h2 h.2)
      rw [e]; clear e
      go_enter Tryd.func62, Tryd.ntmps62
      go_wp2
      go_ret
      exact ⟨rfl, rfl⟩
  · have e : decide (a ≤ n ∧ n ≤ b) = false := decide_eq_false (fun h => h1 h.1)
    rw [e]; clear e
    have h1' : decide (a ≤ n) = false := by simpa using h1
    go_enter Tryd.func62, Tryd.ntmps62
    go_wp2
    go_ret
    exact ⟨rfl, rfl⟩
theorem wWithin_is (n a b : Int) (r : Bool) (w : World) (h : decide (a ≤ n ∧ n ≤ b) = r) :
    Calls Tryd.prog 62 #[.int .i64 n, .int .i64 a, .int .i64 b] w fun e w' => e = .returned (.bool r) ∧ w' = w := by subst h; exact wWithin n a b w
theorem wDay_is (n : Int) (r : Bool) (w : World) (h : decide (1 ≤ n ∧ n ≤ 3651693) = r) :
    Calls Tryd.prog 40 #[.int .i64 n] w fun e w' => e = .returned (.bool r) ∧ w' = w := by
  go_enter Tryd.func40, Tryd.ntmps40
  go_wp2_with (go_at_call 62; refine (wWithin_is _ _ _ r _ h).mono ?_; rintro e w1 ⟨rfl, rfl⟩)
  go_ret
  exact ⟨rfl, rfl⟩
/-- a rule as a value -/
abbrev rlV (r : Wk.Rl) : Value := .agg #[.int .i64 r.1, .int .i64 r.2.1, .int .i64 r.2.2.1, .int .i64 r.2.2.2]
theorem checkFixed_any (k m d wd : Int) (w : World) (hw : Laid w) :
    Calls Tryd.prog 59 #[.agg #[.int .i64 k, .int .i64 m, .int .i64 d, .int .i64 wd]] w fun e w' => e = .returned (.int .i64 (Wk.fchk m d wd)) ∧ Below w.heap.size w w' := by
  have bA := below_box w (.cells #[.int .i64 k, .int .i64 m, .int .i64 d, .int .i64 wd] 74)
  have hwA := hw.alloc (.cells #[.int .i64 k, .int .i64 m, .int .i64 d, .int .i64 wd] 74)
  unfold Wk.fchk
  by_cases h : 1 ≤ m ∧ m ≤ 12 ∧ 1 ≤ d ∧ d ≤ Cal.mlen 2001 m
  · rw [if_pos h]
    have hv : Cal.vld 2001 m d := ⟨by decide, by decide, h.1, h.2.1, h.2.2.1, h.2.2.2⟩
    clear h
    by_cases h0 : wd = 0
    · subst h0
      rw [if_pos rfl]
      go_enter Tryd.func59, Tryd.ntmps59
      go_wp2_with fail
      refine (day_ok 2001 m d _ hwA hv).mono ?_
      rintro e w1 ⟨rfl, b1⟩
      have B := below_next bA (Nat.le_refl _) b1
      have c3 : w1.cell? ⟨w.heap.size, 3, none⟩ = some (.int .i64 0) := (b1.cell (p := ⟨w.heap.size, 3, none⟩) (by simp)).trans (by simp)
      clear b1
      go_wp2
      go_ret
      exact ⟨rfl, B⟩
    · rw [if_neg h0]
      have h0' : (wd != 0) = true := by simpa using h0
      go_enter Tryd.func59, Tryd.ntmps59
      go_wp2_with fail
      refine (day_ok 2001 m d _ hwA hv).mono ?_
      rintro e w1 ⟨rfl, b1⟩
      have B := below_next bA (Nat.le_refl _) b1
      have c3 : w1.cell? ⟨w.heap.size, 3, none⟩ = some (.int .i64 wd) := (b1.cell (p := ⟨w.heap.size, 3, none⟩) (by simp)).trans (by simp)
      clear b1
      go_wp2
      go_ret
      exact ⟨rfl, B⟩
  · rw [if_neg h]
    have hv : ¬ Cal.vld 2001 m d := fun v => h ⟨v.2.2.1, v.2.2.2.1, v.2.2.2.2.1, v.2.2.2.2.2⟩
    clear h
    go_enter Tryd.func59, Tryd.ntmps59
    go_wp2_with fail
    refine (day_err 2001 m d _ hwA hv).mono ?_
    rintro e w1 ⟨rfl, b1⟩
    have B := below_next bA (Nat.le_refl _) b1
    clear b1
    go_wp2
    go_ret
    exact ⟨rfl, B⟩
theorem checkNth_any (k m d wd : Int) (w : World) :
    Calls Tryd.prog 60 #[.agg #[.int .i64 k, .int .i64 m, .int .i64 d, .int .i64 wd]] w fun e w' => e = .returned (.int .i64 (Wk.nchk m d wd)) ∧ Below w.heap.size w w' := by
  have bA := below_box w (.cells #[.int .i64 k, .int .i64 m, .int .i64 d, .int .i64 wd] 74)
  unfold Wk.nchk
  cases h1 : decide (1 ≤ m ∧ m ≤ 12) with
  | false =>
    have hn := of_decide_eq_false h1
    rw [if_neg (by omega)]
    go_enter Tryd.func60, Tryd.ntmps60
    go_wp2_with (go_at_call 62; refine (wWithin_is m 1 12 false _ h1).mono ?_; rintro e w1 ⟨rfl, rfl⟩)
    go_ret
    exact ⟨rfl, bA⟩
  | true =>
    have g1 := of_decide_eq_true h1
    cases h2 : decide (1 ≤ d ∧ d ≤ 5) with
    | false =>
      have hn := of_decide_eq_false h2
      rw [if_neg (by omega)]
      go_enter Tryd.func60, Tryd.ntmps60
      go_wp2_with fail
      refine (wWithin_is m 1 12 true _ h1).mono ?_
      rintro e w1 ⟨rfl, rfl⟩
      clear h1 g1
      go_wp2_with fail
      refine (wWithin_is d 1 5 false _ h2).mono ?_
      rintro e w1 ⟨rfl, rfl⟩
      clear h2 hn
      go_wp2
      go_ret
      exact ⟨rfl, bA⟩
    | true =>
      have g2 := of_decide_eq_true h2
      cases h3 : decide (1 ≤ wd ∧ wd ≤ 7) with
      | false =>
        have hn := of_decide_eq_false h3
        rw [if_neg (by omega)]
        go_enter Tryd.func60, Tryd.ntmps60
        go_wp2_with fail
        refine (wWithin_is m 1 12 true _ h1).mono ?_
        rintro e w1 ⟨rfl, rfl⟩
        clear h1 g1
        go_wp2_with fail
        refine (wWithin_is d 1 5 true _ h2).mono ?_
        rintro e w1 ⟨rfl, rfl⟩
        clear h2 g2
        go_wp2_with fail
        refine (wWithin_is wd 1 7 false _ h3).mono ?_
        rintro e w1 ⟨rfl, rfl⟩
        clear h3 hn
        go_wp2
        go_ret
        exact ⟨rfl, bA⟩
      | true =>
        have g3 := of_decide_eq_true h3
        rw [if_pos ⟨g1.1, g1.2, g2.1, g2.2, g3.1, g3.2⟩]
        go_enter Tryd.func60, Tryd.ntmps60
        go_wp2_with fail
        refine (wWithin_is m 1 12 true _ h1).mono ?_
        rintro e w1 ⟨rfl, rfl⟩
        clear h1 g1
        go_wp2_with fail
        refine (wWithin_is d 1 5 true _ h2).mono ?_
        rintro e w1 ⟨rfl, rfl⟩
        clear h2 g2
        go_wp2_with fail
        refine (wWithin_is wd 1 7 true _ h3).mono ?_
        rintro e w1 ⟨rfl, rfl⟩
        clear h3 g3
        go_wp2
        go_ret
        exact ⟨rfl, bA⟩
theorem checkMoving_any (k m d wd : Int) (w : World) :
    Calls Tryd.prog 61 #[.agg #[.int .i64 k, .int .i64 m, .int .i64 d, .int .i64 wd]] w fun e w' => e = .returned (.int .i64 (Wk.mchk m d wd)) ∧ Below w.heap.size w w' := by
  have bA := below_box w (.cells #[.int .i64 k, .int .i64 m, .int .i64 d, .int .i64 wd] 74)
  unfold Wk.mchk
  by_cases h1 : m = 0
  · have h1' : (m != 0) = false := by simpa using h1
    by_cases h2 : wd = 0
    · have h2' : (wd != 0) = false := by simpa using h2
      rw [if_pos ⟨h1, h2⟩]
      clear h1 h2
      cases h3 : decide (-100 ≤ d ∧ d ≤ 100) with
      | false =>
        rw [if_neg (of_decide_eq_false h3)]
        go_enter Tryd.func61, Tryd.ntmps61
        go_wp2_with fail
        refine (wWithin_is d (-100) 100 false _ h3).mono ?_
        rintro e w1 ⟨rfl, rfl⟩
        clear h3
        go_wp2
        go_ret
        exact ⟨rfl, bA⟩
      | true =>
        rw [if_pos (of_decide_eq_true h3)]
        go_enter Tryd.func61, Tryd.ntmps61
        go_wp2_with fail
        refine (wWithin_is d (-100) 100 true _ h3).mono ?_
        rintro e w1 ⟨rfl, rfl⟩
        clear h3
        go_wp2
        go_ret
        exact ⟨rfl, bA⟩
    · have h2' : (wd != 0) = true := by simpa using h2
      rw [if_neg (fun c => h2 c.2)]
      clear h1
      go_enter Tryd.func61, Tryd.ntmps61
      go_wp2
      go_ret
      exact ⟨rfl, bA⟩
  · have h1' : (m != 0) = true := by simpa using h1
    rw [if_neg (fun c => h1 c.1)]
    go_enter Tryd.func61, Tryd.ntmps61
    go_wp2
    go_ret
    exact ⟨rfl, bA⟩
theorem checkRule_any (k m d wd : Int) (w : World) (hw : Laid w) :
    Calls Tryd.prog 39 #[.agg #[.int .i64 k, .int .i64 m, .int .i64 d, .int .i64 wd]] w fun e w' => e = .returned (.int .i64 (Wk.rchk (k, m, d, wd))) ∧ Below w.heap.size w w' := by
  have bA := below_box w (.cells #[.int .i64 k, .int .i64 m, .int .i64 d, .int .i64 wd] 74)
  have hwA := hw.alloc (.cells #[.int .i64 k, .int .i64 m, .int .i64 d, .int .i64 wd] 74)
  unfold Wk.rchk
  dsimp only
  by_cases h1 : k = 1
  · subst h1
    rw [if_pos rfl]
    go_enter Tryd.func39, Tryd.ntmps39
    go_wp2_with fail
    refine (checkFixed_any 1 m d wd _ hwA).mono ?_
    rintro e w1 ⟨rfl, b1⟩
    have B := below_next bA (Nat.le_refl _) b1
    clear b1
    go_wp2
    go_ret
    exact ⟨rfl, B⟩
  · have h1' : (k == 1) = false := by simpa using h1
    rw [if_neg h1]
    by_cases h2 : k = 2
    · subst h2
      rw [if_pos rfl]
      go_enter Tryd.func39, Tryd.ntmps39
      go_wp2_with fail
      refine (checkNth_any 2 m d wd _).mono ?_
      rintro e w1 ⟨rfl, b1⟩
      have B := below_next bA (Nat.le_refl _) b1
      clear b1
      go_wp2
      go_ret
      exact ⟨rfl, B⟩
    · have h2' : (k == 2) = false := by simpa using h2
      rw [if_neg h2]
      by_cases h3 : k = 3
      · subst h3
        rw [if_pos rfl]
        go_enter Tryd.func39, Tryd.ntmps39
        go_wp2_with fail
        refine (checkMoving_any 3 m d wd _).mono ?_
        rintro e w1 ⟨rfl, b1⟩
        have B := below_next bA (Nat.le_refl _) b1
        clear b1
        go_wp2
        go_ret
        exact ⟨rfl, B⟩
      · have h3' : (k == 3) = false := by simpa using h3
        rw [if_neg h3]
        go_enter Tryd.func39, Tryd.ntmps39
        go_wp2
        go_ret
        exact ⟨rfl, bA⟩
end Go.Proofs.YtehopfpcikbaiaaDoor
