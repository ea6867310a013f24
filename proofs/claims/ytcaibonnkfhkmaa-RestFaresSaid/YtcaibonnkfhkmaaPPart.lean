/- The walks of pence's entry points: Add, Sum, Part. -/
import Derived.Test.YtcaibonnkfhkmaaPWk
namespace Go.Proofs.Ytcaibonnkfhkmaa
open Go.RowKit

theorem row1_two (w : World) (a b : Int) (t : TypeId) : Row1 (w.alloc (.cells #[.int .i64 a, .int .i64 b] t)) (some ⟨w.heap.size, 0, none⟩) [a, b] := by
  refine .inr ⟨w.heap.size, 0, rfl, by simp, fun i hi => ?_⟩
  match i, hi with
  | 0, _ => simp
  | 1, _ => simp
theorem isUp_any (q r d way : Int) (w : World) (h1 : 0 ≤ q) (h2 : 0 ≤ r) (h3 : r < d) (h4 : d ≤ 100000) :
    Calls Try.prog 35 #[.int .i64 q, .int .i64 r, .int .i64 d, .int .i64 way] w fun e w' => e = .returned (.bool (Pen.upB q r d way)) ∧ w' = w := by
  by_cases e2 : way = 2
  · subst e2
    go_enter Try.func35, Try.ntmps35
    go_wp2
    go_ret
    exact ⟨ret_bool (by rw [Bool.eq_iff_iff]; simp [Pen.upB]), rfl⟩
  by_cases e3 : way = 3
  · subst e3
    go_enter Try.func35, Try.ntmps35
    go_wp2
    go_ret
    exact ⟨ret_bool (by rw [Bool.eq_iff_iff]; simp [Pen.upB]), rfl⟩
  by_cases e4 : way = 4
  · subst e4
    by_cases g1 : d < 2 * r
    · go_enter Try.func35, Try.ntmps35
      go_wp2
      go_ret
      exact ⟨ret_bool (by symm; simp [Pen.upB, g1]), rfl⟩
    · by_cases g2 : 2 * r = d
      · have g1' : decide (d < 2 * r) = false := by simpa using g1
        have g2' : (2 * r == d) = true := by simpa using g2
        have HG : Hid (2 * r = d) := g2
        clear g2
        go_enter Try.func35, Try.ntmps35
        go_wp2
        go_ret
        exact ⟨ret_bool (by rw [Bool.eq_iff_iff]; simp [Pen.upB, HG.out]), rfl⟩
      · have g1' : decide (d < 2 * r) = false := by simpa using g1
        have g2' : (2 * r == d) = false := by simpa using g2
        go_enter Try.func35, Try.ntmps35
        go_wp2
        go_ret
        exact ⟨ret_bool (by symm; simp [Pen.upB]; omega), rfl⟩
  · have e2' : (way == 2) = false := by simpa using e2
    have e3' : (way == 3) = false := by simpa using e3
    have e4' : (way == 4) = false := by simpa using e4
    go_enter Try.func35, Try.ntmps35
    go_wp2
    go_ret
    exact ⟨ret_bool (by symm; simp [Pen.upB]; omega), rfl⟩
theorem rounded_any (n d way : Int) (w : World) (h1 : 0 ≤ n) (h2 : n ≤ 109951162777600000) (h3 : 1 ≤ d) (h4 : d ≤ 100000) :
    Calls Try.prog 32 #[.int .i64 n, .int .i64 d, .int .i64 way] w fun e w' => e = .returned (.int .i64 (Pen.rnd n d way)) ∧ Below w.heap.size w w' := by
  have hq0 : 0 ≤ n / d := Int.ediv_nonneg h1 (by omega)
  have hq1 : n / d ≤ n := Int.ediv_le_self _ h1
  obtain ⟨-, hr0, hr1⟩ := Pen.div_facts n d (by omega)
  have hd0 : d ≠ 0 := by omega
  have t1 : n.tdiv d = n / d := Int.tdiv_eq_ediv_of_nonneg h1
  have t2 : n.tmod d = n % d := Int.tmod_eq_emod_of_nonneg h1
  cases hu : Pen.upB (n / d) (n % d) d way with
  | true =>
    have e : Pen.rnd n d way = n / d + 1 := by unfold Pen.rnd; rw [if_pos hu]
    rw [e]; clear e
    go_enter Try.func32, Try.ntmps32
    go_wp2
    go_quiet (fail)
    go_wp2_with (go_at_call 35; refine (isUp_any _ _ _ _ _ (by omega) (by omega) (by omega) (by omega)).mono ?_; rintro e w' ⟨rfl, rfl⟩)
    go_ret
    exact ⟨rfl, below_drewN (Below.refl _ _) _⟩
  | false =>
    have e : Pen.rnd n d way = n / d := by unfold Pen.rnd; rw [if_neg (by rw [hu]; decide)]
    rw [e]; clear e
    go_enter Try.func32, Try.ntmps32
    go_wp2
    go_quiet (fail)
    go_wp2_with (go_at_call 35; refine (isUp_any _ _ _ _ _ (by omega) (by omega) (by omega) (by omega)).mono ?_; rintro e w' ⟨rfl, rfl⟩)
    go_ret
    exact ⟨rfl, below_drewN (Below.refl _ _) _⟩
end Go.Proofs.Ytcaibonnkfhkmaa
