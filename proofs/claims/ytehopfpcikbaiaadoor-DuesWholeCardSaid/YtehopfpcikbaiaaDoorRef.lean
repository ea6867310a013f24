/- The walks of the document's own answers (the reference): they come to the same plain mathematics; nothing old in memory turns. -/
import Derived.Test.YtehopfpcikbaiaaDoorCore
import Derived.Deep.RegionWith
namespace Go.Proofs.YtehopfpcikbaiaaDoor
open Go.RowKit

set_option maxHeartbeats 400000 in
theorem monthDays_ok (y m : Int) (w : World) (h1 : 1 ≤ y) (h2 : y ≤ 9999) (h3 : 1 ≤ m) (h4 : m ≤ 12) :
    Calls Tryd.prog 52 #[.int .i64 y, .int .i64 m] w fun e w' => e = .returned (.int .i64 (Cal.mlen y m)) ∧ w' = w := by
  by_cases hm : m = 2
  · subst hm
    rcases Cal.lp_cases y with ⟨hp, hy⟩ | ⟨hp, hy⟩
    · have e : Cal.mlen y 2 = 29 := by simp [Cal.mlen, hp]
      rw [e]; clear e hp
      go_enter Tryd.func52, Tryd.ntmps52
      go_wp2_with (go_at_call 69; refine (refLeap_any _ _).mono ?_; rintro e w' ⟨rfl, rfl⟩)
      go_ret
      exact ⟨rfl, rfl⟩
    · have e : Cal.mlen y 2 = 28 := by simp [Cal.mlen, hp]
      rw [e]; clear e hp
      go_enter Tryd.func52, Tryd.ntmps52
      go_wp2_with (go_at_call 69; refine (refLeap_any _ _).mono ?_; rintro e w' ⟨rfl, rfl⟩)
      go_ret
      exact ⟨rfl, rfl⟩
  · have : m = 1 ∨ m = 3 ∨ m = 4 ∨ m = 5 ∨ m = 6 ∨ m = 7 ∨ m = 8 ∨ m = 9 ∨ m = 10 ∨ m = 11 ∨ m = 12 := by omega
    clear h3 h4 hm
    rcases this with rfl | rfl | rfl | rfl | rfl | rfl | rfl | rfl | rfl | rfl | rfl
    all_goals
      simp [Cal.mlen]
      go_enter Tryd.func52, Tryd.ntmps52
      go_wp2
      go_ret
      exact ⟨rfl, rfl⟩
set_option maxHeartbeats 400000 in
theorem monthDays_no (y m : Int) (w : World) (h : ¬ (1 ≤ y ∧ y ≤ 9999 ∧ 1 ≤ m ∧ m ≤ 12)) :
    Calls Tryd.prog 52 #[.int .i64 y, .int .i64 m] w fun e w' => e = .returned (.int .i64 0) ∧ w' = w := by
  by_cases h1 : y < 1
  · clear h
    go_enter Tryd.func52, Tryd.ntmps52
    go_wp2
    go_ret
    exact ⟨rfl, rfl⟩
  by_cases h2 : 9999 < y
  · clear h
    go_enter Tryd.func52, Tryd.ntmps52
    go_wp2
    go_ret
    exact ⟨rfl, rfl⟩
  by_cases h3 : m < 1
  · clear h
    go_enter Tryd.func52, Tryd.ntmps52
    go_wp2
    go_ret
    exact ⟨rfl, rfl⟩
  · have h4 : 12 < m := by omega
    clear h
    go_enter Tryd.func52, Tryd.ntmps52
    go_wp2
    go_ret
    exact ⟨rfl, rfl⟩
theorem floor_any (a : Int) (w : World) (h1 : 0 ≤ a) (h2 : a ≤ 20000) :
    Calls Tryd.prog 70 #[.int .i64 a, .int .i64 400] w fun e w' => e = .returned (.int .i64 (a / 400)) ∧ w' = w := by
  by_cases h : a % 400 = 0
  all_goals
    go_enter Tryd.func70, Tryd.ntmps70
    go_wp2
    go_ret
    exact ⟨rfl, rfl⟩
set_option maxHeartbeats 400000 in
theorem dayOf_any (y m d : Int) (w : World) (h1 : 1 ≤ y) (h2 : y ≤ 10000) (h3 : 1 ≤ m) (h4 : m ≤ 12) (h5 : 1 ≤ d) (h6 : d ≤ 31) :
    Calls Tryd.prog 53 #[.agg #[.int .i64 y, .int .i64 m, .int .i64 d]] w fun e w' => e = .returned (.int .i64 (Cal.num y m d)) ∧ Below w.heap.size w w' := by
  by_cases hm : 3 ≤ m
  · have HN : Hid (_) := Cal.dayOf_hi y m d hm
    go_enter Tryd.func53, Tryd.ntmps53
    go_wp2_with (go_at_call 70; refine (floor_any _ _ (by omega) (by omega)).mono ?_; rintro e w' ⟨rfl, rfl⟩)
    go_ret
    exact ⟨ret_int HN.out, below_box _ _⟩
  · have HN : Hid (_) := Cal.dayOf_lo y m d h3 (by omega)
    go_enter Tryd.func53, Tryd.ntmps53
    go_wp2_with (go_at_call 70; refine (floor_any _ _ (by omega) (by omega)).mono ?_; rintro e w' ⟨rfl, rfl⟩)
    go_ret
    exact ⟨ret_int HN.out, below_box _ _⟩
set_option maxHeartbeats 400000 in
theorem dateOf_err (n : Int) (w : World) (h : n < 1 ∨ 3652059 < n) :
    Calls Tryd.prog 51 #[.int .i64 n] w fun e w' => e = .returned (.tuple #[.agg #[.int .i64 0, .int .i64 0, .int .i64 0], .int .i64 3]) ∧ Below w.heap.size w w' := by
  by_cases h1 : n < 1
  · clear h
    go_enter Tryd.func51, Tryd.ntmps51
    go_wp2
    exact bodyPost_ret (v := .tuple #[.agg #[.int .i64 0, .int .i64 0, .int .i64 0], .int .i64 3]) (by simp [results, Tryd.results51, go_sem]) rfl ⟨rfl, below_box _ _⟩
  · have h2 : 3652059 < n := by omega
    clear h
    go_enter Tryd.func51, Tryd.ntmps51
    go_wp2
    exact bodyPost_ret (v := .tuple #[.agg #[.int .i64 0, .int .i64 0, .int .i64 0], .int .i64 3]) (by simp [results, Tryd.results51, go_sem]) rfl ⟨rfl, below_box _ _⟩
set_option maxHeartbeats 1000000 in
theorem dateOf_ok (n y mo d : Int) (w : World) (hv : Cal.vld y mo d) (hn : Cal.num y mo d = n) :
    Calls Tryd.prog 51 #[.int .i64 n] w fun e w' => e = .returned (.tuple #[.agg #[.int .i64 y, .int .i64 mo, .int .i64 d], .int .i64 0]) ∧ Below w.heap.size w w' := by
  have hi := Cal.num_in y mo d hv
  obtain ⟨e, r, doy, m, e0, e1, r0, r1, d0, d1, m0, m1, f1, f2, f3, f4, f5, f6⟩ := Cal.era_facts y mo d hv
  rw [hn] at hi f1 f2
  have hs : Cal.st r + doy - (365 * r + r / 4 - r / 100) = doy := by unfold Cal.st; omega
  have hb := Cal.st_bd r doy r0 r1 d0 d1
  unfold Cal.ff at f3
  generalize Cal.st r + doy = D at *
  clear hn hv
  obtain ⟨h1, h2⟩ := hi
  rcases f6 with ⟨g1, g2, g3⟩ | ⟨g1, g2, g3⟩
  · have g4 : m + 3 ≤ 12 := by omega
    subst g2 g3
    go_enter Tryd.func51, Tryd.ntmps51
    go_wp2
    exact bodyPost_ret (v := .tuple #[.agg #[.int .i64 (e * 400 + r), .int .i64 (m + 3), .int .i64 d], .int .i64 0]) (by simp [results, Tryd.results51, go_sem]) rfl ⟨rfl, (below_box _ _).alloc (by simp) _⟩
  · have g4 : 12 < m + 3 := by omega
    have g5 : m + 3 - 12 = m - 9 := by omega
    subst g2 g3
    go_enter Tryd.func51, Tryd.ntmps51
    go_wp2
    exact bodyPost_ret (v := .tuple #[.agg #[.int .i64 (e * 400 + r + 1), .int .i64 (m - 9), .int .i64 d], .int .i64 0]) (by simp [results, Tryd.results51, go_sem]) rfl ⟨rfl, (below_box _ _).alloc (by simp) _⟩
end Go.Proofs.YtehopfpcikbaiaaDoor
