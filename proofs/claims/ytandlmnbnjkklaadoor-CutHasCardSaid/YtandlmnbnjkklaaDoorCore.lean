/- The walks of the calendar's entry points: Day, Of, Week, OfWeek answer as the plain mathematics says; nothing old in memory turns. -/
import Derived.Test.YtandlmnbnjkklaaDoorLeaf
import Derived.Deep.QuietTactic
import Derived.BigQuiet
namespace Go.Proofs.YtandlmnbnjkklaaDoor
open Go.RowKit

theorem Laid.below {w w' : World} (h : Laid w) (hb : Below w.heap.size w w') : Laid w' :=
  ⟨Nat.lt_of_lt_of_le h.1 hb.size, fun k hk => by rw [(bcell hb).1 0 k h.1]; exact h.2 k hk⟩
theorem Laid.alloc {w : World} (h : Laid w) (o : Obj) : Laid (w.alloc o) :=
  h.below ((Below.refl _ _).alloc (Nat.le_refl _) _)
theorem Laid.drewN {w : World} (h : Laid w) (n : Nat) : Laid (w.drewN n) :=
  h.below (below_drewN (Below.refl _ _) n)
set_option maxHeartbeats 400000 in
theorem isDate_yes (y m d : Int) (w : World) (hw : Laid w) (h : Cal.vld y m d) :
    Calls Tryd.prog 100 #[.agg #[.int .i64 y, .int .i64 m, .int .i64 d]] w fun e w' => e = .returned (.bool true) ∧ Below w.heap.size w w' := by
  obtain ⟨h1, h2, h3, h4, h5, h6⟩ := h
  have HW : Hid (Laid w) := hw
  clear hw
  go_enter Tryd.func100, Tryd.ntmps100
  go_wp2
  go_quiet (first
    | (go_at_call 107; exact Calls.quiet_of_same (year_yes _ _ (by omega) (by omega)))
    | (go_at_call 98; exact Calls.quiet_of_same (within_yes _ _ _ _ (by omega) (by omega)))
    | (go_at_call 85; exact Calls.quiet_of_same (mlen_any _ _ _ ((HW.out.alloc _).drewN _) (by omega) (by omega))))
  go_wp2
  go_ret
  exact ⟨rfl, below_boxN _ _ _⟩
set_option maxHeartbeats 400000 in
theorem isDate_no (y m d : Int) (w : World) (hw : Laid w) (h : ¬ Cal.vld y m d) :
    Calls Tryd.prog 100 #[.agg #[.int .i64 y, .int .i64 m, .int .i64 d]] w fun e w' => e = .returned (.bool false) ∧ Below w.heap.size w w' := by
  have HW : Hid (Laid w) := hw
  clear hw
  by_cases hy : 1 ≤ y ∧ y ≤ 9999
  · by_cases hm : 1 ≤ m ∧ m ≤ 12
    · have hd : d < 1 ∨ Cal.mlen y m < d := by unfold Cal.vld at h; omega
      clear h
      obtain ⟨h1, h2⟩ := hy
      obtain ⟨h3, h4⟩ := hm
      have HD : Hid (d < 1 ∨ Cal.mlen y m < d) := hd
      clear hd
      go_enter Tryd.func100, Tryd.ntmps100
      go_wp2
      go_quiet (first
        | (go_at_call 107; exact Calls.quiet_of_same (year_yes _ _ (by omega) (by omega)))
        | (go_at_call 98; exact Calls.quiet_of_same (within_yes _ _ _ _ (by omega) (by omega)))
        | (go_at_call 98; exact Calls.quiet_of_same (within_no _ _ _ _ HD.out))
        | (go_at_call 85; exact Calls.quiet_of_same (mlen_any _ _ _ ((HW.out.alloc _).drewN _) (by omega) (by omega))))
      go_wp2
      go_ret
      exact ⟨rfl, below_boxN _ _ _⟩
    · have hm' : m < 1 ∨ 12 < m := by omega
      clear h hm
      obtain ⟨h1, h2⟩ := hy
      have HD : Hid (m < 1 ∨ 12 < m) := hm'
      clear hm'
      go_enter Tryd.func100, Tryd.ntmps100
      go_wp2
      go_quiet (first
        | (go_at_call 107; exact Calls.quiet_of_same (year_yes _ _ (by omega) (by omega)))
        | (go_at_call 98; exact Calls.quiet_of_same (within_no _ _ _ _ HD.out)))
      go_wp2
      go_ret
      exact ⟨rfl, below_boxN _ _ _⟩
  · have hy' : y < 1 ∨ 9999 < y := by omega
    clear h hy
    have HD : Hid (y < 1 ∨ 9999 < y) := hy'
    clear hy'
    go_enter Tryd.func100, Tryd.ntmps100
    go_wp2
    go_quiet ((go_at_call 107; exact Calls.quiet_of_same (year_no _ _ HD.out)))
    go_wp2
    go_ret
    exact ⟨rfl, below_boxN _ _ _⟩
set_option maxHeartbeats 400000 in
theorem day_err (y m d : Int) (w : World) (hw : Laid w) (h : ¬ Cal.vld y m d) :
    Calls Tryd.prog 86 #[.agg #[.int .i64 y, .int .i64 m, .int .i64 d]] w fun e w' => e = .returned (.tuple #[.int .i64 0, .int .i64 3]) ∧ Below w.heap.size w w' := by
  have HW : Hid (Laid w) := hw
  have HV : Hid (¬ Cal.vld y m d) := h
  clear hw h
  go_enter Tryd.func86, Tryd.ntmps86
  go_wp2_with (go_at_call 100; refine (isDate_no _ _ _ _ (HW.out.alloc _) HV.out).mono ?_; rintro e w1 ⟨rfl, hb⟩)
  go_ret2
  exact ⟨rfl, (below_box _ _).trans (hb.mono (by simp))⟩
set_option maxHeartbeats 1000000 in
theorem day_ok (y m d : Int) (w : World) (hw : Laid w) (h : Cal.vld y m d) :
    Calls Tryd.prog 86 #[.agg #[.int .i64 y, .int .i64 m, .int .i64 d]] w fun e w' => e = .returned (.tuple #[.int .i64 (Cal.num y m d), .int .i64 0]) ∧ Below w.heap.size w w' := by
  have HW : Hid (Laid w) := hw
  have HV : Hid (Cal.vld y m d) := h
  obtain ⟨h1, h2, h3, h4, h5, h6⟩ := h
  have hm := Cal.mlen_bd y m
  have ha := Cal.ahead_bd y (by omega) (by omega)
  have hd : d ≤ 31 := by omega
  clear hw h6 hm
  go_enter Tryd.func86, Tryd.ntmps86
  go_wp2_with (go_at_call 100; refine (isDate_yes _ _ _ _ (HW.out.alloc _) HV.out).mono ?_; rintro e w1 ⟨rfl, hb⟩)
  have HB : Hid (Below (w.alloc (.cells #[.int .i64 y, .int .i64 m, .int .i64 d] 78)).heap.size (w.alloc (.cells #[.int .i64 y, .int .i64 m, .int .i64 d] 78)) w1) := hb
  obtain ⟨hc, hf⟩ := bcell hb
  have HL : Hid (Laid w1) := (HW.out.alloc _).below hb
  clear hb hf
  go_quiet ((go_at_call 84; exact Calls.quiet_of_same (ahead_any _ _ (by omega) (by omega))))
  go_wp2
  go_loop [4, 18] (fun n i => ∃ k : Int, 0 ≤ k ∧ k ≤ m - 1 ∧ i = .int .i64 k ∧ n = .int .i64 (Cal.ahead y + d + Cal.cum y (k + 1))) (fun _ i => (m - intOf i).toNat)
  case atStart => exact ⟨0, by omega, by omega, rfl, by simp [Cal.cum]⟩
  case round =>
    obtain ⟨k, hk1, hk2, rfl, rfl⟩ := hrel
    have cb := Cal.cum_bd y (k + 1) (by omega) (by omega)
    by_cases hlt : k < m - 1
    · have cs := Cal.cum_succ y (k + 1) (by omega) (by omega)
      have mb := Cal.mlen_bd y (k + 1)
      have HS : Hid (Cal.cum y (k + 1 + 1) = Cal.cum y (k + 1) + Cal.mlen y (k + 1)) := cs
      clear cs
      go_wp2_with (go_at_call 85; refine (mlen_any _ _ _ (HL.out.drewN _) (by omega) (by omega)).mono ?_; rintro e w' ⟨rfl, rfl⟩)
      go_round
      case rel => exact ⟨k + 1, by omega, by omega, rfl, by rw [HS.out]; go_num⟩
      case measure => simp [intOf]; omega
    · obtain rfl : k = m - 1 := by omega
      have e1 : m - 1 + 1 = m := by omega
      go_wp2
      go_ret2
      refine ⟨?_, ((below_box _ _).trans (HB.out.mono (by simp))).trans (below_drewN (Below.refl _ _) _)⟩
      exact ret_two (by unfold Cal.num; omega)
abbrev date3 (y m d : Int) : Value := .agg #[.int .i64 y, .int .i64 m, .int .i64 d]
set_option maxHeartbeats 400000 in
theorem of_err (n : Int) (w : World) (h : n < 1 ∨ 3652059 < n) :
    Calls Tryd.prog 78 #[.int .i64 n] w fun e w' => e = .returned (.tuple #[.agg #[.int .i64 0, .int .i64 0, .int .i64 0], .int .i64 3]) ∧ Below w.heap.size w w' := by
  have HV : Hid (n < 1 ∨ 3652059 < n) := h
  clear h
  go_enter Tryd.func78, Tryd.ntmps78
  go_wp2_with (go_at_call 82; refine (day_no _ _ HV.out).mono ?_; rintro e w1 ⟨rfl, rfl⟩)
  exact bodyPost_ret (v := .tuple #[.agg #[.int .i64 0, .int .i64 0, .int .i64 0], .int .i64 3]) (by simp [results, Tryd.results78, go_sem]) rfl ⟨rfl, below_box _ _⟩
theorem vld_of (n y k : Int) (a : 1 ≤ y) (b : y ≤ 9999) (hk1 : 1 ≤ k) (hk2 : k ≤ 12) (c : 1 ≤ n - Cal.ahead y - Cal.cum y k) (d : n - Cal.ahead y - Cal.cum y k ≤ Cal.mlen y k) : Cal.vld y k (n - Cal.ahead y - Cal.cum y k) :=
  ⟨a, b, hk1, hk2, c, d⟩
set_option maxHeartbeats 1000000 in
theorem of_ok (n : Int) (w : World) (hw : Laid w) (h1 : 1 ≤ n) (h2 : n ≤ 3652059) :
    Calls Tryd.prog 78 #[.int .i64 n] w fun e w' => ∃ y m d : Int, e = .returned (.tuple #[.agg #[.int .i64 y, .int .i64 m, .int .i64 d], .int .i64 0]) ∧ Cal.vld y m d ∧ Cal.num y m d = n ∧ Below w.heap.size w w' := by
  have HW : Hid (Laid w) := hw
  have hy := Cal.yr_in n h1 h2
  have hs := Cal.yr_spec n
  have hsu := Cal.ahead_succ (Cal.yr n)
  have hb := Cal.ahead_bd (Cal.yr n) hy.1 (by omega)
  have hlp := Cal.lp_bd (Cal.yr n)
  clear hw
  go_enter Tryd.func78, Tryd.ntmps78
  go_wp2_with (first
    | (go_at_call 82; refine (day_yes _ _ (by omega) (by omega)).mono ?_; rintro e w1 ⟨rfl, rfl⟩)
    | (go_at_call 83; refine (yearOf_any _ _ (by omega) (by omega)).mono ?_; rintro e w1 ⟨rfl, rfl⟩)
    | (go_at_call 84; refine (ahead_any _ _ (by omega) (by omega)).mono ?_; rintro e w1 ⟨rfl, rfl⟩))
  go_loop [5, 18] (fun r i => ∃ k : Int, 0 ≤ k ∧ k ≤ 11 ∧ i = .int .i64 k ∧ 1 ≤ n - Cal.ahead (Cal.yr n) - Cal.cum (Cal.yr n) (k + 1) ∧ r = .int .i64 (n - Cal.ahead (Cal.yr n) - Cal.cum (Cal.yr n) (k + 1))) (fun _ i => (12 - intOf i).toNat)
  case atStart => exact ⟨0, by omega, by omega, rfl, by simp [Cal.cum]; omega, by simp [Cal.cum]⟩
  case round =>
    obtain ⟨k, hk1, hk2, rfl, hr, rfl⟩ := hrel
    have cb := Cal.cum_bd (Cal.yr n) (k + 1) (by omega) (by omega)
    have mb := Cal.mlen_bd (Cal.yr n) (k + 1)
    have cs := Cal.cum_succ (Cal.yr n) (k + 1) (by omega) (by omega)
    have HS : Hid (Cal.cum (Cal.yr n) (k + 1 + 1) = Cal.cum (Cal.yr n) (k + 1) + Cal.mlen (Cal.yr n) (k + 1)) := cs
    clear cs
    by_cases hc : n - Cal.ahead (Cal.yr n) - Cal.cum (Cal.yr n) (k + 1) ≤ Cal.mlen (Cal.yr n) (k + 1)
    · go_wp2_with (go_at_call 85; refine (mlen_any _ _ _ (HW.out.alloc _) (by omega) (by omega)).mono ?_; rintro e w' ⟨rfl, rfl⟩)
      refine bodyPost_ret (v := .tuple #[.agg #[.int .i64 (Cal.yr n), .int .i64 (k + 1), .int .i64 (n - Cal.ahead (Cal.yr n) - Cal.cum (Cal.yr n) (k + 1))], .int .i64 0]) (by simp [results, Tryd.results78, go_sem]) rfl ⟨Cal.yr n, k + 1, _, rfl, vld_of n _ _ (by omega) (by omega) (by omega) (by omega) hr hc, by unfold Cal.num; omega, ?_⟩
      exact below_box _ _
    · have hk3 : k ≤ 10 := by
        by_cases e : k = 11
        · subst e
          have c13 := Cal.cum_13 (Cal.yr n)
          have := HS.out
          have e13 : (11 : Int) + 1 + 1 = 13 := rfl
          rw [e13] at this
          omega
        · omega
      go_wp2_with (go_at_call 85; refine (mlen_any _ _ _ (HW.out.alloc _) (by omega) (by omega)).mono ?_; rintro e w' ⟨rfl, rfl⟩)
      go_round
      case rel => exact ⟨k + 1, by omega, by omega, rfl, by rw [HS.out]; omega, by rw [HS.out]; go_num⟩
      case measure => simp [intOf]; omega
end Go.Proofs.YtandlmnbnjkklaaDoor
