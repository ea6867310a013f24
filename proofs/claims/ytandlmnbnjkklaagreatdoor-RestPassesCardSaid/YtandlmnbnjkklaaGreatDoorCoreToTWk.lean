/- The walks of the calendar's entry points: Day, Of, Week, OfWeek answer as the plain mathematics says; nothing old in memory turns. What must be in any case (dateBegun) is so: it answers true, whatever lies in memory beside the table of months. The walks of package term's small functions: within, a day, Check, days behind, in a month. -/
import Derived.Test.YtandlmnbnjkklaaGreatDoorSpnLawsToLeaf
import Derived.Deep.QuietTactic
import Derived.BigQuiet
import Derived.Deep.RegionWith
import Derived.Lib.QuietBelow
import Derived.Test.YtandlmnbnjkklaaGreatDoorTrmToTg
import Derived.Deep.LoopGhost
namespace Go.Proofs.YtandlmnbnjkklaaGreatDoor
open Go.RowKit

theorem Laid.below {w w' : World} (h : Laid w) (hb : Below w.heap.size w w') : Laid w' :=
  ⟨Nat.lt_of_lt_of_le h.1 hb.size, fun k hk => by rw [(bcell hb).1 0 k h.1]; exact h.2 k hk⟩
theorem Laid.alloc {w : World} (h : Laid w) (o : Obj) : Laid (w.alloc o) :=
  h.below ((Below.refl _ _).alloc (Nat.le_refl _) _)
theorem Laid.drewN {w : World} (h : Laid w) (n : Nat) : Laid (w.drewN n) :=
  h.below (below_drewN (Below.refl _ _) n)
set_option maxHeartbeats 400000 in
theorem isDate_yes (y m d : Int) (w : World) (hw : Laid w) (h : Cal.vld y m d) :
    Calls Tryz.prog 122 #[.agg #[.int .i64 y, .int .i64 m, .int .i64 d]] w fun e w' => e = .returned (.bool true) ∧ Below w.heap.size w w' := by
  obtain ⟨h1, h2, h3, h4, h5, h6⟩ := h
  have HW : Hid (Laid w) := hw
  clear hw
  go_enter Tryz.func122, Tryz.ntmps122
  go_wp2
  go_quiet (first
    | (go_at_call 131; exact Calls.quiet_of_same (year_yes _ _ (by omega) (by omega)))
    | (go_at_call 120; exact Calls.quiet_of_same (within_yes _ _ _ _ (by omega) (by omega)))
    | (go_at_call 105; exact Calls.quiet_of_same (mlen_any _ _ _ ((HW.out.alloc _).drewN _) (by omega) (by omega))))
  go_wp2
  go_ret
  exact ⟨rfl, below_boxN _ _ _⟩
set_option maxHeartbeats 400000 in
theorem isDate_no (y m d : Int) (w : World) (hw : Laid w) (h : ¬ Cal.vld y m d) :
    Calls Tryz.prog 122 #[.agg #[.int .i64 y, .int .i64 m, .int .i64 d]] w fun e w' => e = .returned (.bool false) ∧ Below w.heap.size w w' := by
  have HW : Hid (Laid w) := hw
  clear hw
  by_cases hy : 1 ≤ y ∧ y ≤ 9999
  · by_cases hm : 1 ≤ m ∧ m ≤ 12
    · have hd : d < 1 ∨ Cal.mlen y m < d := by unfold Cal.vld at h; omega
      clear h
      obtain ⟨h1, h2⟩ := hy
      obtain ⟨h3, h4⟩ := hm
      have HD : Hid (d < 1 ∨ Cal.mlen y m < d) := hd
      clear hd
      go_enter Tryz.func122, Tryz.ntmps122
      go_wp2
      go_quiet (first
        | (go_at_call 131; exact Calls.quiet_of_same (year_yes _ _ (by omega) (by omega)))
        | (go_at_call 120; exact Calls.quiet_of_same (within_yes _ _ _ _ (by omega) (by omega)))
        | (go_at_call 120; exact Calls.quiet_of_same (within_no _ _ _ _ HD.out))
        | (go_at_call 105; exact Calls.quiet_of_same (mlen_any _ _ _ ((HW.out.alloc _).drewN _) (by omega) (by omega))))
      go_wp2
      go_ret
      exact ⟨rfl, below_boxN _ _ _⟩
    · have hm' : m < 1 ∨ 12 < m := by omega
      clear h hm
      obtain ⟨h1, h2⟩ := hy
      have HD : Hid (m < 1 ∨ 12 < m) := hm'
      clear hm'
      go_enter Tryz.func122, Tryz.ntmps122
      go_wp2
      go_quiet (first
        | (go_at_call 131; exact Calls.quiet_of_same (year_yes _ _ (by omega) (by omega)))
        | (go_at_call 120; exact Calls.quiet_of_same (within_no _ _ _ _ HD.out)))
      go_wp2
      go_ret
      exact ⟨rfl, below_boxN _ _ _⟩
  · have hy' : y < 1 ∨ 9999 < y := by omega
    clear h hy
    have HD : Hid (y < 1 ∨ 9999 < y) := hy'
    clear hy'
    go_enter Tryz.func122, Tryz.ntmps122
    go_wp2
    go_quiet ((go_at_call 131; exact Calls.quiet_of_same (year_no _ _ HD.out)))
    go_wp2
    go_ret
    exact ⟨rfl, below_boxN _ _ _⟩
set_option maxHeartbeats 400000 in
theorem day_err (y m d : Int) (w : World) (hw : Laid w) (h : ¬ Cal.vld y m d) :
    Calls Tryz.prog 106 #[.agg #[.int .i64 y, .int .i64 m, .int .i64 d]] w fun e w' => e = .returned (.tuple #[.int .i64 0, .int .i64 3]) ∧ Below w.heap.size w w' := by
  have HW : Hid (Laid w) := hw
  have HV : Hid (¬ Cal.vld y m d) := h
  clear hw h
  go_enter Tryz.func106, Tryz.ntmps106
  go_wp2_with (go_at_call 122; refine (isDate_no _ _ _ _ (HW.out.alloc _) HV.out).mono ?_; rintro e w1 ⟨rfl, hb⟩)
  go_ret2
  exact ⟨rfl, (below_box _ _).trans (hb.mono (by simp))⟩
set_option maxHeartbeats 1000000 in
theorem day_ok (y m d : Int) (w : World) (hw : Laid w) (h : Cal.vld y m d) :
    Calls Tryz.prog 106 #[.agg #[.int .i64 y, .int .i64 m, .int .i64 d]] w fun e w' => e = .returned (.tuple #[.int .i64 (Cal.num y m d), .int .i64 0]) ∧ Below w.heap.size w w' := by
  have HW : Hid (Laid w) := hw
  have HV : Hid (Cal.vld y m d) := h
  obtain ⟨h1, h2, h3, h4, h5, h6⟩ := h
  have hm := Cal.mlen_bd y m
  have ha := Cal.ahead_bd y (by omega) (by omega)
  have hd : d ≤ 31 := by omega
  clear hw h6 hm
  go_enter Tryz.func106, Tryz.ntmps106
  go_wp2_with (go_at_call 122; refine (isDate_yes _ _ _ _ (HW.out.alloc _) HV.out).mono ?_; rintro e w1 ⟨rfl, hb⟩)
  have HB : Hid (Below (w.alloc (.cells #[.int .i64 y, .int .i64 m, .int .i64 d] 136)).heap.size (w.alloc (.cells #[.int .i64 y, .int .i64 m, .int .i64 d] 136)) w1) := hb
  obtain ⟨hc, hf⟩ := bcell hb
  have HL : Hid (Laid w1) := (HW.out.alloc _).below hb
  clear hb hf
  go_quiet ((go_at_call 104; exact Calls.quiet_of_same (ahead_any _ _ (by omega) (by omega))))
  go_wp2
  go_loop [4, 18] (fun n i => ∃ k : Int, 0 ≤ k ∧ k ≤ m - 1 ∧ i = .int .i64 k ∧ n = .int .i64 (Cal.ahead y + d + Cal.cum y (k + 1))) (fun _ i => (m - intOf i).toNat)
  case atStart => exact ⟨0, by omega, by omega, rfl, by simp [Cal.cum]⟩
  case round =>
    obtain ⟨k, hk1, hk2, rfl, rfl⟩ := hrel
    have cb := Cal.cum_bd y (k + 1) (by omega) (by omega)
    by_cases hlt : k < m - 1
    · have cs := Cal.cum_succ y (k + 1) (by omega) (by omega)
      have mb := Cal.mlen_bd y (k + 1)
      have HS : Hid (Cal.cum y (k + 1 + 1) = Cal.cum y (k + 1) + Cal.mlen y (k + 1)) := cs
      clear cs
      go_wp2_with (go_at_call 105; refine (mlen_any _ _ _ (HL.out.drewN _) (by omega) (by omega)).mono ?_; rintro e w' ⟨rfl, rfl⟩)
      go_round
      case rel => exact ⟨k + 1, by omega, by omega, rfl, by rw [HS.out]; go_num⟩
      case measure => simp [intOf]; omega
    · obtain rfl : k = m - 1 := by omega
      have e1 : m - 1 + 1 = m := by omega
      go_wp2
      go_ret2
      refine ⟨?_, ((below_box _ _).trans (HB.out.mono (by simp))).trans (below_drewN (Below.refl _ _) _)⟩
      exact ret_two (by unfold Cal.num; omega)
abbrev date3 (y m d : Int) : Value := .agg #[.int .i64 y, .int .i64 m, .int .i64 d]
set_option maxHeartbeats 400000 in
theorem of_err (n : Int) (w : World) (h : n < 1 ∨ 3652059 < n) :
    Calls Tryz.prog 95 #[.int .i64 n] w fun e w' => e = .returned (.tuple #[.agg #[.int .i64 0, .int .i64 0, .int .i64 0], .int .i64 3]) ∧ Below w.heap.size w w' := by
  have HV : Hid (n < 1 ∨ 3652059 < n) := h
  clear h
  go_enter Tryz.func95, Tryz.ntmps95
  go_wp2_with (go_at_call 102; refine (day_no _ _ HV.out).mono ?_; rintro e w1 ⟨rfl, rfl⟩)
  exact bodyPost_ret (v := .tuple #[.agg #[.int .i64 0, .int .i64 0, .int .i64 0], .int .i64 3]) (by simp [results, Tryz.results95, go_sem]) rfl ⟨rfl, below_box _ _⟩
theorem vld_of (n y k : Int) (a : 1 ≤ y) (b : y ≤ 9999) (hk1 : 1 ≤ k) (hk2 : k ≤ 12) (c : 1 ≤ n - Cal.ahead y - Cal.cum y k) (d : n - Cal.ahead y - Cal.cum y k ≤ Cal.mlen y k) : Cal.vld y k (n - Cal.ahead y - Cal.cum y k) :=
  ⟨a, b, hk1, hk2, c, d⟩
set_option maxHeartbeats 1000000 in
theorem of_ok (n : Int) (w : World) (hw : Laid w) (h1 : 1 ≤ n) (h2 : n ≤ 3652059) :
    Calls Tryz.prog 95 #[.int .i64 n] w fun e w' => ∃ y m d : Int, e = .returned (.tuple #[.agg #[.int .i64 y, .int .i64 m, .int .i64 d], .int .i64 0]) ∧ Cal.vld y m d ∧ Cal.num y m d = n ∧ Below w.heap.size w w' := by
  have HW : Hid (Laid w) := hw
  have hy := Cal.yr_in n h1 h2
  have hs := Cal.yr_spec n
  have hsu := Cal.ahead_succ (Cal.yr n)
  have hb := Cal.ahead_bd (Cal.yr n) hy.1 (by omega)
  have hlp := Cal.lp_bd (Cal.yr n)
  clear hw
  go_enter Tryz.func95, Tryz.ntmps95
  go_wp2_with (first
    | (go_at_call 102; refine (day_yes _ _ (by omega) (by omega)).mono ?_; rintro e w1 ⟨rfl, rfl⟩)
    | (go_at_call 103; refine (yearOf_any _ _ (by omega) (by omega)).mono ?_; rintro e w1 ⟨rfl, rfl⟩)
    | (go_at_call 104; refine (ahead_any _ _ (by omega) (by omega)).mono ?_; rintro e w1 ⟨rfl, rfl⟩))
  go_loop [5, 18] (fun r i => ∃ k : Int, 0 ≤ k ∧ k ≤ 11 ∧ i = .int .i64 k ∧ 1 ≤ n - Cal.ahead (Cal.yr n) - Cal.cum (Cal.yr n) (k + 1) ∧ r = .int .i64 (n - Cal.ahead (Cal.yr n) - Cal.cum (Cal.yr n) (k + 1))) (fun _ i => (12 - intOf i).toNat)
  case atStart => exact ⟨0, by omega, by omega, rfl, by simp [Cal.cum]; omega, by simp [Cal.cum]⟩
  case round =>
    obtain ⟨k, hk1, hk2, rfl, hr, rfl⟩ := hrel
    have cb := Cal.cum_bd (Cal.yr n) (k + 1) (by omega) (by omega)
    have mb := Cal.mlen_bd (Cal.yr n) (k + 1)
    have cs := Cal.cum_succ (Cal.yr n) (k + 1) (by omega) (by omega)
    have HS : Hid (Cal.cum (Cal.yr n) (k + 1 + 1) = Cal.cum (Cal.yr n) (k + 1) + Cal.mlen (Cal.yr n) (k + 1)) := cs
    clear cs
    by_cases hc : n - Cal.ahead (Cal.yr n) - Cal.cum (Cal.yr n) (k + 1) ≤ Cal.mlen (Cal.yr n) (k + 1)
    · go_wp2_with (go_at_call 105; refine (mlen_any _ _ _ (HW.out.alloc _) (by omega) (by omega)).mono ?_; rintro e w' ⟨rfl, rfl⟩)
      refine bodyPost_ret (v := .tuple #[.agg #[.int .i64 (Cal.yr n), .int .i64 (k + 1), .int .i64 (n - Cal.ahead (Cal.yr n) - Cal.cum (Cal.yr n) (k + 1))], .int .i64 0]) (by simp [results, Tryz.results95, go_sem]) rfl ⟨Cal.yr n, k + 1, _, rfl, vld_of n _ _ (by omega) (by omega) (by omega) (by omega) hr hc, by unfold Cal.num; omega, ?_⟩
      exact below_box _ _
    · have hk3 : k ≤ 10 := by
        by_cases e : k = 11
        · subst e
          have c13 := Cal.cum_13 (Cal.yr n)
          have := HS.out
          have e13 : (11 : Int) + 1 + 1 = 13 := rfl
          rw [e13] at this
          omega
        · omega
      go_wp2_with (go_at_call 105; refine (mlen_any _ _ _ (HW.out.alloc _) (by omega) (by omega)).mono ?_; rintro e w' ⟨rfl, rfl⟩)
      go_round
      case rel => exact ⟨k + 1, by omega, by omega, rfl, by rw [HS.out]; omega, by rw [HS.out]; go_num⟩
      case measure => simp [intOf]; omega
end Go.Proofs.YtandlmnbnjkklaaGreatDoor
namespace Go.Proofs.YtandlmnbnjkklaaGreatDoor
open Go.RowKit Go.BigFrame Go.Sort

/-- A block of three whole numbers that lies there. -/
def Has3 (w : World) (b : Nat) (x y z : Int) : Prop := b < w.heap.size ∧ w.cell? ⟨b, 0, none⟩ = some (.int .i64 x) ∧ w.cell? ⟨b, 1, none⟩ = some (.int .i64 y) ∧ w.cell? ⟨b, 2, none⟩ = some (.int .i64 z)
theorem Has3.below {w w' : World} {b : Nat} {x y z : Int} (h : Has3 w b x y z) (hb : Below w.heap.size w w') : Has3 w' b x y z :=
  ⟨Nat.lt_of_lt_of_le h.1 hb.size, by rw [(bcell hb).1 b 0 h.1]; exact h.2.1, by rw [(bcell hb).1 b 1 h.1]; exact h.2.2.1, by rw [(bcell hb).1 b 2 h.1]; exact h.2.2.2⟩
theorem Has3.new (w : World) (x y z : Int) (t : Nat) : Has3 (w.alloc (.cells #[.int .i64 x, .int .i64 y, .int .i64 z] t)) w.heap.size x y z :=
  ⟨by simp, by simp, by simp, by simp⟩
theorem Has3.alloc {w : World} {b : Nat} {x y z : Int} (h : Has3 w b x y z) (o : Obj) : Has3 (w.alloc o) b x y z := h.below (below_box w o)
theorem Has3.drewN {w : World} {b : Nat} {x y z : Int} (h : Has3 w b x y z) (n : Nat) : Has3 (w.drewN n) b x y z := h.below (below_drewN (Below.refl _ _) n)
theorem below_next {B : Nat} {a W w' : World} (h : Below B a W) (hB : B ≤ a.heap.size) (hb : Below W.heap.size W w') : Below B a w' :=
  h.trans (hb.mono (Nat.le_trans hB h.size))

theorem below_a {B : Nat} {a w : World} (h : Below B a w) (hB : B ≤ a.heap.size) (o : Obj) : Below B a (w.alloc o) := h.alloc (Nat.le_trans hB h.size) o

theorem day_at (y m d n : Int) (w : World) (hw : Laid w) (h : Cal.vld y m d) (hn : Cal.num y m d = n) :
    Calls Tryz.prog 106 #[.agg #[.int .i64 y, .int .i64 m, .int .i64 d]] w fun e w' => e = .returned (.tuple #[.int .i64 n, .int .i64 0]) ∧ Below w.heap.size w w' := by
  subst hn; exact day_ok y m d w hw h
theorem of_at (n y m d : Int) (w : World) (hw : Laid w) (h : Cal.vld y m d) (hn : Cal.num y m d = n) :
    Calls Tryz.prog 95 #[.int .i64 n] w fun e w' => e = .returned (.tuple #[.agg #[.int .i64 y, .int .i64 m, .int .i64 d], .int .i64 0]) ∧ Below w.heap.size w w' := by
  have hi := Cal.num_in y m d h
  refine (of_ok n w hw (by omega) (by omega)).mono ?_
  rintro e w' ⟨y', m', d', rfl, hv, hn', hb⟩
  obtain ⟨rfl, rfl, rfl⟩ := Cal.num_inj _ _ _ _ _ _ hv h (by omega)
  exact ⟨rfl, hb⟩
theorem leap_is (y : Int) (b : Bool) (w : World) (h : Cal.leap y = b) :
    Calls Tryz.prog 121 #[.int .i64 y] w fun e w' => e = .returned (.bool b) ∧ Below w.heap.size w w' := by
  subst h
  exact (leap_any y w).mono fun _ _ h => ⟨h.1, h.2 ▸ Below.refl _ _⟩
theorem week_at : Cal.wyear 739936 = 2026 ∧ Cal.wno 739936 = 47 ∧ Cal.wday 739936 = 1 := by decide +kernel

end Go.Proofs.YtandlmnbnjkklaaGreatDoor
namespace Go.Proofs.YtandlmnbnjkklaaGreatDoor
open Go.RowKit

theorem twithin_yes (n a b : Int) (w : World) (h1 : a ≤ n) (h2 : n ≤ b) :
    Calls Tryz.prog 69 #[.int .i64 n, .int .i64 a, .int .i64 b] w fun e w' => e = .returned (.bool true) ∧ w' = w := by
  go_enter Tryz.func69, Tryz.ntmps69
  go_wp2
  go_ret
  exact ⟨rfl, rfl⟩
theorem twithin_no (n a b : Int) (w : World) (h : n < a ∨ b < n) :
    Calls Tryz.prog 69 #[.int .i64 n, .int .i64 a, .int .i64 b] w fun e w' => e = .returned (.bool false) ∧ w' = w := by
  by_cases h1 : a ≤ n
  · have h2 : ¬ n ≤ b := by omega
    clear h
    go_enter Tryz.func69, Tryz.ntmps69
    go_wp2
    go_ret
    exact ⟨rfl, rfl⟩
  · clear h
    go_enter Tryz.func69, Tryz.ntmps69
    go_wp2
    go_ret
    exact ⟨rfl, rfl⟩
theorem tday_yes (n : Int) (w : World) (h1 : 1 ≤ n) (h2 : n ≤ 3652059) :
    Calls Tryz.prog 68 #[.int .i64 n] w fun e w' => e = .returned (.bool true) ∧ w' = w := by
  go_enter Tryz.func68, Tryz.ntmps68
  go_wp2_with (go_at_call 69; refine (twithin_yes _ _ _ _ h1 h2).mono ?_; rintro e w' ⟨rfl, rfl⟩)
  go_ret
  exact ⟨rfl, rfl⟩
theorem tday_no (n : Int) (w : World) (h : n < 1 ∨ 3652059 < n) :
    Calls Tryz.prog 68 #[.int .i64 n] w fun e w' => e = .returned (.bool false) ∧ w' = w := by
  go_enter Tryz.func68, Tryz.ntmps68
  go_wp2_with (go_at_call 69; refine (twithin_no _ _ _ _ h).mono ?_; rintro e w' ⟨rfl, rfl⟩)
  go_ret
  exact ⟨rfl, rfl⟩
theorem tcheck_any (u n : Int) (w : World) :
    Calls Tryz.prog 67 #[.agg #[.int .i64 u, .int .i64 n]] w fun e w' => e = .returned (.int .i64 (Trm.chk u n)) ∧ Below w.heap.size w w' := by
  by_cases hu : u < 1 ∨ 4 < u
  · have e : Trm.chk u n = 7 := by unfold Trm.chk; rw [if_pos hu]
    rw [e]; clear e
    have HU : Hid (u < 1 ∨ 4 < u) := hu
    clear hu
    go_enter Tryz.func67, Tryz.ntmps67
    go_wp2_with (go_at_call 69; refine (twithin_no _ _ _ _ HU.out).mono ?_; rintro e w' ⟨rfl, rfl⟩)
    go_ret
    exact ⟨rfl, below_box _ _⟩
  · by_cases hn : n < 1 ∨ 120 < n
    · have e : Trm.chk u n = 3 := by unfold Trm.chk; rw [if_neg hu, if_pos hn]
      rw [e]; clear e
      have u1 : 1 ≤ u := by omega
      have u2 : u ≤ 4 := by omega
      have HN : Hid (n < 1 ∨ 120 < n) := hn
      clear hn hu
      go_enter Tryz.func67, Tryz.ntmps67
      go_wp2_with (first
        | (go_at_call 69; refine (twithin_yes _ _ _ _ (by omega) (by omega)).mono ?_; rintro e w' ⟨rfl, rfl⟩)
        | (go_at_call 69; refine (twithin_no _ _ _ _ HN.out).mono ?_; rintro e w' ⟨rfl, rfl⟩))
      go_ret
      exact ⟨rfl, below_box _ _⟩
    · have e : Trm.chk u n = 0 := by unfold Trm.chk; rw [if_neg hu, if_neg hn]
      rw [e]; clear e
      have u1 : 1 ≤ u := by omega
      have u2 : u ≤ 4 := by omega
      have n1 : 1 ≤ n := by omega
      have n2 : n ≤ 120 := by omega
      clear hn hu
      go_enter Tryz.func67, Tryz.ntmps67
      go_wp2_with (go_at_call 69; refine (twithin_yes _ _ _ _ (by omega) (by omega)).mono ?_; rintro e w' ⟨rfl, rfl⟩)
      go_ret
      exact ⟨rfl, below_box _ _⟩
theorem daysBehind_any (s q : Int) (w : World) (h1 : 1 ≤ s) (h2 : s ≤ 3652059) (h3 : 0 ≤ q) (h4 : q ≤ 2000000) :
    Calls Tryz.prog 83 #[.int .i64 s, .int .i64 q] w fun e w' => e = .returned (.tuple #[.int .i64 (Trm.days s q), .int .i64 (Trm.over (Trm.days s q))]) ∧ Below w.heap.size w w' := by
  by_cases h : 3652059 < s + q
  · have e : Trm.days s q = 0 := by unfold Trm.days; rw [if_pos h]
    have e2 : Trm.over 0 = 8 := rfl
    rw [e, e2]; clear e e2
    have h' : 3652059 - s < q := by omega
    go_enter Tryz.func83, Tryz.ntmps83
    go_wp2
    go_ret2
    exact ⟨rfl, Below.refl _ _⟩
  · have e : Trm.days s q = s + q := by unfold Trm.days; rw [if_neg h]
    have e2 : Trm.over (s + q) = 0 := by unfold Trm.over; rw [if_neg (by omega)]
    rw [e, e2]; clear e e2
    have h' : q ≤ 3652059 - s := by omega
    go_enter Tryz.func83, Tryz.ntmps83
    go_wp2
    go_ret2
    exact ⟨rfl, Below.refl _ _⟩
theorem day_all (y m d x c : Int) (w : World) (hw : Laid w) (h : (Cal.vld y m d ∧ Cal.num y m d = x ∧ c = 0) ∨ (¬ Cal.vld y m d ∧ x = 0 ∧ c = 3)) :
    Calls Tryz.prog 106 #[.agg #[.int .i64 y, .int .i64 m, .int .i64 d]] w fun e w' => e = .returned (.tuple #[.int .i64 x, .int .i64 c]) ∧ Below w.heap.size w w' := by
  rcases h with ⟨h1, h2, rfl⟩ | ⟨h1, rfl, rfl⟩
  · exact day_at y m d x w hw h1 h2
  · exact day_err y m d w hw h1
set_option maxHeartbeats 1000000 in
theorem inMonth_any (y m d : Int) (w : World) (hw : Laid w) (h1 : 1 ≤ y) (h2 : y ≤ 9999) (h3 : 1 ≤ m) (h4 : m ≤ 12) (h5 : 1 ≤ d) (h6 : d ≤ 31) :
    Calls Tryz.prog 96 #[.agg #[.int .i64 y, .int .i64 m, .int .i64 d]] w fun e w' => e = .returned (.tuple #[.int .i64 (Cal.num y m (min d (Cal.mlen y m))), .int .i64 0]) ∧ Below w.heap.size w w' := by
  have hml := Cal.mlen_bd y m
  have key : ∀ t : Int, 1 ≤ t → ∃ x c : Int, ((Cal.vld y m t ∧ Cal.num y m t = x ∧ c = 0) ∨ (¬ Cal.vld y m t ∧ x = 0 ∧ c = 3)) ∧ (t ≤ Cal.mlen y m → x = Cal.num y m t ∧ c = 0) ∧ (Cal.mlen y m < t → x = 0 ∧ c = 3) := fun t ht => by
    by_cases c : t ≤ Cal.mlen y m
    · exact ⟨Cal.num y m t, 0, .inl ⟨⟨h1, h2, h3, h4, ht, c⟩, rfl, rfl⟩, fun _ => ⟨rfl, rfl⟩, fun c' => by omega⟩
    · exact ⟨0, 3, .inr ⟨fun v => c v.2.2.2.2.2, rfl, rfl⟩, fun c' => by omega, fun _ => ⟨rfl, rfl⟩⟩
  have KEY : Hid (_) := key
  clear key
  obtain ⟨x0, c0, k1, k2, k3⟩ := KEY.out d h5
  have K1 : Hid (_) := k1
  clear k1
  have l0 := hw.alloc (.cells #[.int .i64 y, .int .i64 m, .int .i64 d] 136)
  have L0 : Hid (Laid (w.alloc (.cells #[.int .i64 y, .int .i64 m, .int .i64 d] 136))) := l0
  have HW : Hid (Laid w) := hw
  clear hw l0
  go_enter Tryz.func96, Tryz.ntmps96
  go_wp2_with fail
  refine (day_all _ _ _ x0 c0 _ L0.out K1.out).mono ?_; rintro e w1 ⟨rfl, b1⟩
  have l1 := L0.out.below b1
  have d1 := (Has3.new w y m d 136).below b1
  have f1 : ∀ o, w1.frozen? ⟨w.heap.size, o, none⟩ = false := fun o => by rw [(bcell b1).2 w.heap.size o (by simp)]; simp
  have B1 := below_next (below_box w _) (Nat.le_refl _) b1
  have HB : Hid (_) := B1
  have HD : Hid (_) := d1
  have HL : Hid (Laid w1) := l1
  have HF : Hid (_) := f1
  clear b1 B1 d1 l1 f1
  go_wp2_with fail
  go_loopg [4, 5] d.toNat (fun kx s4 s5 wr => ∃ t x c : Int, s4 = .int .i64 x ∧ s5 = .int .i64 c ∧ 1 ≤ t ∧ t ≤ d ∧ t ≤ kx ∧ min d (Cal.mlen y m) ≤ t ∧ Hid ((t ≤ Cal.mlen y m → x = Cal.num y m t ∧ c = 0) ∧ (Cal.mlen y m < t → x = 0 ∧ c = 3)) ∧
    Hid (Has3 wr w.heap.size y m t ∧ (∀ o, wr.frozen? ⟨w.heap.size, o, none⟩ = false) ∧ Below w.heap.size w wr ∧ Laid wr))
  case atStart => exact ⟨d, x0, c0, rfl, rfl, h5, Int.le_refl _, by omega, by omega, ⟨k2, k3⟩, ⟨HD.out, HF.out, HB.out, HL.out⟩⟩
  case round =>
    obtain ⟨t, x, c, rfl, rfl, t1, t2, t3, t4, kc, ki⟩ := hrel
    clear k2 k3 HB HD HL HF L0 K1
    obtain ⟨i1, i2, i3, i4⟩ := ki.out
    obtain ⟨j0, j1, j2, j3⟩ := i1
    by_cases ht : t ≤ Cal.mlen y m
    · obtain ⟨rfl, rfl⟩ := kc.out.1 ht
      obtain rfl : min d (Cal.mlen y m) = t := by omega
      clear i2 i4
      have HB : Hid (_) := i3
      clear i3
      go_wp2
      go_ret2
      exact ⟨rfl, HB.out⟩
    · obtain ⟨rfl, rfl⟩ := kc.out.2 (by omega)
      have t5 : 1 < t := by omega
      obtain ⟨x', c', k1, k2, k3⟩ := KEY.out (t - 1) (by omega)
      have K1 : Hid (_) := k1
      have K2 : Hid (_) := And.intro k2 k3
      clear k1 k2 k3
      have B2 := i3.setCell (p := ⟨w.heap.size, 2, none⟩) (Nat.le_refl _) (.int .i64 (t - 1))
      have HL : Hid (Laid (wr.setCell ⟨w.heap.size, 2, none⟩ (.int .i64 (t - 1)))) := HW.out.below B2
      have HB : Hid (_) := B2
      have h3' : Has3 (wr.setCell ⟨w.heap.size, 2, none⟩ (.int .i64 (t - 1))) w.heap.size y m (t - 1) := ⟨by rw [World.size_setCell]; exact j0, by rw [World.cell?_setCell_other _ _ _ _ (fun h => by cases h)]; exact j1, by rw [World.cell?_setCell_other _ _ _ _ (fun h => by cases h)]; exact j2, by rw [World.cell?_setCell_same' _ _ _ (by rw [j3]; rfl)]⟩
      have H3 : Hid (_) := h3'
      have HF : Hid (∀ o, (wr.setCell ⟨w.heap.size, 2, none⟩ (.int .i64 (t - 1))).frozen? ⟨w.heap.size, o, none⟩ = false) := fun o => by rw [World.frozen?_setCell]; exact i2 o
      have f2 := i2 2
      clear i2 i3 i4 B2 h3' kc ki
      go_wp2_with fail
      refine (day_all _ _ _ x' c' _ HL.out K1.out).mono ?_; rintro e w2 ⟨rfl, b2⟩
      have B3 := below_next HB.out (Nat.le_refl _) b2
      have H4 := Has3.below H3.out b2
      have F4 : ∀ o, w2.frozen? ⟨w.heap.size, o, none⟩ = false := fun o => by rw [(bcell b2).2 w.heap.size o H3.out.1]; exact HF.out o
      have HR : Hid (Has3 w2 w.heap.size y m (t - 1) ∧ (∀ o, w2.frozen? ⟨w.heap.size, o, none⟩ = false) ∧ Below w.heap.size w w2 ∧ Laid w2) := ⟨H4, F4, B3, HL.out.below b2⟩
      clear B3 H4 F4 b2 HB HL H3 HF
      go_wp2_with fail
      go_roundg (t - 1).toNat
      case measure => omega
      case rel => exact ⟨t - 1, x', c', rfl, rfl, by omega, by omega, by omega, by omega, K2.out, HR.out⟩
end Go.Proofs.YtandlmnbnjkklaaGreatDoor
