/- The reference's looks at rules and calendars. -/
import Derived.Test.YtpjpmfcbddkjnaaDoorWCal
import Derived.Test.YtpjpmfcbddkjnaaDoorRef2
namespace Go.Proofs.YtpjpmfcbddkjnaaDoor
open Go.RowKit

set_option maxRecDepth 100000 in
set_option maxHeartbeats 2000000 in
theorem vRule (k m d wd : Int) (w : World) :
    Calls Tryd.prog 34 #[.agg #[.int .i64 k, .int .i64 m, .int .i64 d, .int .i64 wd]] w fun e w' => e = .returned (.int .i64 (Wk.rchk (k, m, d, wd))) ∧ Below w.heap.size w w' := by
  have bA := below_box w (.cells #[.int .i64 k, .int .i64 m, .int .i64 d, .int .i64 wd] 60)
  unfold Wk.rchk
  dsimp only
  by_cases h1 : k = 1
  · subst h1
    rw [if_pos rfl]
    unfold Wk.fchk
    by_cases hd : d < 1
    · rw [if_neg (by omega)]
      go_enter Tryd.func34, Tryd.ntmps34
      go_wp2
      go_quiet (fail)
      go_wp2
      go_ret
      exact ⟨rfl, below_drewN bA _⟩
    · have hd' : decide (d < 1) = false := by simpa using hd
      by_cases hm : 1 ≤ m ∧ m ≤ 12
      · have ml := Cal.mlen_bd 2001 m
        have hmd := fun W => monthDays_ok 2001 m W (by decide) (by decide) hm.1 hm.2
        by_cases hl : d ≤ Cal.mlen 2001 m
        · rw [if_pos ⟨hm.1, hm.2, by omega, hl⟩]
          generalize Cal.mlen 2001 m = ML at *
          have hl' : decide (ML < d) = false := by simpa using hl
          by_cases hw0 : wd = 0
          · subst hw0
            rw [if_pos rfl]
            go_enter Tryd.func34, Tryd.ntmps34
            go_wp2
            go_quiet ((go_at_call 56; exact Calls.quiet_of_same (hmd _)))
            clear hmd
            go_wp2
            go_ret
            exact ⟨rfl, below_drewN bA _⟩
          · rw [if_neg hw0]
            have hw0' : (wd != 0) = true := by simpa using hw0
            go_enter Tryd.func34, Tryd.ntmps34
            go_wp2
            go_quiet ((go_at_call 56; exact Calls.quiet_of_same (hmd _)))
            clear hmd
            go_wp2
            go_ret
            exact ⟨rfl, below_drewN bA _⟩
        · rw [if_neg (fun q => hl q.2.2.2)]
          generalize Cal.mlen 2001 m = ML at *
          have hl' : decide (ML < d) = true := by simpa using hl
          go_enter Tryd.func34, Tryd.ntmps34
          go_wp2
          go_quiet ((go_at_call 56; exact Calls.quiet_of_same (hmd _)))
          clear hmd
          go_wp2
          go_ret
          exact ⟨rfl, below_drewN bA _⟩
      · rw [if_neg (fun q => hm ⟨q.1, q.2.1⟩)]
        have hmd := fun W => monthDays_no 2001 m W (fun q => hm q.2.2)
        have hl' : decide ((0 : Int) < d) = true := by simp; omega
        go_enter Tryd.func34, Tryd.ntmps34
        go_wp2
        go_quiet ((go_at_call 56; exact Calls.quiet_of_same (hmd _)))
        clear hmd
        go_wp2
        go_ret
        exact ⟨rfl, below_drewN bA _⟩
  · have h1' : (k == 1) = false := by simpa using h1
    rw [if_neg h1]
    by_cases h2 : k = 2
    · subst h2
      rw [if_pos rfl]
      unfold Wk.nchk
      by_cases a1 : m < 1
      · rw [if_neg (by omega)]
        go_enter Tryd.func34, Tryd.ntmps34
        go_wp2
        go_ret
        exact ⟨rfl, bA⟩
      · have a1' : decide (m < 1) = false := by simpa using a1
        by_cases a2 : 12 < m
        · rw [if_neg (by omega)]
          go_enter Tryd.func34, Tryd.ntmps34
          go_wp2
          go_ret
          exact ⟨rfl, bA⟩
        · have a2' : decide (12 < m) = false := by simpa using a2
          by_cases a3 : d < 1
          · rw [if_neg (by omega)]
            go_enter Tryd.func34, Tryd.ntmps34
            go_wp2
            go_ret
            exact ⟨rfl, bA⟩
          · have a3' : decide (d < 1) = false := by simpa using a3
            by_cases a4 : 5 < d
            · rw [if_neg (by omega)]
              go_enter Tryd.func34, Tryd.ntmps34
              go_wp2
              go_ret
              exact ⟨rfl, bA⟩
            · have a4' : decide (5 < d) = false := by simpa using a4
              by_cases a5 : wd < 1
              · rw [if_neg (by omega)]
                go_enter Tryd.func34, Tryd.ntmps34
                go_wp2
                go_ret
                exact ⟨rfl, bA⟩
              · have a5' : decide (wd < 1) = false := by simpa using a5
                by_cases a6 : 7 < wd
                · rw [if_neg (by omega)]
                  go_enter Tryd.func34, Tryd.ntmps34
                  go_wp2
                  go_ret
                  exact ⟨rfl, bA⟩
                · rw [if_pos (by omega)]
                  have a6' : decide (7 < wd) = false := by simpa using a6
                  go_enter Tryd.func34, Tryd.ntmps34
                  go_wp2
                  go_ret
                  exact ⟨rfl, bA⟩
    · have h2' : (k == 2) = false := by simpa using h2
      rw [if_neg h2]
      by_cases h3 : k = 3
      · subst h3
        rw [if_pos rfl]
        unfold Wk.mchk
        by_cases b1 : m = 0
        · subst b1
          by_cases b2 : wd = 0
          · subst b2
            rw [if_pos ⟨rfl, rfl⟩]
            by_cases b3 : d < -100
            · rw [if_neg (by omega)]
              go_enter Tryd.func34, Tryd.ntmps34
              go_wp2
              go_ret
              exact ⟨rfl, bA⟩
            · have b3' : decide (d < -100) = false := by simpa using b3
              by_cases b4 : 100 < d
              · rw [if_neg (by omega)]
                go_enter Tryd.func34, Tryd.ntmps34
                go_wp2
                go_ret
                exact ⟨rfl, bA⟩
              · rw [if_pos (by omega)]
                have b4' : decide (100 < d) = false := by simpa using b4
                go_enter Tryd.func34, Tryd.ntmps34
                go_wp2
                go_ret
                exact ⟨rfl, bA⟩
          · rw [if_neg (fun q => b2 q.2)]
            have b2' : (wd != 0) = true := by simpa using b2
            go_enter Tryd.func34, Tryd.ntmps34
            go_wp2
            go_ret
            exact ⟨rfl, bA⟩
        · rw [if_neg (fun q => b1 q.1)]
          have b1' : (m != 0) = true := by simpa using b1
          go_enter Tryd.func34, Tryd.ntmps34
          go_wp2
          go_ret
          exact ⟨rfl, bA⟩
      · have h3' : (k == 3) = false := by simpa using h3
        rw [if_neg h3]
        go_enter Tryd.func34, Tryd.ntmps34
        go_wp2
        go_ret
        exact ⟨rfl, bA⟩
end Go.Proofs.YtpjpmfcbddkjnaaDoor
