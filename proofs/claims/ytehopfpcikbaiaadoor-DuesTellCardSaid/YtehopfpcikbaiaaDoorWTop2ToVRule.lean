/- The program's calls Next, Add and Count. The reference's looks at rules and calendars. -/
import Derived.Test.YtehopfpcikbaiaaDoorWSea
import Derived.Test.YtehopfpcikbaiaaDoorWCal
import Derived.Test.YtehopfpcikbaiaaDoorWkToWDay
namespace Go.Proofs.YtehopfpcikbaiaaDoor
open Go.RowKit

theorem wOpen_at (R : Wk.Rst) (l : List Wk.Rl) (a : Option Addr) (n c : Nat) (w : World) :
    Calls Tryd.prog 28 #[calV R a n c] w fun e w' => ∃ bm, e = .returned (almV R a n c bm) ∧ w.heap.size < bm ∧ Alm w' bm 0 R l ∧ Below w.heap.size w w' :=
  (wOpen R l a n c w).mono fun _ _ h => ⟨_, h.1, by omega, h.2⟩
set_option maxRecDepth 100000 in
set_option maxHeartbeats 1000000 in
theorem pNext (R : Wk.Rst) (l : List Wk.Rl) (a : Option Addr) (cap : Nat) (n : Int) (w : World) (hl : l.length ≤ maxLen) (hw : Laid w) (hr : Row4 w a l) :
    Calls Tryd.prog 32 #[calV R a l.length cap, .int .i64 n] w fun e w' => e = .returned (.tuple #[.int .i64 (Wk.told R l (Wk.next R l n)).1, .int .i64 (Wk.told R l (Wk.next R l n)).2]) ∧ Below w.heap.size w w' := by
  have bA := below_box w (.cells #[.bool R.b0, .bool R.b1, .bool R.b2, .bool R.b3, .bool R.b4, .bool R.b5, .bool R.b6, .slice a l.length cap] 25)
  have HCS : Hid (∀ j v, (#[.bool R.b0, .bool R.b1, .bool R.b2, .bool R.b3, .bool R.b4, .bool R.b5, .bool R.b6, .slice a l.length cap] : Array Value)[j]? = some v → (w.alloc (.cells #[.bool R.b0, .bool R.b1, .bool R.b2, .bool R.b3, .bool R.b4, .bool R.b5, .bool R.b6, .slice a l.length cap] 25)).cell? ⟨w.heap.size, j, none⟩ = some v) := fun j v hj => boxCells w _ _ j v hj
  have sA : w.heap.size < (w.alloc (.cells #[.bool R.b0, .bool R.b1, .bool R.b2, .bool R.b3, .bool R.b4, .bool R.b5, .bool R.b6, .slice a l.length cap] 25)).heap.size := by simp
  have hC := wCheck R l a cap _ hl (hw.below bA) (hr.below bA)
  by_cases hz : Wk.cchk R l = 0
  · have e0 : Wk.told R l (Wk.next R l n) = Wk.next R l n := by unfold Wk.told; rw [if_pos hz]
    rw [e0]
    rw [hz] at hC
    clear e0
    go_enter Tryd.func32, Tryd.ntmps32
    go_wp2_with fail
    refine hC.mono ?_
    rintro e w1 ⟨rfl, b1⟩
    have B1 := below_next bA (Nat.le_refl _) b1
    have g0 : w1.cell? ⟨w.heap.size, 0, none⟩ = some _ := (b1.cell (p := ⟨w.heap.size, 0, none⟩) sA).trans (HCS.out 0 _ rfl)
    have g1 : w1.cell? ⟨w.heap.size, 1, none⟩ = some _ := (b1.cell (p := ⟨w.heap.size, 1, none⟩) sA).trans (HCS.out 1 _ rfl)
    have g2 : w1.cell? ⟨w.heap.size, 2, none⟩ = some _ := (b1.cell (p := ⟨w.heap.size, 2, none⟩) sA).trans (HCS.out 2 _ rfl)
    have g3 : w1.cell? ⟨w.heap.size, 3, none⟩ = some _ := (b1.cell (p := ⟨w.heap.size, 3, none⟩) sA).trans (HCS.out 3 _ rfl)
    have g4 : w1.cell? ⟨w.heap.size, 4, none⟩ = some _ := (b1.cell (p := ⟨w.heap.size, 4, none⟩) sA).trans (HCS.out 4 _ rfl)
    have g5 : w1.cell? ⟨w.heap.size, 5, none⟩ = some _ := (b1.cell (p := ⟨w.heap.size, 5, none⟩) sA).trans (HCS.out 5 _ rfl)
    have g6 : w1.cell? ⟨w.heap.size, 6, none⟩ = some _ := (b1.cell (p := ⟨w.heap.size, 6, none⟩) sA).trans (HCS.out 6 _ rfl)
    have g7 : w1.cell? ⟨w.heap.size, 7, none⟩ = some _ := (b1.cell (p := ⟨w.heap.size, 7, none⟩) sA).trans (HCS.out 7 _ rfl)
    go_wp2_with fail
    refine (wOpen R l a l.length cap w1).mono ?_
    rintro e w3 ⟨rfl, A3, b3⟩
    have B3 := below_next B1 (Nat.le_refl _) b3
    have O3 := mkOpen hw hr B3 (by have := B1.size; omega) hz A3
    clear g0 g1 g2 g3 g4 g5 g6 g7
    clear b1 hC b3
    go_wp2_with fail
    refine (sNext O3 cap n (by omega)).mono ?_
    rintro e w4 ⟨rfl, g4⟩
    have B4 := B3.grown g4 B3.size (fun j hj => by cases hj; have := B1.size; omega)
    clear O3 g4 A3
    go_wp2
    go_ret2
    exact ⟨rfl, B4⟩
  · have e0 : Wk.told R l (Wk.next R l n) = (0, Wk.cchk R l) := by unfold Wk.told; rw [if_neg hz]
    rw [e0]
    clear e0
    have hne : (Wk.cchk R l != 0) = true := by simpa using hz
    go_enter Tryd.func32, Tryd.ntmps32
    go_wp2_with fail
    refine hC.mono ?_
    rintro e w1 ⟨rfl, b1⟩
    have B1 := below_next bA (Nat.le_refl _) b1
    clear b1 hC
    go_wp2
    go_ret2
    exact ⟨rfl, B1⟩
end Go.Proofs.YtehopfpcikbaiaaDoor
namespace Go.Proofs.YtehopfpcikbaiaaDoor
open Go.RowKit

set_option maxRecDepth 100000 in
set_option maxHeartbeats 2000000 in
theorem vRule (k m d wd : Int) (w : World) :
    Calls Tryd.prog 71 #[.agg #[.int .i64 k, .int .i64 m, .int .i64 d, .int .i64 wd]] w fun e w' => e = .returned (.int .i64 (Wk.rchk (k, m, d, wd))) ∧ Below w.heap.size w w' := by
  have bA := below_box w (.cells #[.int .i64 k, .int .i64 m, .int .i64 d, .int .i64 wd] 74)
  unfold Wk.rchk
  dsimp only
  by_cases h1 : k = 1
  · subst h1
    rw [if_pos rfl]
    unfold Wk.fchk
    by_cases hd : d < 1
    · rw [if_neg (by omega)]
      go_enter Tryd.func71, Tryd.ntmps71
      go_wp2
      go_quiet (fail)
      go_wp2
      go_ret
      exact ⟨rfl, below_drewN bA _⟩
    · have hd' : decide (d < 1) = false := by simpa using hd
      by_cases hm : 1 ≤ m ∧ m ≤ 12
      · have ml := Cal.mlen_bd 2001 m
        have hmd := fun W => monthDays_ok 2001 m W (by decide) (by decide) hm.1 hm.2
        by_cases hl : d ≤ Cal.mlen 2001 m
        · rw [if_pos ⟨hm.1, hm.2, by omega, hl⟩]
          generalize Cal.mlen 2001 m = ML at *
          have hl' : decide (ML < d) = false := by simpa using hl
          by_cases hw0 : wd = 0
          · subst hw0
            rw [if_pos rfl]
            go_enter Tryd.func71, Tryd.ntmps71
            go_wp2
            go_quiet ((go_at_call 52; exact Calls.quiet_of_same (hmd _)))
            clear hmd
            go_wp2
            go_ret
            exact ⟨rfl, below_drewN bA _⟩
          · rw [if_neg hw0]
            have hw0' : (wd != 0) = true := by simpa using hw0
            go_enter Tryd.func71, Tryd.ntmps71
            go_wp2
            go_quiet ((go_at_call 52; exact Calls.quiet_of_same (hmd _)))
            clear hmd
            go_wp2
            go_ret
            exact ⟨rfl, below_drewN bA _⟩
        · rw [if_neg (fun q => hl q.2.2.2)]
          generalize Cal.mlen 2001 m = ML at *
          have hl' : decide (ML < d) = true := by simpa using hl
          go_enter Tryd.func71, Tryd.ntmps71
          go_wp2
          go_quiet ((go_at_call 52; exact Calls.quiet_of_same (hmd _)))
          clear hmd
          go_wp2
          go_ret
          exact ⟨rfl, below_drewN bA _⟩
      · rw [if_neg (fun q => hm ⟨q.1, q.2.1⟩)]
        have hmd := fun W => monthDays_no 2001 m W (fun q => hm q.2.2)
        have hl' : decide ((0 : Int) < d) = true := by simp; omega
        go_enter Tryd.func71, Tryd.ntmps71
        go_wp2
        go_quiet ((go_at_call 52; exact Calls.quiet_of_same (hmd _)))
        clear hmd
        go_wp2
        go_ret
        exact ⟨rfl, below_drewN bA _⟩
  · have h1' : (k == 1) = false := by simpa using h1
    rw [if_neg h1]
    by_cases h2 : k = 2
    · subst h2
      rw [if_pos rfl]
      unfold Wk.nchk
      by_cases a1 : m < 1
      · rw [if_neg (by omega)]
        go_enter Tryd.func71, Tryd.ntmps71
        go_wp2
        go_ret
        exact ⟨rfl, bA⟩
      · have a1' : decide (m < 1) = false := by simpa using a1
        by_cases a2 : 12 < m
        · rw [if_neg (by omega)]
          go_enter Tryd.func71, Tryd.ntmps71
          go_wp2
          go_ret
          exact ⟨rfl, bA⟩
        · have a2' : decide (12 < m) = false := by simpa using a2
          by_cases a3 : d < 1
          · rw [if_neg (by omega)]
            go_enter Tryd.func71, Tryd.ntmps71
            go_wp2
            go_ret
            exact ⟨rfl, bA⟩
          · have a3' : decide (d < 1) = false := by simpa using a3
            by_cases a4 : 5 < d
            · rw [if_neg (by omega)]
              go_enter Tryd.func71, Tryd.ntmps71
              go_wp2
              go_ret
              exact ⟨rfl, bA⟩
            · have a4' : decide (5 < d) = false := by simpa using a4
              by_cases a5 : wd < 1
              · rw [if_neg (by omega)]
                go_enter Tryd.func71, Tryd.ntmps71
                go_wp2
                go_ret
                exact ⟨rfl, bA⟩
              · have a5' : decide (wd < 1) = false := by simpa using a5
                by_cases a6 : 7 < wd
                · rw [if_neg (by omega)]
                  go_enter Tryd.func71, Tryd.ntmps71
                  go_wp2
                  go_ret
                  exact ⟨rfl, bA⟩
                · rw [if_pos (by omega)]
                  have a6' : decide (7 < wd) = false := by simpa using a6
                  go_enter Tryd.func71, Tryd.ntmps71
                  go_wp2
                  go_ret
                  exact ⟨rfl, bA⟩
    · have h2' : (k == 2) = false := by simpa using h2
      rw [if_neg h2]
      by_cases h3 : k = 3
      · subst h3
        rw [if_pos rfl]
        unfold Wk.mchk
        by_cases b1 : m = 0
        · subst b1
          by_cases b2 : wd = 0
          · subst b2
            rw [if_pos ⟨rfl, rfl⟩]
            by_cases b3 : d < -100
            · rw [if_neg (by omega)]
              go_enter Tryd.func71, Tryd.ntmps71
              go_wp2
              go_ret
              exact ⟨rfl, bA⟩
            · have b3' : decide (d < -100) = false := by simpa using b3
              by_cases b4 : 100 < d
              · rw [if_neg (by omega)]
                go_enter Tryd.func71, Tryd.ntmps71
                go_wp2
                go_ret
                exact ⟨rfl, bA⟩
              · rw [if_pos (by omega)]
                have b4' : decide (100 < d) = false := by simpa using b4
                go_enter Tryd.func71, Tryd.ntmps71
                go_wp2
                go_ret
                exact ⟨rfl, bA⟩
          · rw [if_neg (fun q => b2 q.2)]
            have b2' : (wd != 0) = true := by simpa using b2
            go_enter Tryd.func71, Tryd.ntmps71
            go_wp2
            go_ret
            exact ⟨rfl, bA⟩
        · rw [if_neg (fun q => b1 q.1)]
          have b1' : (m != 0) = true := by simpa using b1
          go_enter Tryd.func71, Tryd.ntmps71
          go_wp2
          go_ret
          exact ⟨rfl, bA⟩
      · have h3' : (k == 3) = false := by simpa using h3
        rw [if_neg h3]
        go_enter Tryd.func71, Tryd.ntmps71
        go_wp2
        go_ret
        exact ⟨rfl, bA⟩
end Go.Proofs.YtehopfpcikbaiaaDoor
