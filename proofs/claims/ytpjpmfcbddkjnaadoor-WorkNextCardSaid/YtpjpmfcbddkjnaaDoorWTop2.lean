/- The program's calls Next, Add and Count. -/
import Derived.Test.YtpjpmfcbddkjnaaDoorWSea
namespace Go.Proofs.YtpjpmfcbddkjnaaDoor
open Go.RowKit

theorem wOpen_at (R : Wk.Rst) (l : List Wk.Rl) (a : Option Addr) (n c : Nat) (w : World) :
    Calls Tryd.prog 26 #[calV R a n c] w fun e w' => ∃ bm, e = .returned (almV R a n c bm) ∧ w.heap.size < bm ∧ Alm w' bm 0 R l ∧ Below w.heap.size w w' :=
  (wOpen R l a n c w).mono fun _ _ h => ⟨_, h.1, by omega, h.2⟩
set_option maxRecDepth 100000 in
set_option maxHeartbeats 1000000 in
theorem pNext (R : Wk.Rst) (l : List Wk.Rl) (a : Option Addr) (cap : Nat) (n : Int) (w : World) (hl : l.length ≤ maxLen) (hw : Laid w) (hr : Row4 w a l) :
    Calls Tryd.prog 16 #[calV R a l.length cap, .int .i64 n] w fun e w' => e = .returned (.tuple #[.int .i64 (Wk.told R l (Wk.next R l n)).1, .int .i64 (Wk.told R l (Wk.next R l n)).2]) ∧ Below w.heap.size w w' := by
  have bA := below_box w (.cells #[.bool R.b0, .bool R.b1, .bool R.b2, .bool R.b3, .bool R.b4, .bool R.b5, .bool R.b6, .slice a l.length cap] 25)
  have HCS : Hid (∀ j v, (#[.bool R.b0, .bool R.b1, .bool R.b2, .bool R.b3, .bool R.b4, .bool R.b5, .bool R.b6, .slice a l.length cap] : Array Value)[j]? = some v → (w.alloc (.cells #[.bool R.b0, .bool R.b1, .bool R.b2, .bool R.b3, .bool R.b4, .bool R.b5, .bool R.b6, .slice a l.length cap] 25)).cell? ⟨w.heap.size, j, none⟩ = some v) := fun j v hj => boxCells w _ _ j v hj
  have sA : w.heap.size < (w.alloc (.cells #[.bool R.b0, .bool R.b1, .bool R.b2, .bool R.b3, .bool R.b4, .bool R.b5, .bool R.b6, .slice a l.length cap] 25)).heap.size := by simp
  have hC := wCheck R l a cap _ hl (hw.below bA) (hr.below bA)
  by_cases hz : Wk.cchk R l = 0
  · have e0 : Wk.told R l (Wk.next R l n) = Wk.next R l n := by unfold Wk.told; rw [if_pos hz]
    rw [e0]
    rw [hz] at hC
    clear e0
    go_enter Tryd.func16, Tryd.ntmps16
    go_wp2_with fail
    refine hC.mono ?_
    rintro e w1 ⟨rfl, b1⟩
    have B1 := below_next bA (Nat.le_refl _) b1
    have g0 : w1.cell? ⟨w.heap.size, 0, none⟩ = some _ := (b1.cell (p := ⟨w.heap.size, 0, none⟩) sA).trans (HCS.out 0 _ rfl)
    have g1 : w1.cell? ⟨w.heap.size, 1, none⟩ = some _ := (b1.cell (p := ⟨w.heap.size, 1, none⟩) sA).trans (HCS.out 1 _ rfl)
    have g2 : w1.cell? ⟨w.heap.size, 2, none⟩ = some _ := (b1.cell (p := ⟨w.heap.size, 2, none⟩) sA).trans (HCS.out 2 _ rfl)
    have g3 : w1.cell? ⟨w.heap.size, 3, none⟩ = some _ := (b1.cell (p := ⟨w.heap.size, 3, none⟩) sA).trans (HCS.out 3 _ rfl)
    have g4 : w1.cell? ⟨w.heap.size, 4, none⟩ = some _ := (b1.cell (p := ⟨w.heap.size, 4, none⟩) sA).trans (HCS.out 4 _ rfl)
    have g5 : w1.cell? ⟨w.heap.size, 5, none⟩ = some _ := (b1.cell (p := ⟨w.heap.size, 5, none⟩) sA).trans (HCS.out 5 _ rfl)
    have g6 : w1.cell? ⟨w.heap.size, 6, none⟩ = some _ := (b1.cell (p := ⟨w.heap.size, 6, none⟩) sA).trans (HCS.out 6 _ rfl)
    have g7 : w1.cell? ⟨w.heap.size, 7, none⟩ = some _ := (b1.cell (p := ⟨w.heap.size, 7, none⟩) sA).trans (HCS.out 7 _ rfl)
    go_wp2_with fail
    refine (wOpen R l a l.length cap w1).mono ?_
    rintro e w3 ⟨rfl, A3, b3⟩
    have B3 := below_next B1 (Nat.le_refl _) b3
    have O3 := mkOpen hw hr B3 (by have := B1.size; omega) hz A3
    clear g0 g1 g2 g3 g4 g5 g6 g7
    clear b1 hC b3
    go_wp2_with fail
    refine (sNext O3 cap n (by omega)).mono ?_
    rintro e w4 ⟨rfl, g4⟩
    have B4 := B3.grown g4 B3.size (fun j hj => by cases hj; have := B1.size; omega)
    clear O3 g4 A3
    go_wp2
    go_ret2
    exact ⟨rfl, B4⟩
  · have e0 : Wk.told R l (Wk.next R l n) = (0, Wk.cchk R l) := by unfold Wk.told; rw [if_neg hz]
    rw [e0]
    clear e0
    have hne : (Wk.cchk R l != 0) = true := by simpa using hz
    go_enter Tryd.func16, Tryd.ntmps16
    go_wp2_with fail
    refine hC.mono ?_
    rintro e w1 ⟨rfl, b1⟩
    have B1 := below_next bA (Nat.le_refl _) b1
    clear b1 hC
    go_wp2
    go_ret2
    exact ⟨rfl, B1⟩
set_option maxRecDepth 100000 in
set_option maxHeartbeats 1600000 in
theorem pAdd (R : Wk.Rst) (l : List Wk.Rl) (a : Option Addr) (cap : Nat) (n c : Int) (w : World) (hl : l.length ≤ maxLen) (hw : Laid w) (hr : Row4 w a l) :
    Calls Tryd.prog 17 #[calV R a l.length cap, .int .i64 n, .int .i64 c] w fun e w' => e = .returned (.tuple #[.int .i64 (Wk.told R l (Wk.add R l n c)).1, .int .i64 (Wk.told R l (Wk.add R l n c)).2]) ∧ Below w.heap.size w w' := by
  have bA := below_box w (.cells #[.bool R.b0, .bool R.b1, .bool R.b2, .bool R.b3, .bool R.b4, .bool R.b5, .bool R.b6, .slice a l.length cap] 25)
  have HCS : Hid (∀ j v, (#[.bool R.b0, .bool R.b1, .bool R.b2, .bool R.b3, .bool R.b4, .bool R.b5, .bool R.b6, .slice a l.length cap] : Array Value)[j]? = some v → (w.alloc (.cells #[.bool R.b0, .bool R.b1, .bool R.b2, .bool R.b3, .bool R.b4, .bool R.b5, .bool R.b6, .slice a l.length cap] 25)).cell? ⟨w.heap.size, j, none⟩ = some v) := fun j v hj => boxCells w _ _ j v hj
  have sA : w.heap.size < (w.alloc (.cells #[.bool R.b0, .bool R.b1, .bool R.b2, .bool R.b3, .bool R.b4, .bool R.b5, .bool R.b6, .slice a l.length cap] 25)).heap.size := by simp
  have hC := wCheck R l a cap _ hl (hw.below bA) (hr.below bA)
  by_cases hz : Wk.cchk R l = 0
  · have e0 : Wk.told R l (Wk.add R l n c) = Wk.add R l n c := by unfold Wk.told; rw [if_pos hz]
    rw [e0]
    rw [hz] at hC
    clear e0
    by_cases h1 : 1 ≤ n ∧ n ≤ 3651693
    · by_cases h2 : 0 ≤ c ∧ c ≤ 400
      · by_cases h3 : c = 0
        · subst h3
          have e1 : Wk.add R l n 0 = (n, 0) := by unfold Wk.add; rw [if_pos ⟨h1.1, h1.2, h2.1, h2.2⟩, if_pos rfl]
          rw [e1]
          clear e1
          go_enter Tryd.func17, Tryd.ntmps17
          go_wp2_with fail
          refine hC.mono ?_
          rintro e w1 ⟨rfl, b1⟩
          have B1 := below_next bA (Nat.le_refl _) b1
          go_wp2_with fail
          refine (wDay_is n true _ (decide_eq_true h1)).mono ?_
          rintro e w2 ⟨rfl, rfl⟩
          go_wp2_with fail
          refine (wWithin_is 0 0 400 true _ (decide_eq_true h2)).mono ?_
          rintro e w2 ⟨rfl, rfl⟩
          clear h1 h2 b1 hC
          go_wp2
          go_ret2
          exact ⟨rfl, B1⟩
        · have e1 : Wk.add R l n c = Wk.addS R l (n + 1) c := by unfold Wk.add; rw [if_pos ⟨h1.1, h1.2, h2.1, h2.2⟩, if_neg h3]
          rw [e1]
          clear e1
          have h3' : (c == 0) = false := by simpa using h3
          have hw1 : IntKind.i64.wrap (n + 1) = n + 1 := by rw [IntKind.wrap_i64]; omega
          go_enter Tryd.func17, Tryd.ntmps17
          go_wp2_with fail
          refine hC.mono ?_
          rintro e w1 ⟨rfl, b1⟩
          have B1 := below_next bA (Nat.le_refl _) b1
          have g0 : w1.cell? ⟨w.heap.size, 0, none⟩ = some _ := (b1.cell (p := ⟨w.heap.size, 0, none⟩) sA).trans (HCS.out 0 _ rfl)
          have g1 : w1.cell? ⟨w.heap.size, 1, none⟩ = some _ := (b1.cell (p := ⟨w.heap.size, 1, none⟩) sA).trans (HCS.out 1 _ rfl)
          have g2 : w1.cell? ⟨w.heap.size, 2, none⟩ = some _ := (b1.cell (p := ⟨w.heap.size, 2, none⟩) sA).trans (HCS.out 2 _ rfl)
          have g3 : w1.cell? ⟨w.heap.size, 3, none⟩ = some _ := (b1.cell (p := ⟨w.heap.size, 3, none⟩) sA).trans (HCS.out 3 _ rfl)
          have g4 : w1.cell? ⟨w.heap.size, 4, none⟩ = some _ := (b1.cell (p := ⟨w.heap.size, 4, none⟩) sA).trans (HCS.out 4 _ rfl)
          have g5 : w1.cell? ⟨w.heap.size, 5, none⟩ = some _ := (b1.cell (p := ⟨w.heap.size, 5, none⟩) sA).trans (HCS.out 5 _ rfl)
          have g6 : w1.cell? ⟨w.heap.size, 6, none⟩ = some _ := (b1.cell (p := ⟨w.heap.size, 6, none⟩) sA).trans (HCS.out 6 _ rfl)
          have g7 : w1.cell? ⟨w.heap.size, 7, none⟩ = some _ := (b1.cell (p := ⟨w.heap.size, 7, none⟩) sA).trans (HCS.out 7 _ rfl)
          have s1 : w.heap.size < w1.heap.size := Nat.lt_of_lt_of_le sA b1.size
          have sne : w.heap.size ≠ w1.heap.size := by omega
          go_wp2_with fail
          refine (wDay_is n true _ (decide_eq_true h1)).mono ?_
          rintro e w2 ⟨rfl, rfl⟩
          go_wp2_with fail
          refine (wWithin_is c 0 400 true _ (decide_eq_true h2)).mono ?_
          rintro e w2 ⟨rfl, rfl⟩
          have BL := B1.alloc B1.size (.cells #[.int .i64 c] 3)
          have lc : (w2.alloc (.cells #[.int .i64 c] 3)).cell? ⟨w2.heap.size, 0, none⟩ = some (.int .i64 c) := by simp
          have lf : (w2.alloc (.cells #[.int .i64 c] 3)).frozen? ⟨w2.heap.size, 0, none⟩ = false := by simp
          have sL : w2.heap.size < (w2.alloc (.cells #[.int .i64 c] 3)).heap.size := by simp
          have eL : (w2.alloc (.cells #[.int .i64 c] 3)).heap.size = w2.heap.size + 1 := by simp
          have HL : Hid (_) := And.intro lc lf
          clear lc lf
          go_wp2_with fail
          refine (wOpen_at R l a l.length cap _).mono ?_
          rintro e w3 ⟨bm, rfl, hbm, A3, b3⟩
          rw [eL] at hbm
          have B3 := below_next BL (Nat.le_refl _) b3
          have O3 := mkOpen hw hr B3 (by have := B1.size; omega) hz A3
          have lc3 : w3.cell? ⟨w2.heap.size, 0, none⟩ = some (.int .i64 c) := (b3.cell (p := ⟨w2.heap.size, 0, none⟩) sL).trans HL.out.1
          have lf3 : w3.frozen? ⟨w2.heap.size, 0, none⟩ = false := (World.frozen?_of_block (a := ⟨w2.heap.size, 0, none⟩) (b3.block w2.heap.size sL)).trans HL.out.2
          have sB : w.heap.size ≤ w2.heap.size := B1.size
          clear g0 g1 g2 g3 g4 g5 g6 g7
          clear b1 hC b3 HL BL
          go_wp2_with fail
          refine (sAdd O3 cap w2.heap.size (n + 1) c (by omega) B3 sB (by omega) (by omega) h2.2 lc3 lf3).mono ?_
          rintro e w4 ⟨rfl, B4⟩
          clear O3 A3 lc3 lf3
          go_wp2
          go_ret2
          exact ⟨rfl, B4⟩
      · have e1 : Wk.add R l n c = (0, 3) := by unfold Wk.add; rw [if_neg (fun q => h2 ⟨q.2.2.1, q.2.2.2⟩)]
        rw [e1]
        clear e1
        go_enter Tryd.func17, Tryd.ntmps17
        go_wp2_with fail
        refine hC.mono ?_
        rintro e w1 ⟨rfl, b1⟩
        have B1 := below_next bA (Nat.le_refl _) b1
        go_wp2_with fail
        refine (wDay_is n true _ (decide_eq_true h1)).mono ?_
        rintro e w2 ⟨rfl, rfl⟩
        go_wp2_with fail
        refine (wWithin_is c 0 400 false _ (decide_eq_false h2)).mono ?_
        rintro e w2 ⟨rfl, rfl⟩
        clear h1 h2 b1 hC
        go_wp2
        go_ret2
        exact ⟨rfl, B1⟩
    · have e1 : Wk.add R l n c = (0, 3) := by unfold Wk.add; rw [if_neg (fun q => h1 ⟨q.1, q.2.1⟩)]
      rw [e1]
      clear e1
      go_enter Tryd.func17, Tryd.ntmps17
      go_wp2_with fail
      refine hC.mono ?_
      rintro e w1 ⟨rfl, b1⟩
      have B1 := below_next bA (Nat.le_refl _) b1
      go_wp2_with fail
      refine (wDay_is n false _ (decide_eq_false h1)).mono ?_
      rintro e w2 ⟨rfl, rfl⟩
      clear h1 b1 hC
      go_wp2
      go_ret2
      exact ⟨rfl, B1⟩
  · have e0 : Wk.told R l (Wk.add R l n c) = (0, Wk.cchk R l) := by unfold Wk.told; rw [if_neg hz]
    rw [e0]
    clear e0
    have hne : (Wk.cchk R l != 0) = true := by simpa using hz
    go_enter Tryd.func17, Tryd.ntmps17
    go_wp2_with fail
    refine hC.mono ?_
    rintro e w1 ⟨rfl, b1⟩
    have B1 := below_next bA (Nat.le_refl _) b1
    clear b1 hC
    go_wp2
    go_ret2
    exact ⟨rfl, B1⟩
set_option maxRecDepth 100000 in
set_option maxHeartbeats 4000000 in
theorem pCount (R : Wk.Rst) (l : List Wk.Rl) (a : Option Addr) (cap : Nat) (x y : Int) (w : World) (hl : l.length ≤ maxLen) (hw : Laid w) (hr : Row4 w a l) :
    Calls Tryd.prog 18 #[calV R a l.length cap, .int .i64 x, .int .i64 y] w fun e w' => e = .returned (.tuple #[.int .i64 (Wk.told R l (Wk.count R l x y)).1, .int .i64 (Wk.told R l (Wk.count R l x y)).2]) ∧ Below w.heap.size w w' := by
  have bA := below_box w (.cells #[.bool R.b0, .bool R.b1, .bool R.b2, .bool R.b3, .bool R.b4, .bool R.b5, .bool R.b6, .slice a l.length cap] 25)
  have HCS : Hid (∀ j v, (#[.bool R.b0, .bool R.b1, .bool R.b2, .bool R.b3, .bool R.b4, .bool R.b5, .bool R.b6, .slice a l.length cap] : Array Value)[j]? = some v → (w.alloc (.cells #[.bool R.b0, .bool R.b1, .bool R.b2, .bool R.b3, .bool R.b4, .bool R.b5, .bool R.b6, .slice a l.length cap] 25)).cell? ⟨w.heap.size, j, none⟩ = some v) := fun j v hj => boxCells w _ _ j v hj
  have sA : w.heap.size < (w.alloc (.cells #[.bool R.b0, .bool R.b1, .bool R.b2, .bool R.b3, .bool R.b4, .bool R.b5, .bool R.b6, .slice a l.length cap] 25)).heap.size := by simp
  have hC := wCheck R l a cap _ hl (hw.below bA) (hr.below bA)
  by_cases hz : Wk.cchk R l = 0
  · have e0 : Wk.told R l (Wk.count R l x y) = Wk.count R l x y := by unfold Wk.told; rw [if_pos hz]
    rw [e0]
    rw [hz] at hC
    clear e0
    by_cases h1 : 1 ≤ x ∧ x ≤ 3651693
    · by_cases h2 : 1 ≤ y ∧ y ≤ 3651693
      · have ec : Wk.count R l x y = if y < x then (0, 4) else if 2000 < y - x then (0, 2) else (Wk.cnt R l x (y - x).toNat, 0) := by unfold Wk.count; rw [if_pos ⟨h1.1, h1.2, h2.1, h2.2⟩]
        rw [ec]
        clear ec
        have hw1 : IntKind.i64.wrap (y - x) = y - x := by rw [IntKind.wrap_i64]; omega
        by_cases h3 : y < x
        · rw [if_pos h3]
          go_enter Tryd.func18, Tryd.ntmps18
          go_wp2_with fail
          refine hC.mono ?_
          rintro e w1 ⟨rfl, b1⟩
          have B1 := below_next bA (Nat.le_refl _) b1
          go_wp2_with fail
          refine (wDay_is x true _ (decide_eq_true h1)).mono ?_
          rintro e w2 ⟨rfl, rfl⟩
          go_wp2_with fail
          refine (wDay_is y true _ (decide_eq_true h2)).mono ?_
          rintro e w2 ⟨rfl, rfl⟩
          clear h1 h2 b1 hC
          go_wp2
          go_ret2
          exact ⟨rfl, B1⟩
        · rw [if_neg h3]
          have h3' : decide (y < x) = false := by simpa using h3
          by_cases h4 : 2000 < y - x
          · rw [if_pos h4]
            go_enter Tryd.func18, Tryd.ntmps18
            go_wp2_with fail
            refine hC.mono ?_
            rintro e w1 ⟨rfl, b1⟩
            have B1 := below_next bA (Nat.le_refl _) b1
            go_wp2_with fail
            refine (wDay_is x true _ (decide_eq_true h1)).mono ?_
            rintro e w2 ⟨rfl, rfl⟩
            go_wp2_with fail
            refine (wDay_is y true _ (decide_eq_true h2)).mono ?_
            rintro e w2 ⟨rfl, rfl⟩
            clear h1 h2 b1 hC
            go_wp2
            go_ret2
            exact ⟨rfl, B1⟩
          · rw [if_neg h4]
            have h4' : decide (2000 < y - x) = false := by simpa using h4
            go_enter Tryd.func18, Tryd.ntmps18
            go_wp2_with fail
            refine hC.mono ?_
            rintro e w1 ⟨rfl, b1⟩
            have B1 := below_next bA (Nat.le_refl _) b1
            have g0 : w1.cell? ⟨w.heap.size, 0, none⟩ = some _ := (b1.cell (p := ⟨w.heap.size, 0, none⟩) sA).trans (HCS.out 0 _ rfl)
            have g1 : w1.cell? ⟨w.heap.size, 1, none⟩ = some _ := (b1.cell (p := ⟨w.heap.size, 1, none⟩) sA).trans (HCS.out 1 _ rfl)
            have g2 : w1.cell? ⟨w.heap.size, 2, none⟩ = some _ := (b1.cell (p := ⟨w.heap.size, 2, none⟩) sA).trans (HCS.out 2 _ rfl)
            have g3 : w1.cell? ⟨w.heap.size, 3, none⟩ = some _ := (b1.cell (p := ⟨w.heap.size, 3, none⟩) sA).trans (HCS.out 3 _ rfl)
            have g4 : w1.cell? ⟨w.heap.size, 4, none⟩ = some _ := (b1.cell (p := ⟨w.heap.size, 4, none⟩) sA).trans (HCS.out 4 _ rfl)
            have g5 : w1.cell? ⟨w.heap.size, 5, none⟩ = some _ := (b1.cell (p := ⟨w.heap.size, 5, none⟩) sA).trans (HCS.out 5 _ rfl)
            have g6 : w1.cell? ⟨w.heap.size, 6, none⟩ = some _ := (b1.cell (p := ⟨w.heap.size, 6, none⟩) sA).trans (HCS.out 6 _ rfl)
            have g7 : w1.cell? ⟨w.heap.size, 7, none⟩ = some _ := (b1.cell (p := ⟨w.heap.size, 7, none⟩) sA).trans (HCS.out 7 _ rfl)
            go_wp2_with fail
            refine (wDay_is x true _ (decide_eq_true h1)).mono ?_
            rintro e w2 ⟨rfl, rfl⟩
            go_wp2_with fail
            refine (wDay_is y true _ (decide_eq_true h2)).mono ?_
            rintro e w2 ⟨rfl, rfl⟩
            go_wp2_with fail
            refine (wOpen R l a l.length cap w2).mono ?_
            rintro e w3 ⟨rfl, A3, b3⟩
            have B3 := below_next B1 (Nat.le_refl _) b3
            have O3 := mkOpen hw hr B3 (by have := B1.size; omega) hz A3
            clear g0 g1 g2 g3 g4 g5 g6 g7
            clear b1 hC b3
            have hs := sCount O3 cap x y (by omega) h1.1 (by omega) h2.2 (by omega)
            go_wp2_with fail
            refine hs.mono ?_
            rintro e w4 ⟨rfl, g4⟩
            have B4 := B3.grown g4 B3.size (fun j hj => by cases hj; have := B1.size; omega)
            clear O3 g4 A3 hs
            go_wp2
            go_ret2
            exact ⟨rfl, B4⟩
      · have ec : Wk.count R l x y = (0, 3) := by unfold Wk.count; rw [if_neg (fun q => h2 ⟨q.2.2.1, q.2.2.2⟩)]
        rw [ec]
        clear ec
        go_enter Tryd.func18, Tryd.ntmps18
        go_wp2_with fail
        refine hC.mono ?_
        rintro e w1 ⟨rfl, b1⟩
        have B1 := below_next bA (Nat.le_refl _) b1
        go_wp2_with fail
        refine (wDay_is x true _ (decide_eq_true h1)).mono ?_
        rintro e w2 ⟨rfl, rfl⟩
        go_wp2_with fail
        refine (wDay_is y false _ (decide_eq_false h2)).mono ?_
        rintro e w2 ⟨rfl, rfl⟩
        clear h1 h2 b1 hC
        go_wp2
        go_ret2
        exact ⟨rfl, B1⟩
    · have ec : Wk.count R l x y = (0, 3) := by unfold Wk.count; rw [if_neg (fun q => h1 ⟨q.1, q.2.1⟩)]
      rw [ec]
      clear ec
      go_enter Tryd.func18, Tryd.ntmps18
      go_wp2_with fail
      refine hC.mono ?_
      rintro e w1 ⟨rfl, b1⟩
      have B1 := below_next bA (Nat.le_refl _) b1
      go_wp2_with fail
      refine (wDay_is x false _ (decide_eq_false h1)).mono ?_
      rintro e w2 ⟨rfl, rfl⟩
      clear h1 b1 hC
      go_wp2
      go_ret2
      exact ⟨rfl, B1⟩
  · have e0 : Wk.told R l (Wk.count R l x y) = (0, Wk.cchk R l) := by unfold Wk.told; rw [if_neg hz]
    rw [e0]
    clear e0
    have hne : (Wk.cchk R l != 0) = true := by simpa using hz
    go_enter Tryd.func18, Tryd.ntmps18
    go_wp2_with fail
    refine hC.mono ?_
    rintro e w1 ⟨rfl, b1⟩
    have B1 := below_next bA (Nat.le_refl _) b1
    clear b1 hC
    go_wp2
    go_ret2
    exact ⟨rfl, B1⟩
end Go.Proofs.YtpjpmfcbddkjnaaDoor
