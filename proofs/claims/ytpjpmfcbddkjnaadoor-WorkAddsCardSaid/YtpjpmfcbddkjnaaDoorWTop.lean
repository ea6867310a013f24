/- The program's almanac opened; the calls Holidays and Is. -/
import Derived.Test.YtpjpmfcbddkjnaaDoorWIs
import Derived.Test.YtpjpmfcbddkjnaaDoorWk2
namespace Go.Proofs.YtpjpmfcbddkjnaaDoor
open Go.RowKit

set_option maxRecDepth 100000 in
set_option maxHeartbeats 2000000 in
theorem wOpen (R : Wk.Rst) (l : List Wk.Rl) (a : Option Addr) (n c : Nat) (w : World) :
    Calls Tryd.prog 26 #[calV R a n c] w fun e w' => e = .returned (almV R a n c (w.heap.size + 2)) ∧ Alm w' (w.heap.size + 2) 0 R l ∧ Below w.heap.size w w' := by
  have key : ∀ o1 o2 : Obj, Alm (((w.alloc o1).alloc o2).alloc (.map #[] 0)) (w.heap.size + 2) 0 R l ∧ Below w.heap.size w (((w.alloc o1).alloc o2).alloc (.map #[] 0)) := by
    intro o1 o2
    have hsz : ((w.alloc o1).alloc o2).heap.size = w.heap.size + 2 := by simp
    have hm := World.ownsMap_made ((w.alloc o1).alloc o2) Tryd.prog 3 heldR
    rw [hsz] at hm
    exact ⟨⟨_, hm, fun y hy => by cases hy⟩, (((Below.refl _ w).alloc (Nat.le_refl _) o1).alloc (by simp) o2).alloc (by simp; omega) _⟩
  have hmm := @run_makeMap Tryd.prog
  go_enter Tryd.func26, Tryd.ntmps26
  go_wp2
  exact bodyPost_ret (v := almV R a n c (w.heap.size + 2)) (by simp [results, Tryd.results26, go_sem]) rfl ⟨rfl, key _ _⟩
theorem mkOpen {w W : World} {R : Wk.Rst} {l : List Wk.Rl} {a : Option Addr} {bm n : Nat} (hw : Laid w) (hr : Row4 w a l) (hb : Below w.heap.size w W) (hbm : w.heap.size ≤ bm) (hz : Wk.cchk R l = 0) (hA : Alm W bm n R l) : Open W R l a bm w.heap.size n := by
  have h := (Wk.cchk_zero R l).1 hz
  refine ⟨hw.below hb, hr.below hb, h.2.1, h.2.2, h.1, ?_, hbm, hw.1, hA⟩
  rcases hr with e | ⟨b, off, rfl, hlt, _⟩
  · exact .inl e
  · exact .inr fun b' off' e => by cases e; exact hlt
namespace Wk
/-- is a day one of work, or why not -/
def isB (R : Rst) (L : List Rl) (n : Int) : Bool := decide (cchk R L = 0) && (decide (1 ≤ n ∧ n ≤ 3651693) && isW R L n)
def isC (R : Rst) (L : List Rl) (n : Int) : Int := if cchk R L = 0 then (if 1 ≤ n ∧ n ≤ 3651693 then 0 else 3) else cchk R L
/-- the holidays of a year, or why not -/
def holC (R : Rst) (L : List Rl) (y : Int) : Int := if cchk R L = 0 then (if 1 ≤ y ∧ y ≤ 9998 then 0 else 3) else cchk R L
def holV (R : Rst) (L : List Rl) (y : Int) : List Int := if holC R L y = 0 then hol R L y else []
end Wk
set_option maxRecDepth 100000 in
set_option maxHeartbeats 4000000 in
theorem pHolidays (R : Wk.Rst) (l : List Wk.Rl) (a : Option Addr) (cap : Nat) (y : Int) (w : World) (hl : l.length ≤ maxLen) (hw : Laid w) (hr : Row4 w a l) :
    Calls Tryd.prog 9 #[calV R a l.length cap, .int .i64 y] w fun e w' => ∃ v, e = .returned (.tuple #[v, .int .i64 (Wk.holC R l y)]) ∧ OwnI w' w.heap.size v (Wk.holV R l y) ∧ Below w.heap.size w w' := by
  have bA := below_box w (.cells #[.bool R.b0, .bool R.b1, .bool R.b2, .bool R.b3, .bool R.b4, .bool R.b5, .bool R.b6, .slice a l.length cap] 25)
  have HCS : Hid (∀ j v, (#[.bool R.b0, .bool R.b1, .bool R.b2, .bool R.b3, .bool R.b4, .bool R.b5, .bool R.b6, .slice a l.length cap] : Array Value)[j]? = some v → (w.alloc (.cells #[.bool R.b0, .bool R.b1, .bool R.b2, .bool R.b3, .bool R.b4, .bool R.b5, .bool R.b6, .slice a l.length cap] 25)).cell? ⟨w.heap.size, j, none⟩ = some v) := fun j v hj => boxCells w _ _ j v hj
  have sA : w.heap.size < (w.alloc (.cells #[.bool R.b0, .bool R.b1, .bool R.b2, .bool R.b3, .bool R.b4, .bool R.b5, .bool R.b6, .slice a l.length cap] 25)).heap.size := by simp
  have hC := wCheck R l a cap _ hl (hw.below bA) (hr.below bA)
  by_cases hz : Wk.cchk R l = 0
  · rw [hz] at hC
    have h := (Wk.cchk_zero R l).1 hz
    by_cases hy : 1 ≤ y ∧ y ≤ 9998
    · have HE : Hid (Wk.holC R l y = 0 ∧ Wk.holV R l y = Wk.hol R l y) := by
        have e0 : Wk.holC R l y = 0 := by unfold Wk.holC; rw [if_pos hz, if_pos hy]
        exact ⟨e0, by unfold Wk.holV; rw [if_pos e0]⟩
      go_enter Tryd.func9, Tryd.ntmps9
      go_wp2_with fail
      refine hC.mono ?_
      rintro e w1 ⟨rfl, b1⟩
      have B1 := below_next bA (Nat.le_refl _) b1
      have g0 : w1.cell? ⟨w.heap.size, 0, none⟩ = some _ := (b1.cell (p := ⟨w.heap.size, 0, none⟩) sA).trans (HCS.out 0 _ rfl)
      have g1 : w1.cell? ⟨w.heap.size, 1, none⟩ = some _ := (b1.cell (p := ⟨w.heap.size, 1, none⟩) sA).trans (HCS.out 1 _ rfl)
      have g2 : w1.cell? ⟨w.heap.size, 2, none⟩ = some _ := (b1.cell (p := ⟨w.heap.size, 2, none⟩) sA).trans (HCS.out 2 _ rfl)
      have g3 : w1.cell? ⟨w.heap.size, 3, none⟩ = some _ := (b1.cell (p := ⟨w.heap.size, 3, none⟩) sA).trans (HCS.out 3 _ rfl)
      have g4 : w1.cell? ⟨w.heap.size, 4, none⟩ = some _ := (b1.cell (p := ⟨w.heap.size, 4, none⟩) sA).trans (HCS.out 4 _ rfl)
      have g5 : w1.cell? ⟨w.heap.size, 5, none⟩ = some _ := (b1.cell (p := ⟨w.heap.size, 5, none⟩) sA).trans (HCS.out 5 _ rfl)
      have g6 : w1.cell? ⟨w.heap.size, 6, none⟩ = some _ := (b1.cell (p := ⟨w.heap.size, 6, none⟩) sA).trans (HCS.out 6 _ rfl)
      have g7 : w1.cell? ⟨w.heap.size, 7, none⟩ = some _ := (b1.cell (p := ⟨w.heap.size, 7, none⟩) sA).trans (HCS.out 7 _ rfl)
      go_wp2_with fail
      refine (wWithin_is y 1 9998 true _ (decide_eq_true hy)).mono ?_
      rintro e w2 ⟨rfl, rfl⟩
      go_wp2_with fail
      refine (wOpen R l a l.length cap w2).mono ?_
      rintro e w3 ⟨rfl, A3, b3⟩
      have B3 := below_next B1 (Nat.le_refl _) b3
      clear g0 g1 g2 g3 g4 g5 g6 g7
      clear b1 hC b3
      go_wp2_with fail
      refine (wHolidays R l a cap _ y w3 (hw.below B3) h.1 h.2.1 h.2.2 (hr.below B3) (by omega) hy.2).mono ?_
      rintro e w4 ⟨v4, rfl, own4, b4⟩
      have B4 := below_next B3 (Nat.le_refl _) b4
      have own5 := own4.weak B3.size
      clear own4 b4 A3
      go_wp2
      go_ret2
      exact ⟨_, by rw [HE.out.1] <;> rfl, by rw [HE.out.2]; exact own5, B4⟩
    · have HE : Hid (Wk.holC R l y = 3 ∧ Wk.holV R l y = []) := by
        have e0 : Wk.holC R l y = 3 := by unfold Wk.holC; rw [if_pos hz, if_neg hy]
        exact ⟨e0, by unfold Wk.holV; rw [if_neg (by rw [e0]; decide)]⟩
      go_enter Tryd.func9, Tryd.ntmps9
      go_wp2_with fail
      refine hC.mono ?_
      rintro e w1 ⟨rfl, b1⟩
      have B1 := below_next bA (Nat.le_refl _) b1
      go_wp2_with fail
      refine (wWithin_is y 1 9998 false _ (decide_eq_false hy)).mono ?_
      rintro e w2 ⟨rfl, rfl⟩
      clear b1 hC hy
      go_wp2
      go_ret2
      exact ⟨_, by rw [HE.out.1] <;> rfl, by rw [HE.out.2]; exact OwnI.nil _ _, B1⟩
  · have HE : Hid (Wk.holC R l y = Wk.cchk R l ∧ Wk.holV R l y = []) := by
      have e0 : Wk.holC R l y = Wk.cchk R l := by unfold Wk.holC; rw [if_neg hz]
      exact ⟨e0, by unfold Wk.holV; rw [if_neg (by rw [e0]; exact hz)]⟩
    have hne : (Wk.cchk R l != 0) = true := by simpa using hz
    go_enter Tryd.func9, Tryd.ntmps9
    go_wp2_with fail
    refine hC.mono ?_
    rintro e w1 ⟨rfl, b1⟩
    have B1 := below_next bA (Nat.le_refl _) b1
    clear b1 hC
    go_wp2
    go_ret2
    exact ⟨_, by rw [HE.out.1] <;> rfl, by rw [HE.out.2]; exact OwnI.nil _ _, B1⟩
set_option maxRecDepth 100000 in
set_option maxHeartbeats 4000000 in
theorem pIs (R : Wk.Rst) (l : List Wk.Rl) (a : Option Addr) (cap : Nat) (n : Int) (w : World) (hl : l.length ≤ maxLen) (hw : Laid w) (hr : Row4 w a l) :
    Calls Tryd.prog 15 #[calV R a l.length cap, .int .i64 n] w fun e w' => e = .returned (.tuple #[.bool (Wk.isB R l n), .int .i64 (Wk.isC R l n)]) ∧ Below w.heap.size w w' := by
  have bA := below_box w (.cells #[.bool R.b0, .bool R.b1, .bool R.b2, .bool R.b3, .bool R.b4, .bool R.b5, .bool R.b6, .slice a l.length cap] 25)
  have HCS : Hid (∀ j v, (#[.bool R.b0, .bool R.b1, .bool R.b2, .bool R.b3, .bool R.b4, .bool R.b5, .bool R.b6, .slice a l.length cap] : Array Value)[j]? = some v → (w.alloc (.cells #[.bool R.b0, .bool R.b1, .bool R.b2, .bool R.b3, .bool R.b4, .bool R.b5, .bool R.b6, .slice a l.length cap] 25)).cell? ⟨w.heap.size, j, none⟩ = some v) := fun j v hj => boxCells w _ _ j v hj
  have sA : w.heap.size < (w.alloc (.cells #[.bool R.b0, .bool R.b1, .bool R.b2, .bool R.b3, .bool R.b4, .bool R.b5, .bool R.b6, .slice a l.length cap] 25)).heap.size := by simp
  have hC := wCheck R l a cap _ hl (hw.below bA) (hr.below bA)
  by_cases hz : Wk.cchk R l = 0
  · rw [hz] at hC
    by_cases hy : 1 ≤ n ∧ n ≤ 3651693
    · have HE : Hid (Wk.isC R l n = 0 ∧ Wk.isB R l n = Wk.isW R l n) := by
        exact ⟨by unfold Wk.isC; rw [if_pos hz, if_pos hy], by unfold Wk.isB; simp [hz, hy]⟩
      rw [HE.out.1, HE.out.2]
      go_enter Tryd.func15, Tryd.ntmps15
      go_wp2_with fail
      refine hC.mono ?_
      rintro e w1 ⟨rfl, b1⟩
      have B1 := below_next bA (Nat.le_refl _) b1
      have g0 : w1.cell? ⟨w.heap.size, 0, none⟩ = some _ := (b1.cell (p := ⟨w.heap.size, 0, none⟩) sA).trans (HCS.out 0 _ rfl)
      have g1 : w1.cell? ⟨w.heap.size, 1, none⟩ = some _ := (b1.cell (p := ⟨w.heap.size, 1, none⟩) sA).trans (HCS.out 1 _ rfl)
      have g2 : w1.cell? ⟨w.heap.size, 2, none⟩ = some _ := (b1.cell (p := ⟨w.heap.size, 2, none⟩) sA).trans (HCS.out 2 _ rfl)
      have g3 : w1.cell? ⟨w.heap.size, 3, none⟩ = some _ := (b1.cell (p := ⟨w.heap.size, 3, none⟩) sA).trans (HCS.out 3 _ rfl)
      have g4 : w1.cell? ⟨w.heap.size, 4, none⟩ = some _ := (b1.cell (p := ⟨w.heap.size, 4, none⟩) sA).trans (HCS.out 4 _ rfl)
      have g5 : w1.cell? ⟨w.heap.size, 5, none⟩ = some _ := (b1.cell (p := ⟨w.heap.size, 5, none⟩) sA).trans (HCS.out 5 _ rfl)
      have g6 : w1.cell? ⟨w.heap.size, 6, none⟩ = some _ := (b1.cell (p := ⟨w.heap.size, 6, none⟩) sA).trans (HCS.out 6 _ rfl)
      have g7 : w1.cell? ⟨w.heap.size, 7, none⟩ = some _ := (b1.cell (p := ⟨w.heap.size, 7, none⟩) sA).trans (HCS.out 7 _ rfl)
      go_wp2_with fail
      refine (wOpen R l a l.length cap w1).mono ?_
      rintro e w3 ⟨rfl, A3, b3⟩
      have B3 := below_next B1 (Nat.le_refl _) b3
      have O3 := mkOpen hw hr B3 (by have := B1.size; omega) hz A3
      clear g0 g1 g2 g3 g4 g5 g6 g7
      clear b1 hC b3
      go_wp2_with fail
      refine (wIs_ok O3 cap n hy.1 hy.2 (by omega)).mono ?_
      rintro e w4 ⟨rfl, O4, g4⟩
      have B4 := B3.grown g4 B3.size (fun j hj => by cases hj; have := B1.size; omega)
      clear O3 O4 g4 A3
      go_wp2
      go_ret2
      exact ⟨rfl, B4⟩
    · have HE : Hid (Wk.isC R l n = 3 ∧ Wk.isB R l n = false) := by
        exact ⟨by unfold Wk.isC; rw [if_pos hz, if_neg hy], by unfold Wk.isB; rw [decide_eq_false hy]; simp⟩
      rw [HE.out.1, HE.out.2]
      go_enter Tryd.func15, Tryd.ntmps15
      go_wp2_with fail
      refine hC.mono ?_
      rintro e w1 ⟨rfl, b1⟩
      have B1 := below_next bA (Nat.le_refl _) b1
      have g0 : w1.cell? ⟨w.heap.size, 0, none⟩ = some _ := (b1.cell (p := ⟨w.heap.size, 0, none⟩) sA).trans (HCS.out 0 _ rfl)
      have g1 : w1.cell? ⟨w.heap.size, 1, none⟩ = some _ := (b1.cell (p := ⟨w.heap.size, 1, none⟩) sA).trans (HCS.out 1 _ rfl)
      have g2 : w1.cell? ⟨w.heap.size, 2, none⟩ = some _ := (b1.cell (p := ⟨w.heap.size, 2, none⟩) sA).trans (HCS.out 2 _ rfl)
      have g3 : w1.cell? ⟨w.heap.size, 3, none⟩ = some _ := (b1.cell (p := ⟨w.heap.size, 3, none⟩) sA).trans (HCS.out 3 _ rfl)
      have g4 : w1.cell? ⟨w.heap.size, 4, none⟩ = some _ := (b1.cell (p := ⟨w.heap.size, 4, none⟩) sA).trans (HCS.out 4 _ rfl)
      have g5 : w1.cell? ⟨w.heap.size, 5, none⟩ = some _ := (b1.cell (p := ⟨w.heap.size, 5, none⟩) sA).trans (HCS.out 5 _ rfl)
      have g6 : w1.cell? ⟨w.heap.size, 6, none⟩ = some _ := (b1.cell (p := ⟨w.heap.size, 6, none⟩) sA).trans (HCS.out 6 _ rfl)
      have g7 : w1.cell? ⟨w.heap.size, 7, none⟩ = some _ := (b1.cell (p := ⟨w.heap.size, 7, none⟩) sA).trans (HCS.out 7 _ rfl)
      go_wp2_with fail
      refine (wOpen R l a l.length cap w1).mono ?_
      rintro e w3 ⟨rfl, A3, b3⟩
      have B3 := below_next B1 (Nat.le_refl _) b3
      have O3 := mkOpen hw hr B3 (by have := B1.size; omega) hz A3
      clear g0 g1 g2 g3 g4 g5 g6 g7
      clear b1 hC b3
      go_wp2_with fail
      refine (wIs_no O3 cap n hy).mono ?_
      rintro e w4 ⟨rfl, O4, g4⟩
      have B4 := B3.grown g4 B3.size (fun j hj => by cases hj; have := B1.size; omega)
      clear O3 O4 g4 A3
      go_wp2
      go_ret2
      exact ⟨rfl, B4⟩
  · have HE : Hid (Wk.isC R l n = Wk.cchk R l ∧ Wk.isB R l n = false) := by
      exact ⟨by unfold Wk.isC; rw [if_neg hz], by unfold Wk.isB; rw [decide_eq_false hz]; simp⟩
    rw [HE.out.1, HE.out.2]
    have hne : (Wk.cchk R l != 0) = true := by simpa using hz
    go_enter Tryd.func15, Tryd.ntmps15
    go_wp2_with fail
    refine hC.mono ?_
    rintro e w1 ⟨rfl, b1⟩
    have B1 := below_next bA (Nat.le_refl _) b1
    clear b1 hC
    go_wp2
    go_ret2
    exact ⟨rfl, B1⟩
end Go.Proofs.YtpjpmfcbddkjnaaDoor
