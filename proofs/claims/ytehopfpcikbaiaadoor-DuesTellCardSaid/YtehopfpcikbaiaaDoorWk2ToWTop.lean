/- Plain mathematics of days of work: the next one, so many behind, how many between. The program's almanac opened; the calls Holidays and Is. -/
import Derived.Test.YtehopfpcikbaiaaDoorWkToWDay
import Derived.Test.YtehopfpcikbaiaaDoorWIs
namespace Go.Proofs.YtehopfpcikbaiaaDoor
namespace Wk
variable (R : Rst) (L : List Rl)
def nextF : Nat → Int → Int × Int
  | 0, _ => (0, 3)
  | k + 1, n => if isW R L n = true then (n, 0) else nextF k (n + 1)
/-- the next day of work, or why not -/
def next (n : Int) : Int × Int := if 1 ≤ n ∧ n ≤ 3651693 then nextF R L (3651694 - n).toNat n else (0, 3)
theorem next_out (n : Int) (h : ¬ (1 ≤ n ∧ n ≤ 3651693)) : next R L n = (0, 3) := by unfold next; rw [if_neg h]
theorem next_in (n : Int) (h1 : 1 ≤ n) (h2 : n ≤ 3651693) : next R L n = if isW R L n = true then (n, 0) else next R L (n + 1) := by
  unfold next
  rw [if_pos ⟨h1, h2⟩]
  obtain ⟨k, hk⟩ : ∃ k : Nat, (3651694 - n).toNat = k + 1 := ⟨(3651693 - n).toNat, by omega⟩
  rw [hk]
  show (if isW R L n = true then (n, 0) else nextF R L k (n + 1)) = _
  by_cases hw : isW R L n = true
  · rw [if_pos hw, if_pos hw]
  · rw [if_neg hw, if_neg hw]
    by_cases c : n + 1 ≤ 3651693
    · rw [if_pos ⟨by omega, c⟩]
      have e : (3651694 - (n + 1)).toNat = k := by omega
      rw [e]
    · rw [if_neg (by omega)]
      have e : k = 0 := by omega
      subst e; rfl
def addF : Nat → Int → Int → Int × Int
  | 0, _, _ => (0, 3)
  | k + 1, n, c => if isW R L n = true then (if c = 1 then (n, 0) else addF k (n + 1) (c - 1)) else addF k (n + 1) c
/-- from a day on: the c-th day of work -/
def addS (n c : Int) : Int × Int := if 1 ≤ n ∧ n ≤ 3651693 then addF R L (3651694 - n).toNat n c else (0, 3)
theorem addS_out (n c : Int) (h : ¬ (1 ≤ n ∧ n ≤ 3651693)) : addS R L n c = (0, 3) := by unfold addS; rw [if_neg h]
theorem addS_in (n c : Int) (h1 : 1 ≤ n) (h2 : n ≤ 3651693) : addS R L n c = if isW R L n = true then (if c = 1 then (n, 0) else addS R L (n + 1) (c - 1)) else addS R L (n + 1) c := by
  have key : ∀ c', addF R L ((3651694 - n).toNat - 1) (n + 1) c' = addS R L (n + 1) c' := by
    intro c'
    unfold addS
    by_cases c : n + 1 ≤ 3651693
    · rw [if_pos ⟨by omega, c⟩]
      have e : (3651694 - (n + 1)).toNat = (3651694 - n).toNat - 1 := by omega
      rw [e]
    · rw [if_neg (by omega)]
      have e : (3651694 - n).toNat - 1 = 0 := by omega
      rw [e]; rfl
  rw [← key, ← key]
  conv => lhs; unfold addS
  rw [if_pos ⟨h1, h2⟩]
  obtain ⟨k, hk⟩ : ∃ k : Nat, (3651694 - n).toNat = k + 1 := ⟨(3651693 - n).toNat, by omega⟩
  rw [hk]; rfl
/-- so many days of work behind a day, or why not -/
def add (n c : Int) : Int × Int := if 1 ≤ n ∧ n ≤ 3651693 ∧ 0 ≤ c ∧ c ≤ 400 then (if c = 0 then (n, 0) else addS R L (n + 1) c) else (0, 3)
/-- how many days of work, from n on, k days -/
def cnt (n : Int) : Nat → Int
  | 0 => 0
  | k + 1 => cnt n k + if isW R L (n + k) = true then 1 else 0
def count (a b : Int) : Int × Int :=
  if 1 ≤ a ∧ a ≤ 3651693 ∧ 1 ≤ b ∧ b ≤ 3651693 then (if b < a then (0, 4) else if 2000 < b - a then (0, 2) else (cnt R L a (b - a).toNat, 0)) else (0, 3)
theorem cnt_bd (n : Int) : ∀ k : Nat, 0 ≤ cnt R L n k ∧ cnt R L n k ≤ k
  | 0 => by simp [cnt]
  | k + 1 => by
    have := cnt_bd n k
    unfold cnt
    split <;> omega
/-- what is told of a calendar ahead of all else -/
def told (f : Int × Int) : Int × Int := if cchk R L = 0 then f else (0, cchk R L)
end Wk
end Go.Proofs.YtehopfpcikbaiaaDoor
namespace Go.Proofs.YtehopfpcikbaiaaDoor
open Go.RowKit

set_option maxRecDepth 100000 in
set_option maxHeartbeats 2000000 in
theorem wOpen (R : Wk.Rst) (l : List Wk.Rl) (a : Option Addr) (n c : Nat) (w : World) :
    Calls Tryd.prog 28 #[calV R a n c] w fun e w' => e = .returned (almV R a n c (w.heap.size + 2)) ∧ Alm w' (w.heap.size + 2) 0 R l ∧ Below w.heap.size w w' := by
  have key : ∀ o1 o2 : Obj, Alm (((w.alloc o1).alloc o2).alloc (.map #[] 0)) (w.heap.size + 2) 0 R l ∧ Below w.heap.size w (((w.alloc o1).alloc o2).alloc (.map #[] 0)) := by
    intro o1 o2
    have hsz : ((w.alloc o1).alloc o2).heap.size = w.heap.size + 2 := by simp
    have hm := World.ownsMap_made ((w.alloc o1).alloc o2) Tryd.prog 3 heldR
    rw [hsz] at hm
    exact ⟨⟨_, hm, fun y hy => by cases hy⟩, (((Below.refl _ w).alloc (Nat.le_refl _) o1).alloc (by simp) o2).alloc (by simp; omega) _⟩
  have hmm := @run_makeMap Tryd.prog
  go_enter Tryd.func28, Tryd.ntmps28
  go_wp2
  exact bodyPost_ret (v := almV R a n c (w.heap.size + 2)) (by simp [results, Tryd.results28, go_sem]) rfl ⟨rfl, key _ _⟩
theorem mkOpen {w W : World} {R : Wk.Rst} {l : List Wk.Rl} {a : Option Addr} {bm n : Nat} (hw : Laid w) (hr : Row4 w a l) (hb : Below w.heap.size w W) (hbm : w.heap.size ≤ bm) (hz : Wk.cchk R l = 0) (hA : Alm W bm n R l) : Open W R l a bm w.heap.size n := by
  have h := (Wk.cchk_zero R l).1 hz
  refine ⟨hw.below hb, hr.below hb, h.2.1, h.2.2, h.1, ?_, hbm, hw.1, hA⟩
  rcases hr with e | ⟨b, off, rfl, hlt, _⟩
  · exact .inl e
  · exact .inr fun b' off' e => by cases e; exact hlt
namespace Wk
/-- is a day one of work, or why not -/
def isB (R : Rst) (L : List Rl) (n : Int) : Bool := decide (cchk R L = 0) && (decide (1 ≤ n ∧ n ≤ 3651693) && isW R L n)
def isC (R : Rst) (L : List Rl) (n : Int) : Int := if cchk R L = 0 then (if 1 ≤ n ∧ n ≤ 3651693 then 0 else 3) else cchk R L
/-- the holidays of a year, or why not -/
def holC (R : Rst) (L : List Rl) (y : Int) : Int := if cchk R L = 0 then (if 1 ≤ y ∧ y ≤ 9998 then 0 else 3) else cchk R L
def holV (R : Rst) (L : List Rl) (y : Int) : List Int := if holC R L y = 0 then hol R L y else []
end Wk
set_option maxRecDepth 100000 in
set_option maxHeartbeats 4000000 in
theorem pIs (R : Wk.Rst) (l : List Wk.Rl) (a : Option Addr) (cap : Nat) (n : Int) (w : World) (hl : l.length ≤ maxLen) (hw : Laid w) (hr : Row4 w a l) :
    Calls Tryd.prog 14 #[calV R a l.length cap, .int .i64 n] w fun e w' => e = .returned (.tuple #[.bool (Wk.isB R l n), .int .i64 (Wk.isC R l n)]) ∧ Below w.heap.size w w' := by
  have bA := below_box w (.cells #[.bool R.b0, .bool R.b1, .bool R.b2, .bool R.b3, .bool R.b4, .bool R.b5, .bool R.b6, .slice a l.length cap] 25)
  have HCS : Hid (∀ j v, (#[.bool R.b0, .bool R.b1, .bool R.b2, .bool R.b3, .bool R.b4, .bool R.b5, .bool R.b6, .slice a l.length cap] : Array Value)[j]? = some v → (w.alloc (.cells #[.bool R.b0, .bool R.b1, .bool R.b2, .bool R.b3, .bool R.b4, .bool R.b5, .bool R.b6, .slice a l.length cap] 25)).cell? ⟨w.heap.size, j, none⟩ = some v) := fun j v hj => boxCells w _ _ j v hj
  have sA : w.heap.size < (w.alloc (.cells #[.bool R.b0, .bool R.b1, .bool R.b2, .bool R.b3, .bool R.b4, .bool R.b5, .bool R.b6, .slice a l.length cap] 25)).heap.size := by simp
  have hC := wCheck R l a cap _ hl (hw.below bA) (hr.below bA)
  by_cases hz : Wk.cchk R l = 0
  · rw [hz] at hC
    by_cases hy : 1 ≤ n ∧ n ≤ 3651693
    · have HE : Hid (Wk.isC R l n = 0 ∧ Wk.isB R l n = Wk.isW R l n) := by
        exact ⟨by unfold Wk.isC; rw [if_pos hz, if_pos hy], by unfold Wk.isB; simp [hz, hy]⟩
      rw [HE.out.1, HE.out.2]
      go_enter Tryd.func14, Tryd.ntmps14
      go_wp2_with fail
      refine hC.mono ?_
      rintro e w1 ⟨rfl, b1⟩
      have B1 := below_next bA (Nat.le_refl _) b1
      have g0 : w1.cell? ⟨w.heap.size, 0, none⟩ = some _ := (b1.cell (p := ⟨w.heap.size, 0, none⟩) sA).trans (HCS.out 0 _ rfl)
      have g1 : w1.cell? ⟨w.heap.size, 1, none⟩ = some _ := (b1.cell (p := ⟨w.heap.size, 1, none⟩) sA).trans (HCS.out 1 _ rfl)
      have g2 : w1.cell? ⟨w.heap.size, 2, none⟩ = some _ := (b1.cell (p := ⟨w.heap.size, 2, none⟩) sA).trans (HCS.out 2 _ rfl)
      have g3 : w1.cell? ⟨w.heap.size, 3, none⟩ = some _ := (b1.cell (p := ⟨w.heap.size, 3, none⟩) sA).trans (HCS.out 3 _ rfl)
      have g4 : w1.cell? ⟨w.heap.size, 4, none⟩ = some _ := (b1.cell (p := ⟨w.heap.size, 4, none⟩) sA).trans (HCS.out 4 _ rfl)
      have g5 : w1.cell? ⟨w.heap.size, 5, none⟩ = some _ := (b1.cell (p := ⟨w.heap.size, 5, none⟩) sA).trans (HCS.out 5 _ rfl)
      have g6 : w1.cell? ⟨w.heap.size, 6, none⟩ = some _ := (b1.cell (p := ⟨w.heap.size, 6, none⟩) sA).trans (HCS.out 6 _ rfl)
      have g7 : w1.cell? ⟨w.heap.size, 7, none⟩ = some _ := (b1.cell (p := ⟨w.heap.size, 7, none⟩) sA).trans (HCS.out 7 _ rfl)
      go_wp2_with fail
      refine (wOpen R l a l.length cap w1).mono ?_
      rintro e w3 ⟨rfl, A3, b3⟩
      have B3 := below_next B1 (Nat.le_refl _) b3
      have O3 := mkOpen hw hr B3 (by have := B1.size; omega) hz A3
      clear g0 g1 g2 g3 g4 g5 g6 g7
      clear b1 hC b3
      go_wp2_with fail
      refine (wIs_ok O3 cap n hy.1 hy.2 (by omega)).mono ?_
      rintro e w4 ⟨rfl, O4, g4⟩
      have B4 := B3.grown g4 B3.size (fun j hj => by cases hj; have := B1.size; omega)
      clear O3 O4 g4 A3
      go_wp2
      go_ret2
      exact ⟨rfl, B4⟩
    · have HE : Hid (Wk.isC R l n = 3 ∧ Wk.isB R l n = false) := by
        exact ⟨by unfold Wk.isC; rw [if_pos hz, if_neg hy], by unfold Wk.isB; rw [decide_eq_false hy]; simp⟩
      rw [HE.out.1, HE.out.2]
      go_enter Tryd.func14, Tryd.ntmps14
      go_wp2_with fail
      refine hC.mono ?_
      rintro e w1 ⟨rfl, b1⟩
      have B1 := below_next bA (Nat.le_refl _) b1
      have g0 : w1.cell? ⟨w.heap.size, 0, none⟩ = some _ := (b1.cell (p := ⟨w.heap.size, 0, none⟩) sA).trans (HCS.out 0 _ rfl)
      have g1 : w1.cell? ⟨w.heap.size, 1, none⟩ = some _ := (b1.cell (p := ⟨w.heap.size, 1, none⟩) sA).trans (HCS.out 1 _ rfl)
      have g2 : w1.cell? ⟨w.heap.size, 2, none⟩ = some _ := (b1.cell (p := ⟨w.heap.size, 2, none⟩) sA).trans (HCS.out 2 _ rfl)
      have g3 : w1.cell? ⟨w.heap.size, 3, none⟩ = some _ := (b1.cell (p := ⟨w.heap.size, 3, none⟩) sA).trans (HCS.out 3 _ rfl)
      have g4 : w1.cell? ⟨w.heap.size, 4, none⟩ = some _ := (b1.cell (p := ⟨w.heap.size, 4, none⟩) sA).trans (HCS.out 4 _ rfl)
      have g5 : w1.cell? ⟨w.heap.size, 5, none⟩ = some _ := (b1.cell (p := ⟨w.heap.size, 5, none⟩) sA).trans (HCS.out 5 _ rfl)
      have g6 : w1.cell? ⟨w.heap.size, 6, none⟩ = some _ := (b1.cell (p := ⟨w.heap.size, 6, none⟩) sA).trans (HCS.out 6 _ rfl)
      have g7 : w1.cell? ⟨w.heap.size, 7, none⟩ = some _ := (b1.cell (p := ⟨w.heap.size, 7, none⟩) sA).trans (HCS.out 7 _ rfl)
      go_wp2_with fail
      refine (wOpen R l a l.length cap w1).mono ?_
      rintro e w3 ⟨rfl, A3, b3⟩
      have B3 := below_next B1 (Nat.le_refl _) b3
      have O3 := mkOpen hw hr B3 (by have := B1.size; omega) hz A3
      clear g0 g1 g2 g3 g4 g5 g6 g7
      clear b1 hC b3
      go_wp2_with fail
      refine (wIs_no O3 cap n hy).mono ?_
      rintro e w4 ⟨rfl, O4, g4⟩
      have B4 := B3.grown g4 B3.size (fun j hj => by cases hj; have := B1.size; omega)
      clear O3 O4 g4 A3
      go_wp2
      go_ret2
      exact ⟨rfl, B4⟩
  · have HE : Hid (Wk.isC R l n = Wk.cchk R l ∧ Wk.isB R l n = false) := by
      exact ⟨by unfold Wk.isC; rw [if_neg hz], by unfold Wk.isB; rw [decide_eq_false hz]; simp⟩
    rw [HE.out.1, HE.out.2]
    have hne : (Wk.cchk R l != 0) = true := by simpa using hz
    go_enter Tryd.func14, Tryd.ntmps14
    go_wp2_with fail
    refine hC.mono ?_
    rintro e w1 ⟨rfl, b1⟩
    have B1 := below_next bA (Nat.le_refl _) b1
    clear b1 hC
    go_wp2
    go_ret2
    exact ⟨rfl, B1⟩
end Go.Proofs.YtehopfpcikbaiaaDoor
