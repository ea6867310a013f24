/- The program's day of an instalment. -/
import Derived.Test.YtehopfpcikbaiaaDoorDuW
import Derived.Test.YtehopfpcikbaiaaDoorWTop2ToVRule
import Derived.Test.YtehopfpcikbaiaaDoorTRef2ToHWk
namespace Go.Proofs.YtehopfpcikbaiaaDoor
open Go.RowKit Go.BigFrame

set_option maxRecDepth 100000 in
set_option maxHeartbeats 2000000 in
theorem dday_any (R : Wk.Rst) (L : List Wk.Rl) (a : Option Addr) (cap : Nat) (s u n k : Int) (w : World) (hw : Laid w) (hl : L.length ≤ maxLen) (hr : Row4 w a L) (y z : Int) (hf : (if (Trm.nthF s u n k).2 = 0 then Wk.told R L (Wk.next R L (Trm.nthF s u n k).1) else (0, (Trm.nthF s u n k).2)) = (y, z)) :
    Calls Tryd.prog 16 #[.agg #[.bool R.b0, .bool R.b1, .bool R.b2, .bool R.b3, .bool R.b4, .bool R.b5, .bool R.b6, .slice a L.length cap, .int .i64 u, .int .i64 n, .int .i64 s], .int .i64 k] w fun e w' => e = .returned (.tuple #[.int .i64 y, .int .i64 z]) ∧ Below w.heap.size w w' := by
  have BA : Hid (Below w.heap.size w (w.alloc (.cells #[.bool R.b0, .bool R.b1, .bool R.b2, .bool R.b3, .bool R.b4, .bool R.b5, .bool R.b6, .slice a L.length cap, .int .i64 u, .int .i64 n, .int .i64 s] 49))) := below_box w _
  have HCS : Hid (∀ j v, (#[.bool R.b0, .bool R.b1, .bool R.b2, .bool R.b3, .bool R.b4, .bool R.b5, .bool R.b6, .slice a L.length cap, .int .i64 u, .int .i64 n, .int .i64 s] : Array Value)[j]? = some v → (w.alloc (.cells #[.bool R.b0, .bool R.b1, .bool R.b2, .bool R.b3, .bool R.b4, .bool R.b5, .bool R.b6, .slice a L.length cap, .int .i64 u, .int .i64 n, .int .i64 s] 49)).cell? ⟨w.heap.size, j, none⟩ = some v) := fun j v hj => boxCells w _ _ j v hj
  have sA : w.heap.size < (w.alloc (.cells #[.bool R.b0, .bool R.b1, .bool R.b2, .bool R.b3, .bool R.b4, .bool R.b5, .bool R.b6, .slice a L.length cap, .int .i64 u, .int .i64 n, .int .i64 s] 49)).heap.size := by simp
  have HN : Hid (Calls Tryd.prog 31 #[.int .i64 s, .agg #[.int .i64 u, .int .i64 n], .int .i64 k] (w.alloc (.cells #[.bool R.b0, .bool R.b1, .bool R.b2, .bool R.b3, .bool R.b4, .bool R.b5, .bool R.b6, .slice a L.length cap, .int .i64 u, .int .i64 n, .int .i64 s] 49)) fun e w' => e = .returned (.tuple #[.int .i64 (Trm.nthF s u n k).1, .int .i64 (Trm.nthF s u n k).2]) ∧ Below (w.alloc (.cells #[.bool R.b0, .bool R.b1, .bool R.b2, .bool R.b3, .bool R.b4, .bool R.b5, .bool R.b6, .slice a L.length cap, .int .i64 u, .int .i64 n, .int .i64 s] 49)).heap.size (w.alloc (.cells #[.bool R.b0, .bool R.b1, .bool R.b2, .bool R.b3, .bool R.b4, .bool R.b5, .bool R.b6, .slice a L.length cap, .int .i64 u, .int .i64 n, .int .i64 s] 49)) w') := pNthF s u n k _ (hw.below BA.out)
  have HW : Hid (Laid w ∧ Row4 w a L ∧ L.length ≤ maxLen) := ⟨hw, hr, hl⟩
  clear hw hr hl
  by_cases h0 : (Trm.nthF s u n k).2 = 0
  · rw [if_pos h0] at hf
    obtain ⟨q, hq⟩ : ∃ q, (Trm.nthF s u n k).1 = q := ⟨_, rfl⟩
    rw [h0, hq] at HN
    rw [hq] at hf
    have HF : Hid (Wk.told R L (Wk.next R L q) = (y, z)) := hf
    clear h0 hf hq
    go_enter Tryd.func16, Tryd.ntmps16
    go_wp2_with fail
    refine HN.out.mono ?_
    rintro e w1 ⟨rfl, b1⟩
    have B1 : Hid (Below w.heap.size w w1) := below_next BA.out (Nat.le_refl _) b1
    have g0 := (b1.cell (p := ⟨w.heap.size, 0, none⟩) sA).trans (HCS.out 0 _ rfl)
    have g1 := (b1.cell (p := ⟨w.heap.size, 1, none⟩) sA).trans (HCS.out 1 _ rfl)
    have g2 := (b1.cell (p := ⟨w.heap.size, 2, none⟩) sA).trans (HCS.out 2 _ rfl)
    have g3 := (b1.cell (p := ⟨w.heap.size, 3, none⟩) sA).trans (HCS.out 3 _ rfl)
    have g4 := (b1.cell (p := ⟨w.heap.size, 4, none⟩) sA).trans (HCS.out 4 _ rfl)
    have g5 := (b1.cell (p := ⟨w.heap.size, 5, none⟩) sA).trans (HCS.out 5 _ rfl)
    have g6 := (b1.cell (p := ⟨w.heap.size, 6, none⟩) sA).trans (HCS.out 6 _ rfl)
    have g7 := (b1.cell (p := ⟨w.heap.size, 7, none⟩) sA).trans (HCS.out 7 _ rfl)
    have g8 := (b1.cell (p := ⟨w.heap.size, 8, none⟩) sA).trans (HCS.out 8 _ rfl)
    have g9 := (b1.cell (p := ⟨w.heap.size, 9, none⟩) sA).trans (HCS.out 9 _ rfl)
    have g10 := (b1.cell (p := ⟨w.heap.size, 10, none⟩) sA).trans (HCS.out 10 _ rfl)
    have HX : Hid (Calls Tryd.prog 32 #[calV R a L.length cap, .int .i64 q] w1 fun e w' => e = .returned (.tuple #[.int .i64 y, .int .i64 z]) ∧ Below w1.heap.size w1 w') := by
      have := pNext R L a cap q w1 HW.out.2.2 (HW.out.1.below B1.out) (HW.out.2.1.below B1.out)
      rwa [HF.out] at this
    clear b1
    go_wp2_with fail
    refine HX.out.mono ?_
    rintro e w3 ⟨rfl, b3⟩
    have B3 : Hid (Below w.heap.size w w3) := below_next B1.out (Nat.le_refl _) b3
    clear b3
    go_wp2
    go_ret2
    exact ⟨rfl, B3.out⟩
  · rw [if_neg h0] at hf
    obtain ⟨q, hq⟩ : ∃ q, (Trm.nthF s u n k).2 = q := ⟨_, rfl⟩
    rw [hq] at HN h0 hf
    cases hf
    have hne : (z != 0) = true := by simpa using h0
    clear h0
    go_enter Tryd.func16, Tryd.ntmps16
    go_wp2_with fail
    refine HN.out.mono ?_
    rintro e w1 ⟨rfl, b1⟩
    have B1 : Hid (Below w.heap.size w w1) := below_next BA.out (Nat.le_refl _) b1
    clear b1
    go_wp2
    go_ret2
    exact ⟨rfl, B1.out⟩
end Go.Proofs.YtehopfpcikbaiaaDoor
