/- The reference's searches. -/
import Derived.Test.YtehopfpcikbaiaaDoorVWork
namespace Go.Proofs.YtehopfpcikbaiaaDoor
open Go.RowKit

theorem isC_in {R : Wk.Rst} {l : List Wk.Rl} (hz : Wk.cchk R l = 0) {n : Int} (h : 1 ≤ n ∧ n ≤ 3651693) : Wk.isC R l n = 0 ∧ Wk.isB R l n = Wk.isW R l n :=
  ⟨by unfold Wk.isC; rw [if_pos hz, if_pos h], by unfold Wk.isB; rw [decide_eq_true hz, decide_eq_true h]; rfl⟩
theorem isC_out {R : Wk.Rst} {l : List Wk.Rl} (hz : Wk.cchk R l = 0) {n : Int} (h : ¬ (1 ≤ n ∧ n ≤ 3651693)) : Wk.isC R l n = 3 ∧ Wk.isB R l n = false :=
  ⟨by unfold Wk.isC; rw [if_pos hz, if_neg h], by unfold Wk.isB; rw [decide_eq_false h]; simp⟩
theorem isC_bad {R : Wk.Rst} {l : List Wk.Rl} (hz : ¬ Wk.cchk R l = 0) (n : Int) : Wk.isC R l n = Wk.cchk R l ∧ Wk.isB R l n = false :=
  ⟨by unfold Wk.isC; rw [if_neg hz], by unfold Wk.isB; rw [decide_eq_false hz]; simp⟩
set_option maxRecDepth 100000 in
set_option maxHeartbeats 1500000 in
theorem vWorkNext (R : Wk.Rst) (l : List Wk.Rl) (a : Option Addr) (cap : Nat) (n0 : Int) (w : World) (hl : l.length ≤ maxLen) (hr : Row4 w a l) :
    Calls Tryd.prog 19 #[calV R a l.length cap, .int .i64 n0] w fun e w' => e = .returned (.tuple #[.int .i64 (Wk.told R l (Wk.next R l n0)).1, .int .i64 (Wk.told R l (Wk.next R l n0)).2]) ∧ Below w.heap.size w w' := by
  have bA := below_box w (.cells #[.bool R.b0, .bool R.b1, .bool R.b2, .bool R.b3, .bool R.b4, .bool R.b5, .bool R.b6, .slice a l.length cap] 25)
  have sA : w.heap.size < (w.alloc (.cells #[.bool R.b0, .bool R.b1, .bool R.b2, .bool R.b3, .bool R.b4, .bool R.b5, .bool R.b6, .slice a l.length cap] 25)).heap.size := by simp
  have HC : Hid (∀ j v, (#[.bool R.b0, .bool R.b1, .bool R.b2, .bool R.b3, .bool R.b4, .bool R.b5, .bool R.b6, .slice a l.length cap] : Array Value)[j]? = some v → (w.alloc (.cells #[.bool R.b0, .bool R.b1, .bool R.b2, .bool R.b3, .bool R.b4, .bool R.b5, .bool R.b6, .slice a l.length cap] 25)).cell? ⟨w.heap.size, j, none⟩ = some v) := fun j v hj => boxCells w _ _ j v hj
  generalize hRES : Wk.told R l (Wk.next R l n0) = RES
  have HRES : Hid (Wk.told R l (Wk.next R l n0) = RES) := hRES
  clear hRES
  go_enter Tryd.func19, Tryd.ntmps19
  go_wp2
  generalize w.alloc (.cells #[.bool R.b0, .bool R.b1, .bool R.b2, .bool R.b3, .bool R.b4, .bool R.b5, .bool R.b6, .slice a l.length cap] 25) = wA at *
  go_loopw [1] (fun i wr => ∃ n : Int, i = .int .i64 n ∧ n0 ≤ n ∧ (n = n0 ∨ (1 ≤ n0 ∧ n ≤ 3651694)) ∧ Wk.told R l (Wk.next R l n) = RES ∧ Below wA.heap.size wA wr) (fun i _ => (3651695 - intOf i).toNat)
  case atStart => exact ⟨n0, rfl, Int.le_refl _, .inl rfl, HRES.out, Below.refl _ _⟩
  case round =>
    clear HRES
    obtain ⟨n, rfl, hn0, hor, hres, hnx⟩ := hrel
    have HRES : Hid (Wk.told R l (Wk.next R l n) = RES) := hres
    clear hres
    have B1 := below_next bA (Nat.le_refl _) hnx
    have HG : Hid (∀ j v, (#[.bool R.b0, .bool R.b1, .bool R.b2, .bool R.b3, .bool R.b4, .bool R.b5, .bool R.b6, .slice a l.length cap] : Array Value)[j]? = some v → wr.cell? ⟨w.heap.size, j, none⟩ = some v) := fun j v hj => (hnx.cell (p := ⟨w.heap.size, j, none⟩) sA).trans (HC.out j v hj)
    have g0 := HG.out 0 _ rfl
    have g1 := HG.out 1 _ rfl
    have g2 := HG.out 2 _ rfl
    have g3 := HG.out 3 _ rfl
    have g4 := HG.out 4 _ rfl
    have g5 := HG.out 5 _ rfl
    have g6 := HG.out 6 _ rfl
    have g7 := HG.out 7 _ rfl
    go_wp2_with fail
    refine (vWorkIs R l a cap n wr hl (hr.below B1)).mono ?_
    rintro e w2 ⟨rfl, b2⟩
    have B2 := below_next B1 (Nat.le_refl _) b2
    have nx2 := below_next hnx (Nat.le_refl _) b2
    clear g0 g1 g2 g3 g4 g5 g6 g7
    clear b2 HG B1 hnx
    by_cases hz : Wk.cchk R l = 0
    · have et : ∀ f, Wk.told R l f = f := fun f => by unfold Wk.told; rw [if_pos hz]
      rw [et] at HRES
      by_cases hin : 1 ≤ n ∧ n ≤ 3651693
      · have hw1 : IntKind.i64.wrap (n + 1) = n + 1 := by rw [IntKind.wrap_i64]; omega
        rw [(isC_in hz hin).1, (isC_in hz hin).2]
        have HS := Wk.next_in R l n hin.1 hin.2
        cases hW : Wk.isW R l n with
        | true =>
          have HE : Hid (RES = (n, 0)) := by unfold Hid; rw [← HRES.out, HS, if_pos hW]
          clear hW HS et
          go_wp2
          go_ret2
          exact ⟨by rw [HE.out] <;> rfl, B2⟩
        | false =>
          have HE : Hid (Wk.told R l (Wk.next R l (n + 1)) = RES) := by unfold Hid; rw [et, ← HRES.out, HS, if_neg (by rw [hW]; decide)]
          clear hW HS et
          go_wp2
          go_roundw
          case rel => exact ⟨n + 1, by go_num, by omega, .inr (by rcases hor with e | e <;> omega), HE.out, nx2⟩
          case measure => simp [intOf]; omega
      · rw [(isC_out hz hin).1, (isC_out hz hin).2]
        have HE : Hid (RES = (0, 3)) := by unfold Hid; rw [← HRES.out, Wk.next_out R l n hin]
        clear hin et
        go_wp2
        go_ret2
        exact ⟨by rw [HE.out] <;> rfl, B2⟩
    · rw [(isC_bad hz n).1, (isC_bad hz n).2]
      have hne : (Wk.cchk R l != 0) = true := by simpa using hz
      have HE : Hid (RES = (0, Wk.cchk R l)) := by unfold Hid; rw [← HRES.out]; unfold Wk.told; rw [if_neg hz]
      clear hz
      go_wp2
      go_ret2
      exact ⟨by rw [HE.out] <;> rfl, B2⟩
end Go.Proofs.YtehopfpcikbaiaaDoor
