/- The reference's searches. -/
import Derived.Test.YtpjpmfcbddkjnaaDoorVWork
namespace Go.Proofs.YtpjpmfcbddkjnaaDoor
open Go.RowKit

theorem isC_in {R : Wk.Rst} {l : List Wk.Rl} (hz : Wk.cchk R l = 0) {n : Int} (h : 1 ≤ n ∧ n ≤ 3651693) : Wk.isC R l n = 0 ∧ Wk.isB R l n = Wk.isW R l n :=
  ⟨by unfold Wk.isC; rw [if_pos hz, if_pos h], by unfold Wk.isB; rw [decide_eq_true hz, decide_eq_true h]; rfl⟩
theorem isC_out {R : Wk.Rst} {l : List Wk.Rl} (hz : Wk.cchk R l = 0) {n : Int} (h : ¬ (1 ≤ n ∧ n ≤ 3651693)) : Wk.isC R l n = 3 ∧ Wk.isB R l n = false :=
  ⟨by unfold Wk.isC; rw [if_pos hz, if_neg h], by unfold Wk.isB; rw [decide_eq_false h]; simp⟩
theorem isC_bad {R : Wk.Rst} {l : List Wk.Rl} (hz : ¬ Wk.cchk R l = 0) (n : Int) : Wk.isC R l n = Wk.cchk R l ∧ Wk.isB R l n = false :=
  ⟨by unfold Wk.isC; rw [if_neg hz], by unfold Wk.isB; rw [decide_eq_false hz]; simp⟩
set_option maxRecDepth 100000 in
set_option maxHeartbeats 1500000 in
theorem vWorkNext (R : Wk.Rst) (l : List Wk.Rl) (a : Option Addr) (cap : Nat) (n0 : Int) (w : World) (hl : l.length ≤ maxLen) (hr : Row4 w a l) :
    Calls Tryd.prog 20 #[calV R a l.length cap, .int .i64 n0] w fun e w' => e = .returned (.tuple #[.int .i64 (Wk.told R l (Wk.next R l n0)).1, .int .i64 (Wk.told R l (Wk.next R l n0)).2]) ∧ Below w.heap.size w w' := by
  have bA := below_box w (.cells #[.bool R.b0, .bool R.b1, .bool R.b2, .bool R.b3, .bool R.b4, .bool R.b5, .bool R.b6, .slice a l.length cap] 25)
  have sA : w.heap.size < (w.alloc (.cells #[.bool R.b0, .bool R.b1, .bool R.b2, .bool R.b3, .bool R.b4, .bool R.b5, .bool R.b6, .slice a l.length cap] 25)).heap.size := by simp
  have HC : Hid (∀ j v, (#[.bool R.b0, .bool R.b1, .bool R.b2, .bool R.b3, .bool R.b4, .bool R.b5, .bool R.b6, .slice a l.length cap] : Array Value)[j]? = some v → (w.alloc (.cells #[.bool R.b0, .bool R.b1, .bool R.b2, .bool R.b3, .bool R.b4, .bool R.b5, .bool R.b6, .slice a l.length cap] 25)).cell? ⟨w.heap.size, j, none⟩ = some v) := fun j v hj => boxCells w _ _ j v hj
  generalize hRES : Wk.told R l (Wk.next R l n0) = RES
  have HRES : Hid (Wk.told R l (Wk.next R l n0) = RES) := hRES
  clear hRES
  go_enter Tryd.func20, Tryd.ntmps20
  go_wp2
  generalize w.alloc (.cells #[.bool R.b0, .bool R.b1, .bool R.b2, .bool R.b3, .bool R.b4, .bool R.b5, .bool R.b6, .slice a l.length cap] 25) = wA at *
  go_loopw [1] (fun i wr => ∃ n : Int, i = .int .i64 n ∧ n0 ≤ n ∧ (n = n0 ∨ (1 ≤ n0 ∧ n ≤ 3651694)) ∧ Wk.told R l (Wk.next R l n) = RES ∧ Below wA.heap.size wA wr) (fun i _ => (3651695 - intOf i).toNat)
  case atStart => exact ⟨n0, rfl, Int.le_refl _, .inl rfl, HRES.out, Below.refl _ _⟩
  case round =>
    clear HRES
    obtain ⟨n, rfl, hn0, hor, hres, hnx⟩ := hrel
    have HRES : Hid (Wk.told R l (Wk.next R l n) = RES) := hres
    clear hres
    have B1 := below_next bA (Nat.le_refl _) hnx
    have HG : Hid (∀ j v, (#[.bool R.b0, .bool R.b1, .bool R.b2, .bool R.b3, .bool R.b4, .bool R.b5, .bool R.b6, .slice a l.length cap] : Array Value)[j]? = some v → wr.cell? ⟨w.heap.size, j, none⟩ = some v) := fun j v hj => (hnx.cell (p := ⟨w.heap.size, j, none⟩) sA).trans (HC.out j v hj)
    have g0 := HG.out 0 _ rfl
    have g1 := HG.out 1 _ rfl
    have g2 := HG.out 2 _ rfl
    have g3 := HG.out 3 _ rfl
    have g4 := HG.out 4 _ rfl
    have g5 := HG.out 5 _ rfl
    have g6 := HG.out 6 _ rfl
    have g7 := HG.out 7 _ rfl
    go_wp2_with fail
    refine (vWorkIs R l a cap n wr hl (hr.below B1)).mono ?_
    rintro e w2 ⟨rfl, b2⟩
    have B2 := below_next B1 (Nat.le_refl _) b2
    have nx2 := below_next hnx (Nat.le_refl _) b2
    clear g0 g1 g2 g3 g4 g5 g6 g7
    clear b2 HG B1 hnx
    by_cases hz : Wk.cchk R l = 0
    · have et : ∀ f, Wk.told R l f = f := fun f => by unfold Wk.told; rw [if_pos hz]
      rw [et] at HRES
      by_cases hin : 1 ≤ n ∧ n ≤ 3651693
      · have hw1 : IntKind.i64.wrap (n + 1) = n + 1 := by rw [IntKind.wrap_i64]; omega
        rw [(isC_in hz hin).1, (isC_in hz hin).2]
        have HS := Wk.next_in R l n hin.1 hin.2
        cases hW : Wk.isW R l n with
        | true =>
          have HE : Hid (RES = (n, 0)) := by unfold Hid; rw [← HRES.out, HS, if_pos hW]
          clear hW HS et
          go_wp2
          go_ret2
          exact ⟨by rw [HE.out] <;> rfl, B2⟩
        | false =>
          have HE : Hid (Wk.told R l (Wk.next R l (n + 1)) = RES) := by unfold Hid; rw [et, ← HRES.out, HS, if_neg (by rw [hW]; decide)]
          clear hW HS et
          go_wp2
          go_roundw
          case rel => exact ⟨n + 1, by go_num, by omega, .inr (by rcases hor with e | e <;> omega), HE.out, nx2⟩
          case measure => simp [intOf]; omega
      · rw [(isC_out hz hin).1, (isC_out hz hin).2]
        have HE : Hid (RES = (0, 3)) := by unfold Hid; rw [← HRES.out, Wk.next_out R l n hin]
        clear hin et
        go_wp2
        go_ret2
        exact ⟨by rw [HE.out] <;> rfl, B2⟩
    · rw [(isC_bad hz n).1, (isC_bad hz n).2]
      have hne : (Wk.cchk R l != 0) = true := by simpa using hz
      have HE : Hid (RES = (0, Wk.cchk R l)) := by unfold Hid; rw [← HRES.out]; unfold Wk.told; rw [if_neg hz]
      clear hz
      go_wp2
      go_ret2
      exact ⟨by rw [HE.out] <;> rfl, B2⟩
set_option maxRecDepth 100000 in
set_option maxHeartbeats 1500000 in
theorem vAdd_bad (R : Wk.Rst) (l : List Wk.Rl) (a : Option Addr) (cap : Nat) (n0 c0 : Int) (w : World) (hl : l.length ≤ maxLen) (hr : Row4 w a l) (hb : ¬ Wk.cchk R l = 0 ∨ ¬ (1 ≤ n0 ∧ n0 ≤ 3651693 ∧ 0 ≤ c0 ∧ c0 ≤ 400)) :
    Calls Tryd.prog 21 #[calV R a l.length cap, .int .i64 n0, .int .i64 c0] w fun e w' => e = .returned (.tuple #[.int .i64 (Wk.told R l (Wk.add R l n0 c0)).1, .int .i64 (Wk.told R l (Wk.add R l n0 c0)).2]) ∧ Below w.heap.size w w' := by
  have bA := below_box w (.cells #[.bool R.b0, .bool R.b1, .bool R.b2, .bool R.b3, .bool R.b4, .bool R.b5, .bool R.b6, .slice a l.length cap] 25)
  have sA : w.heap.size < (w.alloc (.cells #[.bool R.b0, .bool R.b1, .bool R.b2, .bool R.b3, .bool R.b4, .bool R.b5, .bool R.b6, .slice a l.length cap] 25)).heap.size := by simp
  have HC : Hid (∀ j v, (#[.bool R.b0, .bool R.b1, .bool R.b2, .bool R.b3, .bool R.b4, .bool R.b5, .bool R.b6, .slice a l.length cap] : Array Value)[j]? = some v → (w.alloc (.cells #[.bool R.b0, .bool R.b1, .bool R.b2, .bool R.b3, .bool R.b4, .bool R.b5, .bool R.b6, .slice a l.length cap] 25)).cell? ⟨w.heap.size, j, none⟩ = some v) := fun j v hj => boxCells w _ _ j v hj
  have hC := vCal R l a cap _ hl (hr.below bA)
  by_cases hz : Wk.cchk R l = 0
  · have hb' : ¬ (1 ≤ n0 ∧ n0 ≤ 3651693 ∧ 0 ≤ c0 ∧ c0 ≤ 400) := hb.elim (fun h => absurd hz h) (fun h => h)
    have e0 : Wk.told R l (Wk.add R l n0 c0) = (0, 3) := by unfold Wk.told Wk.add; rw [if_pos hz, if_neg hb']
    rw [e0]
    rw [hz] at hC
    clear e0 hb
    by_cases q1 : n0 < 1
    · go_enter Tryd.func21, Tryd.ntmps21
      go_wp2_with fail
      refine hC.mono ?_
      rintro e w1 ⟨rfl, b1⟩
      have B1 := below_next bA (Nat.le_refl _) b1
      clear b1 hC hb'
      go_wp2
      go_ret2
      exact ⟨rfl, B1⟩
    · have q1' : decide (n0 < 1) = false := decide_eq_false q1
      by_cases q2 : 3651693 < n0
      · go_enter Tryd.func21, Tryd.ntmps21
        go_wp2_with fail
        refine hC.mono ?_
        rintro e w1 ⟨rfl, b1⟩
        have B1 := below_next bA (Nat.le_refl _) b1
        clear b1 hC hb'
        go_wp2
        go_ret2
        exact ⟨rfl, B1⟩
      · have q2' : decide (3651693 < n0) = false := decide_eq_false q2
        by_cases q3 : c0 < 0
        · go_enter Tryd.func21, Tryd.ntmps21
          go_wp2_with fail
          refine hC.mono ?_
          rintro e w1 ⟨rfl, b1⟩
          have B1 := below_next bA (Nat.le_refl _) b1
          clear b1 hC hb'
          go_wp2
          go_ret2
          exact ⟨rfl, B1⟩
        · have q3' : decide (c0 < 0) = false := decide_eq_false q3
          have q4 : decide (400 < c0) = true := decide_eq_true (by omega)
          go_enter Tryd.func21, Tryd.ntmps21
          go_wp2_with fail
          refine hC.mono ?_
          rintro e w1 ⟨rfl, b1⟩
          have B1 := below_next bA (Nat.le_refl _) b1
          clear b1 hC hb'
          go_wp2
          go_ret2
          exact ⟨rfl, B1⟩
  · have e0 : Wk.told R l (Wk.add R l n0 c0) = (0, Wk.cchk R l) := by unfold Wk.told; rw [if_neg hz]
    rw [e0]
    have hne : (Wk.cchk R l != 0) = true := by simpa using hz
    have hne2 : (Wk.cchk R l == 0) = false := by simpa using hz
    clear e0 hb
    go_enter Tryd.func21, Tryd.ntmps21
    go_wp2_with fail
    refine hC.mono ?_
    rintro e w1 ⟨rfl, b1⟩
    have B1 := below_next bA (Nat.le_refl _) b1
    clear b1 hC
    go_wp2
    go_ret2
    exact ⟨rfl, B1⟩
set_option maxRecDepth 100000 in
set_option maxHeartbeats 1500000 in
theorem vAdd_ok (R : Wk.Rst) (l : List Wk.Rl) (a : Option Addr) (cap : Nat) (n0 c0 : Int) (w : World) (hl : l.length ≤ maxLen) (hr : Row4 w a l) (hz : Wk.cchk R l = 0) (h1 : 1 ≤ n0) (h2 : n0 ≤ 3651693) (h3 : 0 ≤ c0) (h4 : c0 ≤ 400) :
    Calls Tryd.prog 21 #[calV R a l.length cap, .int .i64 n0, .int .i64 c0] w fun e w' => e = .returned (.tuple #[.int .i64 (Wk.told R l (Wk.add R l n0 c0)).1, .int .i64 (Wk.told R l (Wk.add R l n0 c0)).2]) ∧ Below w.heap.size w w' := by
  have bA := below_box w (.cells #[.bool R.b0, .bool R.b1, .bool R.b2, .bool R.b3, .bool R.b4, .bool R.b5, .bool R.b6, .slice a l.length cap] 25)
  have sA : w.heap.size < (w.alloc (.cells #[.bool R.b0, .bool R.b1, .bool R.b2, .bool R.b3, .bool R.b4, .bool R.b5, .bool R.b6, .slice a l.length cap] 25)).heap.size := by simp
  have HC : Hid (∀ j v, (#[.bool R.b0, .bool R.b1, .bool R.b2, .bool R.b3, .bool R.b4, .bool R.b5, .bool R.b6, .slice a l.length cap] : Array Value)[j]? = some v → (w.alloc (.cells #[.bool R.b0, .bool R.b1, .bool R.b2, .bool R.b3, .bool R.b4, .bool R.b5, .bool R.b6, .slice a l.length cap] 25)).cell? ⟨w.heap.size, j, none⟩ = some v) := fun j v hj => boxCells w _ _ j v hj
  have hC := vCal R l a cap _ hl (hr.below bA)
  rw [hz] at hC
  have e0 : Wk.told R l (Wk.add R l n0 c0) = if c0 = 0 then (n0, 0) else Wk.addS R l (n0 + 1) c0 := by unfold Wk.told Wk.add; rw [if_pos hz, if_pos ⟨h1, h2, h3, h4⟩]
  generalize Wk.told R l (Wk.add R l n0 c0) = RES at *
  have HRES : Hid (RES = if c0 = 0 then (n0, 0) else Wk.addS R l (n0 + 1) c0) := e0
  clear e0
  have q1 : decide (n0 < 1) = false := decide_eq_false (by omega)
  have q2 : decide (3651693 < n0) = false := decide_eq_false (by omega)
  have q3 : decide (c0 < 0) = false := decide_eq_false (by omega)
  have q4 : decide (400 < c0) = false := decide_eq_false (by omega)
  go_enter Tryd.func21, Tryd.ntmps21
  go_wp2_with fail
  refine hC.mono ?_
  rintro e w1 ⟨rfl, b1⟩
  have B1 := below_next bA (Nat.le_refl _) b1
  have s1 : w.heap.size < w1.heap.size := Nat.lt_of_lt_of_le sA b1.size
  have HC1 : Hid (∀ j v, (#[.bool R.b0, .bool R.b1, .bool R.b2, .bool R.b3, .bool R.b4, .bool R.b5, .bool R.b6, .slice a l.length cap] : Array Value)[j]? = some v → w1.cell? ⟨w.heap.size, j, none⟩ = some v) := fun j v hj => (b1.cell (p := ⟨w.heap.size, j, none⟩) sA).trans (HC.out j v hj)
  clear b1 hC HC
  go_wp2
  clear q1 q2 q3 q4
  go_loopw [1, 2] (fun i c wr => ∃ n k : Int, i = .int .i64 n ∧ c = .int .i64 k ∧ 1 ≤ n ∧ n ≤ 3651693 ∧ 0 ≤ k ∧ k ≤ 400 ∧ (RES = if k = 0 then (n, 0) else Wk.addS R l (n + 1) k) ∧ Below w1.heap.size w1 wr) (fun i _ _ => (3651695 - intOf i).toNat)
  case atStart => exact ⟨n0, c0, rfl, rfl, h1, h2, h3, h4, HRES.out, Below.refl _ _⟩
  case round =>
    clear HRES
    obtain ⟨n, k, rfl, rfl, p1, p2, p3, p4, hres, hnx⟩ := hrel
    have HRES : Hid (RES = if k = 0 then (n, 0) else Wk.addS R l (n + 1) k) := hres
    clear hres
    have B2 := below_next B1 (Nat.le_refl _) hnx
    by_cases hk : k = 0
    · subst hk
      have HE : Hid (RES = (n, 0)) := by unfold Hid; rw [HRES.out, if_pos rfl]
      go_wp2
      go_ret2
      exact ⟨by rw [HE.out] <;> rfl, B2⟩
    · have hkp : (0 : Int) < k := by omega
      have hw1 : IntKind.i64.wrap (n + 1) = n + 1 := by rw [IntKind.wrap_i64]; omega
      have hw2 : IntKind.i64.wrap (k - 1) = k - 1 := by rw [IntKind.wrap_i64]; omega
      have HG : Hid (∀ j v, (#[.bool R.b0, .bool R.b1, .bool R.b2, .bool R.b3, .bool R.b4, .bool R.b5, .bool R.b6, .slice a l.length cap] : Array Value)[j]? = some v → wr.cell? ⟨w.heap.size, j, none⟩ = some v) := fun j v hj => (hnx.cell (p := ⟨w.heap.size, j, none⟩) s1).trans (HC1.out j v hj)
      have HR2 : Hid (RES = Wk.addS R l (n + 1) k) := by unfold Hid; rw [HRES.out, if_neg hk]
      have g0 := HG.out 0 _ rfl
      have g1 := HG.out 1 _ rfl
      have g2 := HG.out 2 _ rfl
      have g3 := HG.out 3 _ rfl
      have g4 := HG.out 4 _ rfl
      have g5 := HG.out 5 _ rfl
      have g6 := HG.out 6 _ rfl
      have g7 := HG.out 7 _ rfl
      go_wp2_with fail
      refine (vWorkIs R l a cap (n + 1) wr hl (hr.below B2)).mono ?_
      rintro e w3 ⟨rfl, b3⟩
      have B3 := below_next B2 (Nat.le_refl _) b3
      have nx3 := below_next hnx (Nat.le_refl _) b3
      clear g0 g1 g2 g3 g4 g5 g6 g7
      clear b3 HG hnx B2 HRES hk
      by_cases hin : 1 ≤ n + 1 ∧ n + 1 ≤ 3651693
      · rw [(isC_in hz hin).1, (isC_in hz hin).2]
        have HS := Wk.addS_in R l (n + 1) k hin.1 hin.2
        cases hW : Wk.isW R l (n + 1) with
        | true =>
          have HE : Hid (RES = if k - 1 = 0 then (n + 1, 0) else Wk.addS R l (n + 1 + 1) (k - 1)) := by
            unfold Hid; rw [HR2.out, HS, if_pos hW]
            by_cases c : k = 1
            · rw [if_pos c, if_pos (by omega)]
            · rw [if_neg c, if_neg (by omega)]
          clear hW HS
          go_wp2
          go_roundw
          case rel => exact ⟨n + 1, k - 1, by go_num, by go_num, by omega, by omega, by omega, by omega, HE.out, nx3⟩
          case measure => simp [intOf]; omega
        | false =>
          have HE : Hid (RES = if k = 0 then (n + 1, 0) else Wk.addS R l (n + 1 + 1) k) := by
            unfold Hid; rw [HR2.out, HS, if_neg (by rw [hW]; decide), if_neg (by omega)]
          clear hW HS
          go_wp2
          go_roundw
          case rel => exact ⟨n + 1, k, by go_num, rfl, by omega, by omega, by omega, by omega, HE.out, nx3⟩
          case measure => simp [intOf]; omega
      · rw [(isC_out hz hin).1, (isC_out hz hin).2]
        have HE : Hid (RES = (0, 3)) := by unfold Hid; rw [HR2.out, Wk.addS_out R l (n + 1) k hin]
        clear hin
        go_wp2
        go_ret2
        exact ⟨by rw [HE.out] <;> rfl, B3⟩
theorem vWorkAdd (R : Wk.Rst) (l : List Wk.Rl) (a : Option Addr) (cap : Nat) (n0 c0 : Int) (w : World) (hl : l.length ≤ maxLen) (hr : Row4 w a l) :
    Calls Tryd.prog 21 #[calV R a l.length cap, .int .i64 n0, .int .i64 c0] w fun e w' => e = .returned (.tuple #[.int .i64 (Wk.told R l (Wk.add R l n0 c0)).1, .int .i64 (Wk.told R l (Wk.add R l n0 c0)).2]) ∧ Below w.heap.size w w' := by
  by_cases hz : Wk.cchk R l = 0
  · by_cases h : 1 ≤ n0 ∧ n0 ≤ 3651693 ∧ 0 ≤ c0 ∧ c0 ≤ 400
    · exact vAdd_ok R l a cap n0 c0 w hl hr hz h.1 h.2.1 h.2.2.1 h.2.2.2
    · exact vAdd_bad R l a cap n0 c0 w hl hr (.inr h)
  · exact vAdd_bad R l a cap n0 c0 w hl hr (.inl hz)
end Go.Proofs.YtpjpmfcbddkjnaaDoor
