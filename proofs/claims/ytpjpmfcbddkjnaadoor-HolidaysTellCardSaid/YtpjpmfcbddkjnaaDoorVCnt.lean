/- The reference's count of days of work, its holidays of a year, and two lists held against each other. -/
import Derived.Test.YtpjpmfcbddkjnaaDoorVSea
import Derived.Test.YtpjpmfcbddkjnaaDoorWHol
namespace Go.Proofs.YtpjpmfcbddkjnaaDoor
open Go.RowKit

set_option maxRecDepth 100000 in
set_option maxHeartbeats 1500000 in
theorem vCount_bad (R : Wk.Rst) (l : List Wk.Rl) (a : Option Addr) (cap : Nat) (x y : Int) (w : World) (hl : l.length ≤ maxLen) (hr : Row4 w a l) (hb : ¬ Wk.cchk R l = 0 ∨ ¬ (1 ≤ x ∧ x ≤ 3651693 ∧ 1 ≤ y ∧ y ≤ 3651693)) :
    Calls Tryd.prog 22 #[calV R a l.length cap, .int .i64 x, .int .i64 y] w fun e w' => e = .returned (.tuple #[.int .i64 (Wk.told R l (Wk.count R l x y)).1, .int .i64 (Wk.told R l (Wk.count R l x y)).2]) ∧ Below w.heap.size w w' := by
  have bA := below_box w (.cells #[.bool R.b0, .bool R.b1, .bool R.b2, .bool R.b3, .bool R.b4, .bool R.b5, .bool R.b6, .slice a l.length cap] 25)
  have sA : w.heap.size < (w.alloc (.cells #[.bool R.b0, .bool R.b1, .bool R.b2, .bool R.b3, .bool R.b4, .bool R.b5, .bool R.b6, .slice a l.length cap] 25)).heap.size := by simp
  have HC : Hid (∀ j v, (#[.bool R.b0, .bool R.b1, .bool R.b2, .bool R.b3, .bool R.b4, .bool R.b5, .bool R.b6, .slice a l.length cap] : Array Value)[j]? = some v → (w.alloc (.cells #[.bool R.b0, .bool R.b1, .bool R.b2, .bool R.b3, .bool R.b4, .bool R.b5, .bool R.b6, .slice a l.length cap] 25)).cell? ⟨w.heap.size, j, none⟩ = some v) := fun j v hj => boxCells w _ _ j v hj
  have hC := vCal R l a cap _ hl (hr.below bA)
  by_cases hz : Wk.cchk R l = 0
  · have hb' : ¬ (1 ≤ x ∧ x ≤ 3651693 ∧ 1 ≤ y ∧ y ≤ 3651693) := hb.elim (fun h => absurd hz h) (fun h => h)
    have e0 : Wk.told R l (Wk.count R l x y) = (0, 3) := by unfold Wk.told Wk.count; rw [if_pos hz, if_neg hb']
    rw [e0]
    rw [hz] at hC
    clear e0 hb
    by_cases q1 : x < 1
    · clear hb'
      go_enter Tryd.func22, Tryd.ntmps22
      go_wp2_with fail
      refine hC.mono ?_
      rintro e w1 ⟨rfl, b1⟩
      have B1 := below_next bA (Nat.le_refl _) b1
      clear b1 hC
      go_wp2
      go_ret2
      exact ⟨rfl, B1⟩
    · have q1' : decide (x < 1) = false := decide_eq_false q1
      by_cases q2 : y < 1
      · clear hb'
        go_enter Tryd.func22, Tryd.ntmps22
        go_wp2_with fail
        refine hC.mono ?_
        rintro e w1 ⟨rfl, b1⟩
        have B1 := below_next bA (Nat.le_refl _) b1
        clear b1 hC
        go_wp2
        go_ret2
        exact ⟨rfl, B1⟩
      · have q2' : decide (y < 1) = false := decide_eq_false q2
        by_cases q3 : 3651693 < x
        · clear hb'
          go_enter Tryd.func22, Tryd.ntmps22
          go_wp2_with fail
          refine hC.mono ?_
          rintro e w1 ⟨rfl, b1⟩
          have B1 := below_next bA (Nat.le_refl _) b1
          clear b1 hC
          go_wp2
          go_ret2
          exact ⟨rfl, B1⟩
        · have q3' : decide (3651693 < x) = false := decide_eq_false q3
          have q4 : decide (3651693 < y) = true := decide_eq_true (by omega)
          clear hb'
          go_enter Tryd.func22, Tryd.ntmps22
          go_wp2_with fail
          refine hC.mono ?_
          rintro e w1 ⟨rfl, b1⟩
          have B1 := below_next bA (Nat.le_refl _) b1
          clear b1 hC
          go_wp2
          go_ret2
          exact ⟨rfl, B1⟩
  · have e0 : Wk.told R l (Wk.count R l x y) = (0, Wk.cchk R l) := by unfold Wk.told; rw [if_neg hz]
    rw [e0]
    have hne : (Wk.cchk R l != 0) = true := by simpa using hz
    clear e0 hb
    go_enter Tryd.func22, Tryd.ntmps22
    go_wp2_with fail
    refine hC.mono ?_
    rintro e w1 ⟨rfl, b1⟩
    have B1 := below_next bA (Nat.le_refl _) b1
    clear b1 hC
    go_wp2
    go_ret2
    exact ⟨rfl, B1⟩
set_option maxRecDepth 100000 in
set_option maxHeartbeats 1500000 in
theorem vCount_ok (R : Wk.Rst) (l : List Wk.Rl) (a : Option Addr) (cap : Nat) (x y : Int) (w : World) (hl : l.length ≤ maxLen) (hr : Row4 w a l) (hz : Wk.cchk R l = 0) (h1 : 1 ≤ x) (h2 : x ≤ 3651693) (h3 : 1 ≤ y) (h4 : y ≤ 3651693) :
    Calls Tryd.prog 22 #[calV R a l.length cap, .int .i64 x, .int .i64 y] w fun e w' => e = .returned (.tuple #[.int .i64 (Wk.told R l (Wk.count R l x y)).1, .int .i64 (Wk.told R l (Wk.count R l x y)).2]) ∧ Below w.heap.size w w' := by
  have bA := below_box w (.cells #[.bool R.b0, .bool R.b1, .bool R.b2, .bool R.b3, .bool R.b4, .bool R.b5, .bool R.b6, .slice a l.length cap] 25)
  have sA : w.heap.size < (w.alloc (.cells #[.bool R.b0, .bool R.b1, .bool R.b2, .bool R.b3, .bool R.b4, .bool R.b5, .bool R.b6, .slice a l.length cap] 25)).heap.size := by simp
  have HC : Hid (∀ j v, (#[.bool R.b0, .bool R.b1, .bool R.b2, .bool R.b3, .bool R.b4, .bool R.b5, .bool R.b6, .slice a l.length cap] : Array Value)[j]? = some v → (w.alloc (.cells #[.bool R.b0, .bool R.b1, .bool R.b2, .bool R.b3, .bool R.b4, .bool R.b5, .bool R.b6, .slice a l.length cap] 25)).cell? ⟨w.heap.size, j, none⟩ = some v) := fun j v hj => boxCells w _ _ j v hj
  have hC := vCal R l a cap _ hl (hr.below bA)
  rw [hz] at hC
  have e0 : Wk.told R l (Wk.count R l x y) = if y < x then (0, 4) else if 2000 < y - x then (0, 2) else (Wk.cnt R l x (y - x).toNat, 0) := by unfold Wk.told Wk.count; rw [if_pos hz, if_pos ⟨h1, h2, h3, h4⟩]
  rw [e0]
  clear e0
  have q1 : decide (x < 1) = false := decide_eq_false (by omega)
  have q2 : decide (y < 1) = false := decide_eq_false (by omega)
  have q3 : decide (3651693 < x) = false := decide_eq_false (by omega)
  have q4 : decide (3651693 < y) = false := decide_eq_false (by omega)
  have hw1 : IntKind.i64.wrap (x + 2000) = x + 2000 := by rw [IntKind.wrap_i64]; omega
  have hw2 : IntKind.i64.wrap (y - 1) = y - 1 := by rw [IntKind.wrap_i64]; omega
  by_cases c1 : y < x
  · rw [if_pos c1]
    go_enter Tryd.func22, Tryd.ntmps22
    go_wp2_with fail
    refine hC.mono ?_
    rintro e w1 ⟨rfl, b1⟩
    have B1 := below_next bA (Nat.le_refl _) b1
    clear b1 hC
    go_wp2
    go_ret2
    exact ⟨rfl, B1⟩
  · rw [if_neg c1]
    have c1' : decide (y < x) = false := decide_eq_false c1
    by_cases c2 : 2000 < y - x
    · rw [if_pos c2]
      have c2' : decide (x + 2000 < y) = true := decide_eq_true (by omega)
      go_enter Tryd.func22, Tryd.ntmps22
      go_wp2_with fail
      refine hC.mono ?_
      rintro e w1 ⟨rfl, b1⟩
      have B1 := below_next bA (Nat.le_refl _) b1
      clear b1 hC
      go_wp2
      go_ret2
      exact ⟨rfl, B1⟩
    · rw [if_neg c2]
      have c2' : decide (x + 2000 < y) = false := decide_eq_false (by omega)
      have HRES : Hid (Wk.cnt R l x (y - x).toNat = Wk.cnt R l x (y - x).toNat) := rfl
      go_enter Tryd.func22, Tryd.ntmps22
      go_wp2_with fail
      refine hC.mono ?_
      rintro e w1 ⟨rfl, b1⟩
      have B1 := below_next bA (Nat.le_refl _) b1
      have s1 : w.heap.size < w1.heap.size := Nat.lt_of_lt_of_le sA b1.size
      have HC1 : Hid (∀ j v, (#[.bool R.b0, .bool R.b1, .bool R.b2, .bool R.b3, .bool R.b4, .bool R.b5, .bool R.b6, .slice a l.length cap] : Array Value)[j]? = some v → w1.cell? ⟨w.heap.size, j, none⟩ = some v) := fun j v hj => (b1.cell (p := ⟨w.heap.size, j, none⟩) sA).trans (HC.out j v hj)
      clear b1 hC HC
      go_wp2
      clear q1 q2 q3 q4 c1' c2'
      go_loopw [9, 10] (fun s i wr => ∃ k : Nat, (k : Int) ≤ y - x ∧ i = .int .i64 (y - k - 1) ∧ s = .int .i64 (Wk.cnt R l (y - k) k) ∧ Below w1.heap.size w1 wr) (fun _ i _ => (intOf i - x + 1).toNat)
      case atStart => exact ⟨0, by simp; omega, by simp, rfl, Below.refl _ _⟩
      case round =>
        obtain ⟨k, hk, rfl, rfl, hnx⟩ := hrel
        have B2 := below_next B1 (Nat.le_refl _) hnx
        have hcb := Wk.cnt_bd R l (y - k) k
        by_cases hlt : (k : Int) < y - x
        · have hd : decide (x ≤ y - (k : Int) - 1) = true := decide_eq_true (by omega)
          have hw3 : IntKind.i64.wrap (y - (k : Int) - 1 - 1) = y - (k : Int) - 1 - 1 := by rw [IntKind.wrap_i64]; omega
          have HF : Hid (Wk.cnt R l (y - ((k + 1 : Nat) : Int)) (k + 1) = (if Wk.isW R l (y - k - 1) = true then 1 else 0) + Wk.cnt R l (y - k) k) := by
            unfold Hid
            have e1 : y - ((k + 1 : Nat) : Int) = y - k - 1 := by omega
            have e2 : y - (k : Int) - 1 + 1 = y - k := by omega
            rw [e1, Wk.cnt_front R l (y - k - 1) k, e2]
          generalize Wk.cnt R l (y - k) k = C at *
          have hw4 : IntKind.i64.wrap (C + 1) = C + 1 := by rw [IntKind.wrap_i64]; omega
          have HG : Hid (∀ j v, (#[.bool R.b0, .bool R.b1, .bool R.b2, .bool R.b3, .bool R.b4, .bool R.b5, .bool R.b6, .slice a l.length cap] : Array Value)[j]? = some v → wr.cell? ⟨w.heap.size, j, none⟩ = some v) := fun j v hj => (hnx.cell (p := ⟨w.heap.size, j, none⟩) s1).trans (HC1.out j v hj)
          have g0 := HG.out 0 _ rfl
          have g1 := HG.out 1 _ rfl
          have g2 := HG.out 2 _ rfl
          have g3 := HG.out 3 _ rfl
          have g4 := HG.out 4 _ rfl
          have g5 := HG.out 5 _ rfl
          have g6 := HG.out 6 _ rfl
          have g7 := HG.out 7 _ rfl
          go_wp2_with fail
          refine (vIsWork R l a cap (y - k - 1) wr hz (hr.below B2) (by omega) (by omega)).mono ?_
          rintro e w3 ⟨rfl, b3⟩
          have nx3 := below_next hnx (Nat.le_refl _) b3
          clear g0 g1 g2 g3 g4 g5 g6 g7
          clear b3 HG hnx B2 hd
          cases hW : Wk.isW R l (y - k - 1) with
          | true =>
            have HE : Hid (Wk.cnt R l (y - ((k + 1 : Nat) : Int)) (k + 1) = C + 1) := by unfold Hid; rw [HF.out, if_pos hW]; omega
            clear hW
            go_wp2
            go_roundw
            case rel => exact ⟨k + 1, by omega, by go_num, by rw [HE.out], nx3⟩
            case measure => simp [intOf]; omega
          | false =>
            have HE : Hid (Wk.cnt R l (y - ((k + 1 : Nat) : Int)) (k + 1) = C) := by unfold Hid; rw [HF.out, if_neg (by rw [hW]; decide)]; omega
            clear hW
            go_wp2
            go_roundw
            case rel => exact ⟨k + 1, by omega, by go_num, by rw [HE.out], nx3⟩
            case measure => simp [intOf]; omega
        · have hd : decide (x ≤ y - (k : Int) - 1) = false := decide_eq_false (by omega)
          have HE : Hid (Wk.cnt R l (y - k) k = Wk.cnt R l x (y - x).toNat) := by
            unfold Hid
            have e1 : y - (k : Int) = x := by omega
            have e2 : (y - x).toNat = k := by omega
            rw [e1, e2]
          generalize Wk.cnt R l (y - k) k = C at *
          clear hcb
          go_wp2
          go_ret2
          exact ⟨by rw [← HE.out] <;> rfl, B2⟩
theorem vWorkCount (R : Wk.Rst) (l : List Wk.Rl) (a : Option Addr) (cap : Nat) (x y : Int) (w : World) (hl : l.length ≤ maxLen) (hr : Row4 w a l) :
    Calls Tryd.prog 22 #[calV R a l.length cap, .int .i64 x, .int .i64 y] w fun e w' => e = .returned (.tuple #[.int .i64 (Wk.told R l (Wk.count R l x y)).1, .int .i64 (Wk.told R l (Wk.count R l x y)).2]) ∧ Below w.heap.size w w' := by
  by_cases hz : Wk.cchk R l = 0
  · by_cases h : 1 ≤ x ∧ x ≤ 3651693 ∧ 1 ≤ y ∧ y ≤ 3651693
    · exact vCount_ok R l a cap x y w hl hr hz h.1 h.2.1 h.2.2.1 h.2.2.2
    · exact vCount_bad R l a cap x y w hl hr (.inr h)
  · exact vCount_bad R l a cap x y w hl hr (.inl hz)
set_option maxRecDepth 100000 in
set_option maxHeartbeats 1000000 in
theorem vSame (xs : List Int) (a b : Option Addr) (ca cb : Nat) (w : World) (hl : xs.length ≤ 1000) (ha : Row1 w a xs) (hb : Row1 w b xs) :
    Calls Tryd.prog 14 #[.slice a xs.length ca, .slice b xs.length cb] w fun e w' => e = .returned (.bool true) ∧ Below w.heap.size w w' := by
  go_enter Tryd.func14, Tryd.ntmps14
  go_wp2
  go_loopw [5] (fun i wr => ∃ k : Nat, k ≤ xs.length ∧ i = .int .i64 k ∧ Below w.heap.size w wr) (fun i _ => xs.length - (intOf i).toNat)
  case atStart => exact ⟨0, Nat.zero_le _, rfl, Below.refl _ _⟩
  case round =>
    obtain ⟨k, hk, rfl, hnx⟩ := hrel
    by_cases hlt : k < xs.length
    · have hlt' : (k : Int) < (xs.length : Int) := by omega
      have hk0 : (0 : Int) ≤ (k : Int) := by omega
      obtain ⟨b1, o1, x, rfl, hb1, hx1, c1⟩ := (ha.below hnx).at hlt
      obtain ⟨b2, o2, x', rfl, hb2, hx2, c2⟩ := (hb.below hnx).at hlt
      obtain rfl : x = x' := Option.some.inj (hx1.symm.trans hx2)
      clear hx1 hx2
      go_wp2
      go_quiet (fail)
      go_wp2
      go_roundw
      case rel => exact ⟨k + 1, by omega, by go_num, below_drewN hnx _⟩
      case measure => simp [intOf]; omega
    · obtain rfl : k = xs.length := by omega
      go_wp2
      go_ret
      exact ⟨rfl, hnx⟩
end Go.Proofs.YtpjpmfcbddkjnaaDoor
