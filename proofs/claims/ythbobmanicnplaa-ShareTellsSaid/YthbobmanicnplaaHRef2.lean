/- The walks of the reference's shares by weights. -/
import Derived.Test.YthbobmanicnplaaHRef
namespace Go.Proofs.Ythbobmanicnplaa
open Go.RowKit Go.BigFrame Go.Sort

def wsum (T : Int) (l : List Int) : Int := if Shr.code T l = 0 then l.sum else 0
set_option maxHeartbeats 1000000 in
theorem wcheck_any (T : Int) (l : List Int) (a : Option Addr) (cap : Nat) (w : World) (hl : l.length ≤ maxLen) (hr : Row1 w a l) :
    Calls Try.prog 26 #[.int .i64 T, .slice a l.length cap] w fun e w' => e = .returned (.tuple #[.int .i64 (wsum T l), .int .i64 (Shr.code T l)]) ∧ Below w.heap.size w w' := by
  unfold maxLen at hl
  by_cases h1 : 32 < l.length
  · have hc : Shr.code T l = 2 := by unfold Shr.code; rw [if_pos h1]
    have HC : Hid (wsum T l = 0 ∧ Shr.code T l = 2) := ⟨by unfold wsum; rw [hc]; rfl, hc⟩
    clear hc
    go_enter Try.func26, Try.ntmps26
    go_wp2
    go_ret2
    exact ⟨by rw [HC.out.1, HC.out.2]; rfl, Below.refl _ _⟩
  by_cases h2 : T < 0 ∨ 100000 < T
  · have hc : Shr.code T l = 3 := by unfold Shr.code; rw [if_neg h1, if_pos h2]
    have HC : Hid (wsum T l = 0 ∧ Shr.code T l = 3) := ⟨by unfold wsum; rw [hc]; rfl, hc⟩
    clear hc
    rcases h2 with h2 | h2
    all_goals
      go_enter Try.func26, Try.ntmps26
      go_wp2
      go_ret2
      exact ⟨by rw [HC.out.1, HC.out.2]; rfl, Below.refl _ _⟩
  have HH : Hid (¬ 32 < l.length ∧ ¬ (T < 0 ∨ 100000 < T)) := ⟨h1, h2⟩
  have h1' : l.length ≤ 32 := by omega
  have h2a : 0 ≤ T := by omega
  have h2b : T ≤ 100000 := by omega
  clear h1 h2
  go_enter Try.func26, Try.ntmps26
  go_wp2
  go_loopw [6, 7] (fun s i wr => ∃ k : Nat, k ≤ l.length ∧ i = .int .i64 k ∧ s = .int .i64 (Shr.sm k (Shr.at' l)) ∧ Hid (Shr.bad (l.take k) = false ∧ 0 ≤ Shr.sm k (Shr.at' l) ∧ Shr.sm k (Shr.at' l) ≤ k * 100000) ∧ Below w.heap.size w wr) (fun _ i _ => l.length - (intOf i).toNat)
  case atStart => exact ⟨0, Nat.zero_le _, rfl, rfl, ⟨rfl, by rw [Shr.sm_zero]; decide, by rw [Shr.sm_zero]; decide⟩, Below.refl _ _⟩
  case round =>
    obtain ⟨k, hk, rfl, rfl, HM, Bw⟩ := hrel
    have hb := HM.out.2
    have HBw : Hid (Below w.heap.size w wr) := Bw
    by_cases hlt : k < l.length
    · obtain ⟨b, off, rfl, _, hx, c1⟩ := (hr.below Bw).get hlt
      have HX : Hid (l[k]? = some (Shr.at' l k)) := hx
      have kz : (k : Int) < (l.length : Int) := by omega
      clear hx Bw
      cases hax : Shr.wok (Shr.at' l k) with
      | true =>
        have hy := Shr.wok_yes _ hax
        have HB : Hid (Shr.bad (l.take (k + 1)) = false) := Shr.bad_take_succ l k _ HX.out HM.out.1 hax
        have HS : Hid (Shr.sm (k + 1) (Shr.at' l) = Shr.sm k (Shr.at' l) + Shr.at' l k) := Shr.sm_succ k _
        clear hax HX HM
        generalize Shr.sm k (Shr.at' l) = s at *
        generalize Shr.at' l k = x at *
        have hx0 : decide (x < 0) = false := by simp; omega
        have hx1 : decide (100000 < x) = false := by simp; omega
        go_wp2
        go_roundw
        case rel => exact ⟨k + 1, by omega, by go_num, by rw [HS.out], ⟨HB.out, by rw [HS.out]; omega, by rw [HS.out]; omega⟩, HBw.out⟩
        case measure => simp [intOf]; omega
      | false =>
        have hc : Shr.code T l = 3 := by
          unfold Shr.code
          rw [if_neg HH.out.1, if_neg HH.out.2, if_pos (Shr.bad_at l k _ HX.out hax)]
        have HC : Hid (wsum T l = 0 ∧ Shr.code T l = 3) := ⟨by unfold wsum; rw [hc]; rfl, hc⟩
        have hy := Shr.wok_no _ hax
        clear hax HX HM hc
        generalize Shr.sm k (Shr.at' l) = s at *
        generalize Shr.at' l k = x at *
        rcases hy with hy | hy
        all_goals
          go_wp2
          go_ret2
          exact ⟨by rw [HC.out.1, HC.out.2]; rfl, HBw.out⟩
    · obtain rfl : k = l.length := by omega
      have hbad : Shr.bad l = false := by have := HM.out.1; rwa [List.take_of_length_le (Nat.le_refl _)] at this
      have hsum := Shr.sum_at l
      by_cases hs : l.sum = 0
      · have hc : Shr.code T l = 5 := by
          unfold Shr.code
          rw [if_neg HH.out.1, if_neg HH.out.2, if_neg (by simp [hbad]), if_pos hs]
        have HC : Hid (wsum T l = 0 ∧ Shr.code T l = 5) := ⟨by unfold wsum; rw [hc]; rfl, hc⟩
        rw [hsum] at hs
        rw [hs]
        clear hc hs hsum hbad HM hb
        go_wp2
        go_ret2
        exact ⟨by rw [HC.out.1, HC.out.2]; rfl, HBw.out⟩
      · have hc : Shr.code T l = 0 := by
          unfold Shr.code
          rw [if_neg HH.out.1, if_neg HH.out.2, if_neg (by simp [hbad]), if_neg hs]
        have HC : Hid (wsum T l = Shr.sm l.length (Shr.at' l) ∧ Shr.code T l = 0) := ⟨by unfold wsum; rw [if_pos hc]; exact hsum, hc⟩
        have hs' : 0 < Shr.sm l.length (Shr.at' l) := by rw [hsum] at hs; omega
        clear hc hs hsum hbad HM
        generalize Shr.sm l.length (Shr.at' l) = s at *
        go_wp2
        all_goals first | (exfalso; rename_i hq; simp at hq; omega) | skip
        go_ret2
        exact ⟨by rw [HC.out.1, HC.out.2]; rfl, HBw.out⟩
theorem wcheck_at (T : Int) (l : List Int) (a : Option Addr) (cap : Nat) (s c : Int) (w : World) (hl : l.length ≤ maxLen) (hs : wsum T l = s) (hc : Shr.code T l = c) (hr : Row1 w a l) :
    Calls Try.prog 26 #[.int .i64 T, .slice a l.length cap] w fun e w' => e = .returned (.tuple #[.int .i64 s, .int .i64 c]) ∧ Below w.heap.size w w' := by
  subst hs hc; exact wcheck_any T l a cap w hl hr
theorem wsum_ok (T : Int) (l : List Int) (h : Shr.code T l = 0) : wsum T l = l.sum := by unfold wsum; rw [if_pos h]
theorem wsum_no (T : Int) (l : List Int) (h : Shr.code T l ≠ 0) : wsum T l = 0 := by unfold wsum; rw [if_neg h]
set_option maxHeartbeats 1000000 in
theorem refJeff_yes (T : Nat) (l : List Int) (a : Option Addr) (cap : Nat) (w : World) (ok : Shr.Ok T l) (hc : Shr.code T l = 0) (hr : Row1 w a l) :
    Calls Try.prog 14 #[.int .i64 T, .slice a l.length cap] w fun e w' => ∃ v, e = .returned (.tuple #[v, .int .i64 0]) ∧ OutI w w' v ((List.range l.length).map (Shr.jef (Shr.at' l) l.length T)) ∧ Below w.heap.size w w' := by
  have hl := ok.len
  have hn0 := ok.n0
  have hT : T ≤ 100000 := by have := ok.t1; omega
  have HX : Hid (∀ i, 0 ≤ Shr.at' l i ∧ Shr.at' l i ≤ 100000) := fun i => ok.get i
  have HC : Hid (Shr.code T l = 0) := hc
  have HWS : Hid (wsum T l = l.sum) := wsum_ok T l hc
  have hmk := make_ints l.length (by omega)
  clear ok hc
  go_enter Try.func14, Try.ntmps14
  go_wp2_with (go_at_call 26; refine (wcheck_at T l _ _ _ _ _ (by unfold maxLen; omega) HWS.out HC.out hr).mono ?_; rintro e w1 ⟨rfl, b1⟩)
  go_loopw [9, 10, 11] (fun iv _ _ wr => ∃ k : Nat, k ≤ T ∧ iv = .int .i64 k ∧ RowI wr w1.heap.size l.length (Shr.jef (Shr.at' l) l.length k) ∧ Below w1.heap.size w1 wr) (fun iv _ _ _ => T - (intOf iv).toNat)
  case atStart => exact ⟨0, Nat.zero_le _, rfl, (RowI.made w1 l.length).congr (fun i hi => rfl), below_box _ _⟩
  case round =>
    obtain ⟨k, hk, rfl, R, Bw⟩ := hrel
    by_cases hlt : k < T
    · have hkz : (k : Int) < (T : Int) := by omega
      have hjb := Shr.jef_bd (Shr.at' l) l.length k
      have HJ : Hid (∀ i, 0 ≤ Shr.jef (Shr.at' l) l.length k i ∧ Shr.jef (Shr.at' l) l.length k i ≤ 100000) := fun i => by have := hjb i; omega
      have HS : Hid (Shr.jef (Shr.at' l) l.length (k + 1) = Shr.inc (Shr.jef (Shr.at' l) l.length k) (Shr.jn (Shr.at' l) (Shr.jef (Shr.at' l) l.length k) l.length)) := Shr.jef_succ _ _ _
      have hnx := Shr.jn_bd (Shr.at' l) (Shr.jef (Shr.at' l) l.length k) l.length hn0
      have HR : Hid (RowI wr w1.heap.size l.length (Shr.jef (Shr.at' l) l.length k)) := R
      have HBw : Hid (Below w1.heap.size w1 wr) := Bw
      have HBall : Hid (Below w.heap.size w wr) := below_on b1 (Nat.le_refl _) Bw
      have HF : Hid (∀ (x : Int), x = Shr.jef (Shr.at' l) l.length k (Shr.jn (Shr.at' l) (Shr.jef (Shr.at' l) l.length k) l.length) → ∀ i, i < l.length → (if i = Shr.jn (Shr.at' l) (Shr.jef (Shr.at' l) l.length k) l.length then x + 1 else Shr.jef (Shr.at' l) l.length k i) = Shr.jef (Shr.at' l) l.length (k + 1) i) := by
        intro x hx i _
        rw [HS.out]
        unfold Shr.inc
        split
        · rename_i e; rw [e, hx]
        · rfl
      clear hjb R Bw HS
      generalize Shr.jef (Shr.at' l) l.length k = O at *
      go_wp2
      go_loopw [10, 11] (fun bv iv wr2 => ∃ j : Nat, 1 ≤ j ∧ j ≤ l.length ∧ iv = .int .i64 j ∧ bv = .int .i64 (Shr.jn (Shr.at' l) O j : Nat) ∧ Below wr.heap.size wr wr2) (fun _ iv _ => l.length - (intOf iv).toNat)
      case atStart => exact ⟨1, Nat.le_refl _, by omega, rfl, by rw [Shr.jn_one]; rfl, Below.refl _ _⟩
      case round =>
        obtain ⟨j, hj1, hj2, rfl, rfl, B2⟩ := hrel
        by_cases hlt2 : j < l.length
        · have r1 := (hr.below HBall.out).below B2
          have o1 := HR.out.below B2
          have hnx2 : Shr.jn (Shr.at' l) O j < l.length := by have := Shr.jn_lt (Shr.at' l) O j; omega
          have HY : Hid (Shr.at' l (Shr.jn (Shr.at' l) O j) * (O j + 1) < Shr.at' l j * (O (Shr.jn (Shr.at' l) O j) + 1) → Shr.jn (Shr.at' l) O (j + 1) = j) := Shr.jn_yes _ _ j
          have HN : Hid (¬ Shr.at' l (Shr.jn (Shr.at' l) O j) * (O j + 1) < Shr.at' l j * (O (Shr.jn (Shr.at' l) O j) + 1) → Shr.jn (Shr.at' l) O (j + 1) = Shr.jn (Shr.at' l) O j) := Shr.jn_not _ _ j
          have HB2 : Hid (Below _ _ wr) := B2
          generalize Shr.jn (Shr.at' l) O j = nx at *
          obtain ⟨b, off, ea, hb1, -, c1⟩ := r1.get hlt2
          obtain ⟨b', off', ea', -, -, c2⟩ := r1.get hnx2
          rw [ea] at ea'
          obtain ⟨rfl, rfl⟩ : b' = b ∧ off' = off := by simpa using ea'.symm
          clear ea'
          subst ea
          have d1 := o1.cell hlt2
          have d2 := o1.cell hnx2
          have x1 := HX.out j
          have x2 := HX.out nx
          have y1 := HJ.out j
          have y2 := HJ.out nx
          clear r1 o1 B2
          generalize Shr.at' l j = wi at *
          generalize Shr.at' l nx = wn at *
          generalize O j = oi at *
          generalize O nx = on at *
          have p1 := Shr.mul_bd wi (on + 1) 100000 100001 x1.1 x1.2 (by omega) (by omega)
          have p2 := Shr.mul_bd wn (oi + 1) 100000 100001 x2.1 x2.2 (by omega) (by omega)
          have kz : (j : Int) < (l.length : Int) := by omega
          have nz : (nx : Int) < (l.length : Int) := by omega
          go_wp2_with fail
          go_big_region
          have Bz := below_on HB2.out (Nat.le_refl _) (below_drewN (Below.refl _ wr) 1)
          by_cases hc : wn * (oi + 1) < wi * (on + 1)
          · have e1 := HY.out hc
            go_wp2
            go_roundw
            case rel => exact ⟨j + 1, by omega, by omega, by go_num, by rw [e1], Bz⟩
            case measure => simp [intOf]; omega
          · have e1 := HN.out (by first | exact hc | exact Int.not_lt.1 hc)
            go_wp2
            go_roundw
            case rel => exact ⟨j + 1, by omega, by omega, by go_num, by rw [e1], Bz⟩
            case measure => simp [intOf]; omega
        · obtain rfl : j = l.length := by omega
          have R2 := HR.out.below B2
          have BB := below_on HBw.out (Nat.le_refl _) B2
          have hj := HJ.out (Shr.jn (Shr.at' l) O l.length)
          have c1 := R2.cell hnx
          have f1 := R2.frozen (Shr.jn (Shr.at' l) O l.length)
          have HR2 : Hid (RowI wr w1.heap.size l.length O) := R2
          have HBB : Hid (Below w1.heap.size w1 wr) := BB
          clear R2 BB B2
          generalize Shr.jn (Shr.at' l) O l.length = nx at *
          generalize hv : O nx = vx at *
          clear hv
          have nz : (nx : Int) < (l.length : Int) := by omega
          go_wp2
          go_roundw
          case rel => exact ⟨k + 1, by omega, by go_num, (HR2.out.set nx _).congr (HF.out vx rfl), below_set HBB.out (Nat.le_refl _) _ _⟩
          case measure => simp [intOf]; omega
    · obtain rfl : k = T := by omega
      go_wp2
      go_ret2
      exact ⟨_, rfl, OutI.mk b1.size R, below_on b1 (Nat.le_refl _) Bw⟩
end Go.Proofs.Ythbobmanicnplaa
