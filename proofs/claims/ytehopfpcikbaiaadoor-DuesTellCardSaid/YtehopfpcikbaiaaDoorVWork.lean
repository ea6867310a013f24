/- The reference's days of work. -/
import Derived.Test.YtehopfpcikbaiaaDoorVHol
import Derived.Test.YtehopfpcikbaiaaDoorWIs
import Derived.Test.YtehopfpcikbaiaaDoorWk2ToWTop
namespace Go.Proofs.YtehopfpcikbaiaaDoor
open Go.RowKit

namespace Wk
theorem cnt_front (R : Rst) (L : List Rl) (n : Int) : ∀ k : Nat, cnt R L n (k + 1) = (if isW R L n = true then 1 else 0) + cnt R L (n + 1) k
  | 0 => by simp [cnt]
  | k + 1 => by
    have ih := cnt_front R L n k
    have e : n + 1 + (k : Int) = n + ((k + 1 : Nat) : Int) := by omega
    show cnt R L n (k + 1) + (if isW R L (n + ((k + 1 : Nat) : Int)) = true then 1 else 0) = (if isW R L n = true then 1 else 0) + (cnt R L (n + 1) k + (if isW R L (n + 1 + (k : Int)) = true then 1 else 0))
    rw [ih, e]; omega
end Wk
set_option maxRecDepth 100000 in
set_option maxHeartbeats 1500000 in
theorem vIsWork (R : Wk.Rst) (l : List Wk.Rl) (a : Option Addr) (cap : Nat) (n : Int) (w : World) (hz : Wk.cchk R l = 0) (hr : Row4 w a l) (h1 : 1 ≤ n) (h2 : n ≤ 3651693) :
    Calls Tryd.prog 55 #[calV R a l.length cap, .int .i64 n] w fun e w' => e = .returned (.bool (Wk.isW R l n)) ∧ Below w.heap.size w w' := by
  have hq := (Wk.cchk_zero R l).1 hz
  have bA := below_box w (.cells #[.bool R.b0, .bool R.b1, .bool R.b2, .bool R.b3, .bool R.b4, .bool R.b5, .bool R.b6, .slice a l.length cap] 25)
  have sA : w.heap.size < (w.alloc (.cells #[.bool R.b0, .bool R.b1, .bool R.b2, .bool R.b3, .bool R.b4, .bool R.b5, .bool R.b6, .slice a l.length cap] 25)).heap.size := by simp
  have HC : Hid (∀ j v, (#[.bool R.b0, .bool R.b1, .bool R.b2, .bool R.b3, .bool R.b4, .bool R.b5, .bool R.b6, .slice a l.length cap] : Array Value)[j]? = some v → (w.alloc (.cells #[.bool R.b0, .bool R.b1, .bool R.b2, .bool R.b3, .bool R.b4, .bool R.b5, .bool R.b6, .slice a l.length cap] 25)).cell? ⟨w.heap.size, j, none⟩ = some v) := fun j v hj => boxCells w _ _ j v hj
  obtain ⟨k, hk⟩ : ∃ k : Nat, (n - 1) % 7 = (k : Int) := ⟨((n - 1) % 7).toNat, by omega⟩
  have hk7 : k < 7 := by omega
  have HCK : Hid ((w.alloc (.cells #[.bool R.b0, .bool R.b1, .bool R.b2, .bool R.b3, .bool R.b4, .bool R.b5, .bool R.b6, .slice a l.length cap] 25)).cell? ⟨w.heap.size, k, none⟩ = some (.bool (R.at k))) := calCell R _ _ w k hk7
  have hwd : Cal.wday n = (k : Int) + 1 := by unfold Cal.wday; rw [hk]
  have HRE : Hid (R.rest n = R.at k) := by unfold Hid Wk.Rst.rest; rw [hk]
  obtain ⟨y, m, d, hv, hnum⟩ := Cal.ex_date n h1 (by omega)
  have ey : y = Cal.yr n := Cal.yr_is n y m d hv hnum
  have HYM : Hid (y ≤ 9998) := by
    unfold Hid
    have := Cal.yr_spec n
    have hy := hv.2.1
    by_cases c : y ≤ 9998
    · exact c
    · have e : Cal.yr n = 9999 := by omega
      rw [e] at this
      have e2 : Cal.ahead 9999 = 3651694 := by decide
      omega
  have hy1 : 1 ≤ y := hv.1
  have HE : Hid (Wk.isW R l n = !(R.at k || decide (n ∈ Wk.days R l y) || decide (n ∈ Wk.days R l (y - 1)))) := by unfold Hid Wk.isW; rw [HRE.out, ey]
  have HDO : Hid (∀ W, Calls Tryd.prog 51 #[.int .i64 n] W fun e w' => e = .returned (.tuple #[.agg #[.int .i64 y, .int .i64 m, .int .i64 d], .int .i64 0]) ∧ Below W.heap.size W w') := fun W => dateOf_ok n y m d W hv hnum
  have HV : Hid (∀ z W, z ≤ 9998 → Row4 W a l → Calls Tryd.prog 73 #[calV R a l.length cap, .int .i64 z, .int .i64 n] W fun e w' => e = .returned (.bool (decide (n ∈ Wk.days R l z))) ∧ Below W.heap.size W w') := fun z W hz' hrW => vIsHol R l a cap z n W hq.1 hq.2.1 hq.2.2 hrW hz' (by omega)
  have hk0 : (0 : Int) ≤ (k : Int) := by omega
  have hk7' : (k : Int) < 7 := by omega
  have hw1 : IntKind.i64.wrap ((k : Int) + 1 - 1) = k := by rw [IntKind.wrap_i64]; omega
  have hw2 : IntKind.i64.wrap (y - 1) = y - 1 := by have := HYM.out; rw [IntKind.wrap_i64]; omega
  clear hk hv hnum ey HRE hq hz
  generalize Wk.isW R l n = RES at *
  go_enter Tryd.func55, Tryd.ntmps55
  go_wp2_with fail
  refine (HDO.out _).mono ?_
  rintro e w1 ⟨rfl, b1⟩
  have B1 := below_next bA (Nat.le_refl _) b1
  have b2 := b1.alloc b1.size (.cells #[.int .i64 y, .int .i64 m, .int .i64 d] 57)
  have B2 := below_next bA (Nat.le_refl _) b2
  have s1 : w.heap.size < w1.heap.size := Nat.lt_of_lt_of_le sA b1.size
  have ck : w1.cell? ⟨w.heap.size, k, none⟩ = some (.bool (R.at k)) := (b1.cell (p := ⟨w.heap.size, k, none⟩) sA).trans HCK.out
  have HC1 : Hid (∀ j v, (#[.bool R.b0, .bool R.b1, .bool R.b2, .bool R.b3, .bool R.b4, .bool R.b5, .bool R.b6, .slice a l.length cap] : Array Value)[j]? = some v → w1.cell? ⟨w.heap.size, j, none⟩ = some v) := fun j v hj => (b1.cell (p := ⟨w.heap.size, j, none⟩) sA).trans (HC.out j v hj)
  have hne : w.heap.size ≠ w1.heap.size := by omega
  have HC2 : Hid (∀ j v, (#[.bool R.b0, .bool R.b1, .bool R.b2, .bool R.b3, .bool R.b4, .bool R.b5, .bool R.b6, .slice a l.length cap] : Array Value)[j]? = some v → (w1.alloc (.cells #[.int .i64 y, .int .i64 m, .int .i64 d] 57)).cell? ⟨w.heap.size, j, none⟩ = some v) := fun j v hj => (b2.cell (p := ⟨w.heap.size, j, none⟩) sA).trans (HC.out j v hj)
  have c0 : (w1.alloc (.cells #[.int .i64 y, .int .i64 m, .int .i64 d] 57)).cell? ⟨w1.heap.size, 0, none⟩ = some (.int .i64 y) := by simp
  have s2 : w1.heap.size < (w1.alloc (.cells #[.int .i64 y, .int .i64 m, .int .i64 d] 57)).heap.size := by simp
  have s3 : w.heap.size < (w1.alloc (.cells #[.int .i64 y, .int .i64 m, .int .i64 d] 57)).heap.size := by simp; omega
  have HCC : Hid (_) := c0
  clear c0 b1 b2 HCK HDO HC
  cases hrest : R.at k with
  | true =>
    have HR2 : Hid (RES = false) := by unfold Hid; rw [HE.out, hrest]; rfl
    rw [hrest] at ck
    clear hrest
    go_wp2_with (go_at_call 72; refine (dow_any n _ h1 (by omega)).mono ?_; rintro e w3 ⟨rfl, rfl⟩; rw [hwd])
    go_ret
    exact ⟨ret_bool HR2.out.symm, B2⟩
  | false =>
    rw [hrest] at HE ck
    clear hrest
    go_wp2_with fail
    refine (dow_any n _ h1 (by omega)).mono ?_
    rintro e w3 ⟨rfl, rfl⟩
    rw [hwd]
    have g0 := HC1.out 0 _ rfl
    have g1 := HC1.out 1 _ rfl
    have g2 := HC1.out 2 _ rfl
    have g3 := HC1.out 3 _ rfl
    have g4 := HC1.out 4 _ rfl
    have g5 := HC1.out 5 _ rfl
    have g6 := HC1.out 6 _ rfl
    have g7 := HC1.out 7 _ rfl
    go_wp2_with fail
    clear HC1 ck
    clear g0 g1 g2 g3 g4 g5 g6 g7
    generalize w1.alloc (.cells #[.int .i64 y, .int .i64 m, .int .i64 d] 57) = w2 at *
    refine (HV.out y w2 HYM.out (hr.below B2)).mono ?_
    rintro e w4 ⟨rfl, b4⟩
    have B4 := below_next B2 (Nat.le_refl _) b4
    have c4 : w4.cell? ⟨w1.heap.size, 0, none⟩ = some (.int .i64 y) := (b4.cell (p := ⟨w1.heap.size, 0, none⟩) s2).trans HCC.out
    have HC4 : Hid (∀ j v, (#[.bool R.b0, .bool R.b1, .bool R.b2, .bool R.b3, .bool R.b4, .bool R.b5, .bool R.b6, .slice a l.length cap] : Array Value)[j]? = some v → w4.cell? ⟨w.heap.size, j, none⟩ = some v) := fun j v hj => (b4.cell (p := ⟨w.heap.size, j, none⟩) s3).trans (HC2.out j v hj)
    clear b4 HC2 HCC B2
    cases hin : decide (n ∈ Wk.days R l y) with
    | true =>
      have HR2 : Hid (RES = false) := by unfold Hid; rw [HE.out, hin]; rfl
      clear hin
      go_wp2
      go_ret
      exact ⟨ret_bool HR2.out.symm, B4⟩
    | false =>
      rw [hin] at HE
      clear hin
      have g0 := HC4.out 0 _ rfl
      have g1 := HC4.out 1 _ rfl
      have g2 := HC4.out 2 _ rfl
      have g3 := HC4.out 3 _ rfl
      have g4 := HC4.out 4 _ rfl
      have g5 := HC4.out 5 _ rfl
      have g6 := HC4.out 6 _ rfl
      have g7 := HC4.out 7 _ rfl
      go_wp2_with fail
      refine (HV.out (y - 1) w4 (by have := HYM.out; omega) (hr.below B4)).mono ?_
      rintro e w5 ⟨rfl, b5⟩
      have B5 := below_next B4 (Nat.le_refl _) b5
      clear g0 g1 g2 g3 g4 g5 g6 g7
      clear b5 HC4 B4 c4
      cases hin2 : decide (n ∈ Wk.days R l (y - 1)) with
      | true =>
        have HR2 : Hid (RES = false) := by unfold Hid; rw [HE.out, hin2]; rfl
        clear hin2
        go_wp2
        go_ret
        exact ⟨ret_bool HR2.out.symm, B5⟩
      | false =>
        have HR2 : Hid (RES = true) := by unfold Hid; rw [HE.out, hin2]; rfl
        clear hin2
        go_wp2
        go_ret
        exact ⟨ret_bool HR2.out.symm, B5⟩
set_option maxRecDepth 100000 in
set_option maxHeartbeats 1000000 in
theorem vWorkIs (R : Wk.Rst) (l : List Wk.Rl) (a : Option Addr) (cap : Nat) (n : Int) (w : World) (hl : l.length ≤ maxLen) (hr : Row4 w a l) :
    Calls Tryd.prog 35 #[calV R a l.length cap, .int .i64 n] w fun e w' => e = .returned (.tuple #[.bool (Wk.isB R l n), .int .i64 (Wk.isC R l n)]) ∧ Below w.heap.size w w' := by
  have bA := below_box w (.cells #[.bool R.b0, .bool R.b1, .bool R.b2, .bool R.b3, .bool R.b4, .bool R.b5, .bool R.b6, .slice a l.length cap] 25)
  have sA : w.heap.size < (w.alloc (.cells #[.bool R.b0, .bool R.b1, .bool R.b2, .bool R.b3, .bool R.b4, .bool R.b5, .bool R.b6, .slice a l.length cap] 25)).heap.size := by simp
  have HC : Hid (∀ j v, (#[.bool R.b0, .bool R.b1, .bool R.b2, .bool R.b3, .bool R.b4, .bool R.b5, .bool R.b6, .slice a l.length cap] : Array Value)[j]? = some v → (w.alloc (.cells #[.bool R.b0, .bool R.b1, .bool R.b2, .bool R.b3, .bool R.b4, .bool R.b5, .bool R.b6, .slice a l.length cap] 25)).cell? ⟨w.heap.size, j, none⟩ = some v) := fun j v hj => boxCells w _ _ j v hj
  have hC := vCal R l a cap _ hl (hr.below bA)
  by_cases hz : Wk.cchk R l = 0
  · rw [hz] at hC
    by_cases hn1 : n < 1
    · have HE : Hid (Wk.isC R l n = 3 ∧ Wk.isB R l n = false) := by
        exact ⟨by unfold Wk.isC; rw [if_pos hz, if_neg (by omega)], by unfold Wk.isB; rw [decide_eq_false (show ¬ (1 ≤ n ∧ n ≤ 3651693) by omega)]; simp⟩
      rw [HE.out.1, HE.out.2]
      go_enter Tryd.func35, Tryd.ntmps35
      go_wp2_with fail
      refine hC.mono ?_
      rintro e w1 ⟨rfl, b1⟩
      have B1 := below_next bA (Nat.le_refl _) b1
      clear b1 hC
      go_wp2
      go_ret2
      exact ⟨rfl, B1⟩
    · have hn1' : decide (n < 1) = false := decide_eq_false hn1
      by_cases hn2 : 3651693 < n
      · have HE : Hid (Wk.isC R l n = 3 ∧ Wk.isB R l n = false) := by
          exact ⟨by unfold Wk.isC; rw [if_pos hz, if_neg (by omega)], by unfold Wk.isB; rw [decide_eq_false (show ¬ (1 ≤ n ∧ n ≤ 3651693) by omega)]; simp⟩
        rw [HE.out.1, HE.out.2]
        go_enter Tryd.func35, Tryd.ntmps35
        go_wp2_with fail
        refine hC.mono ?_
        rintro e w1 ⟨rfl, b1⟩
        have B1 := below_next bA (Nat.le_refl _) b1
        clear b1 hC
        go_wp2
        go_ret2
        exact ⟨rfl, B1⟩
      · have hn2' : decide (3651693 < n) = false := decide_eq_false hn2
        have HE : Hid (Wk.isC R l n = 0 ∧ Wk.isB R l n = Wk.isW R l n) := by
          exact ⟨by unfold Wk.isC; rw [if_pos hz, if_pos (by omega)], by unfold Wk.isB; rw [decide_eq_true hz, decide_eq_true (show 1 ≤ n ∧ n ≤ 3651693 by omega)]; rfl⟩
        rw [HE.out.1, HE.out.2]
        go_enter Tryd.func35, Tryd.ntmps35
        go_wp2_with fail
        refine hC.mono ?_
        rintro e w1 ⟨rfl, b1⟩
        have B1 := below_next bA (Nat.le_refl _) b1
        have HC1 : Hid (∀ j v, (#[.bool R.b0, .bool R.b1, .bool R.b2, .bool R.b3, .bool R.b4, .bool R.b5, .bool R.b6, .slice a l.length cap] : Array Value)[j]? = some v → w1.cell? ⟨w.heap.size, j, none⟩ = some v) := fun j v hj => (b1.cell (p := ⟨w.heap.size, j, none⟩) sA).trans (HC.out j v hj)
        clear b1 hC HC
        have g0 := HC1.out 0 _ rfl
        have g1 := HC1.out 1 _ rfl
        have g2 := HC1.out 2 _ rfl
        have g3 := HC1.out 3 _ rfl
        have g4 := HC1.out 4 _ rfl
        have g5 := HC1.out 5 _ rfl
        have g6 := HC1.out 6 _ rfl
        have g7 := HC1.out 7 _ rfl
        go_wp2_with fail
        refine (vIsWork R l a cap n w1 hz (hr.below B1) (by omega) (by omega)).mono ?_
        rintro e w2 ⟨rfl, b2⟩
        have B2 := below_next B1 (Nat.le_refl _) b2
        clear g0 g1 g2 g3 g4 g5 g6 g7
        clear b2 HC1
        go_wp2
        go_ret2
        exact ⟨rfl, B2⟩
  · have HE : Hid (Wk.isC R l n = Wk.cchk R l ∧ Wk.isB R l n = false) := by
      exact ⟨by unfold Wk.isC; rw [if_neg hz], by unfold Wk.isB; rw [decide_eq_false hz]; simp⟩
    rw [HE.out.1, HE.out.2]
    have hne : (Wk.cchk R l != 0) = true := by simpa using hz
    have hne2 : (Wk.cchk R l == 0) = false := by simpa using hz
    go_enter Tryd.func35, Tryd.ntmps35
    go_wp2_with fail
    refine hC.mono ?_
    rintro e w1 ⟨rfl, b1⟩
    have B1 := below_next bA (Nat.le_refl _) b1
    clear b1 hC
    go_wp2
    go_ret2
    exact ⟨rfl, B1⟩
end Go.Proofs.YtehopfpcikbaiaaDoor
