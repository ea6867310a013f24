/- The reference's question whether a day is a holiday of a year. -/
import Derived.Test.YtehopfpcikbaiaaDoorVDay2
namespace Go.Proofs.YtehopfpcikbaiaaDoor
open Go.RowKit

namespace Wk
/-- the day of a rule in a year; 0: there is none -/
def rd0 (R : Rst) (y : Int) (r : Rl) : Int := match rday R y r with | some n => n | none => 0
theorem rd0_iff (R : Rst) (y : Int) (r : Rl) (n : Int) (hn : n ≠ 0) : (rd0 R y r = n ↔ rday R y r = some n) := by
  unfold rd0
  cases h : rday R y r with
  | none => simp; omega
  | some z => simp
theorem days_hit (R : Rst) (L : List Rl) (y n : Int) (k : Nat) (r : Rl) (h : L[k]? = some r) (hd : rday R y r = some n) : n ∈ days R L y := by
  unfold days
  rw [List.mem_filterMap]
  exact ⟨r, List.mem_of_getElem? h, hd⟩
theorem days_miss (R : Rst) (L : List Rl) (y n : Int) (k : Nat) (r : Rl) (h : L[k]? = some r) (h0 : n ∉ days R (L.take k) y) (hd : rday R y r ≠ some n) : n ∉ days R (L.take (k + 1)) y := by
  rw [days_succ R L y k r h]
  intro hm
  rcases List.mem_append.1 hm with hm | hm
  · exact h0 hm
  · cases hr : rday R y r with
    | none => rw [hr] at hm; cases hm
    | some z =>
      rw [hr] at hm
      have : n = z := by simpa using hm
      subst this
      exact hd hr
theorem days_low (R : Rst) (L : List Rl) (y : Int) (h : y < 1) : days R L y = [] := by
  unfold days
  rw [List.filterMap_eq_nil_iff]
  intro r _
  unfold rday; rw [if_pos h]
end Wk
theorem vRuleDay (R : Wk.Rst) (a : Option Addr) (len cap : Nat) (k m d wd y : Int) (w : World) (hR : R.all = false) (hr : Wk.rchk (k, m, d, wd) = 0) (h1 : 1 ≤ y) (h2 : y ≤ 9998) :
    Calls Tryd.prog 78 #[calV R a len cap, .agg #[.int .i64 k, .int .i64 m, .int .i64 d, .int .i64 wd], .int .i64 y] w fun e w' => e = .returned (.int .i64 (Wk.rd0 R y (k, m, d, wd))) ∧ Below w.heap.size w w' := by
  have hz := Wk.rchk_zero _ hr
  dsimp only at hz
  rcases hz with ⟨rfl, m1, m2, d1, d2, rfl⟩ | ⟨rfl, m1, m2, d1, d2, w1, w2⟩ | ⟨rfl, rfl, rfl, d1, d2⟩
  · have e : Wk.rd0 R y (1, m, d, 0) = Wk.push R (Cal.num y m d) := by unfold Wk.rd0 Wk.rday; rw [if_neg (by omega), if_pos rfl]
    rw [e]
    exact vFixed R a len cap m d 0 y w hR ⟨h1, by omega, m1, m2, d1, Wk.mlen_each y m d d2⟩ h2
  · have e : Wk.rd0 R y (2, m, d, wd) = Wk.nth y m d wd := by unfold Wk.rd0 Wk.rday; rw [if_neg (by omega), if_neg (by simp), if_pos rfl]
    rw [e]
    exact vNth R a len cap m d wd y w h1 h2 m1 m2 d1 d2 w1 w2
  · have e : Wk.rd0 R y (3, 0, d, 0) = if 1583 ≤ y then Cal.easter y + d else 0 := by
      unfold Wk.rd0 Wk.rday
      rw [if_neg (by omega), if_neg (by simp), if_neg (by simp)]
      by_cases c : 1583 ≤ y
      · rw [if_pos c, if_pos c]
      · rw [if_neg c, if_neg c]
    rw [e]
    exact vMoving R a len cap d y w h2 d1 d2
set_option maxRecDepth 100000 in
set_option maxHeartbeats 2000000 in
theorem vIsHol (R : Wk.Rst) (l : List Wk.Rl) (a : Option Addr) (cap : Nat) (y n : Int) (w : World) (hR : R.all = false) (hl : l.length ≤ 12) (hc : ∀ r ∈ l, Wk.rchk r = 0) (hr : Row4 w a l) (h2 : y ≤ 9998) (hn : n ≠ 0) :
    Calls Tryd.prog 73 #[calV R a l.length cap, .int .i64 y, .int .i64 n] w fun e w' => e = .returned (.bool (decide (n ∈ Wk.days R l y))) ∧ Below w.heap.size w w' := by
  have HR : Hid (Row4 w a l) := hr
  have HCK : Hid (∀ r ∈ l, Wk.rchk r = 0) := hc
  have HALL : Hid (R.all = false) := hR
  have HNZ : Hid (n ≠ 0) := hn
  clear hr hc hR hn
  have bA := below_box w (.cells #[.bool R.b0, .bool R.b1, .bool R.b2, .bool R.b3, .bool R.b4, .bool R.b5, .bool R.b6, .slice a l.length cap] 25)
  have sA : w.heap.size < (w.alloc (.cells #[.bool R.b0, .bool R.b1, .bool R.b2, .bool R.b3, .bool R.b4, .bool R.b5, .bool R.b6, .slice a l.length cap] 25)).heap.size := by simp
  have HC : Hid (∀ j v, (#[.bool R.b0, .bool R.b1, .bool R.b2, .bool R.b3, .bool R.b4, .bool R.b5, .bool R.b6, .slice a l.length cap] : Array Value)[j]? = some v → (w.alloc (.cells #[.bool R.b0, .bool R.b1, .bool R.b2, .bool R.b3, .bool R.b4, .bool R.b5, .bool R.b6, .slice a l.length cap] 25)).cell? ⟨w.heap.size, j, none⟩ = some v) := fun j v hj => boxCells w _ _ j v hj
  have HLOW : Hid (y < 1 → Wk.days R l y = []) := Wk.days_low R l y
  have HMEM : Hid (∀ b, decide (n ∈ Wk.days R l y) = b → Ending.returned (.bool b) = .returned (.bool (decide (n ∈ Wk.days R l y)))) := fun b h => by rw [h]
  go_enter Tryd.func73, Tryd.ntmps73
  go_wp2
  generalize w.alloc (.cells #[.bool R.b0, .bool R.b1, .bool R.b2, .bool R.b3, .bool R.b4, .bool R.b5, .bool R.b6, .slice a l.length cap] 25) = wA at *
  go_loopw [7] (fun i wr => ∃ k : Nat, k ≤ l.length ∧ i = .int .i64 k ∧ n ∉ Wk.days R (l.take k) y ∧ Below wA.heap.size wA wr) (fun i _ => l.length - (intOf i).toNat)
  case atStart => exact ⟨0, Nat.zero_le _, rfl, by simp [Wk.days], Below.refl _ _⟩
  case round =>
    obtain ⟨k, hk, rfl, hm, hnx⟩ := hrel
    have HM : Hid (n ∉ Wk.days R (l.take k) y) := hm
    clear hm
    have B1 := below_next bA (Nat.le_refl _) hnx
    have c7 : wr.cell? ⟨w.heap.size, 7, none⟩ = some (.slice a l.length cap) := (hnx.cell (p := ⟨w.heap.size, 7, none⟩) sA).trans (HC.out 7 _ rfl)
    by_cases hlt : k < l.length
    · have hlt' : (k : Int) < (l.length : Int) := by omega
      have hk0 : (0 : Int) ≤ (k : Int) := by omega
      obtain ⟨b, off, x1, x2, x3, x4, rfl, hb, hx, c1, c2, c3, c4⟩ := (HR.out.below B1).lies hlt
      have hck := HCK.out _ (List.mem_of_getElem? hx)
      have HX : Hid (l[k]? = some (x1, x2, x3, x4)) := hx
      clear hx
      by_cases hy : 1 ≤ y
      · have HV : Hid (∀ W, Calls Tryd.prog 78 #[calV R (some ⟨b, off, none⟩) l.length cap, .agg #[.int .i64 x1, .int .i64 x2, .int .i64 x3, .int .i64 x4], .int .i64 y] W fun e w' => e = .returned (.int .i64 (Wk.rd0 R y (x1, x2, x3, x4))) ∧ Below W.heap.size W w') := fun W => vRuleDay R _ l.length cap x1 x2 x3 x4 y W HALL.out hck hy h2
        have HI := Wk.rd0_iff R y (x1, x2, x3, x4) n HNZ.out
        have g : ∀ j v, (#[.bool R.b0, .bool R.b1, .bool R.b2, .bool R.b3, .bool R.b4, .bool R.b5, .bool R.b6, .slice (some ⟨b, off, none⟩) l.length cap] : Array Value)[j]? = some v → wr.cell? ⟨w.heap.size, j, none⟩ = some v := fun j v hj => (hnx.cell (p := ⟨w.heap.size, j, none⟩) sA).trans (HC.out j v hj)
        have g0 := cell_regrown (g 0 _ rfl)
        have g1 := cell_regrown (g 1 _ rfl)
        have g2 := cell_regrown (g 2 _ rfl)
        have g3 := cell_regrown (g 3 _ rfl)
        have g4 := cell_regrown (g 4 _ rfl)
        have g5 := cell_regrown (g 5 _ rfl)
        have g6 := cell_regrown (g 6 _ rfl)
        have g7 := cell_regrown (g 7 _ rfl)
        have r1 := cell_regrown c1
        have r2 := cell_regrown c2
        have r3 := cell_regrown c3
        have r4 := cell_regrown c4
        clear g hck
        generalize Wk.rd0 R y (x1, x2, x3, x4) = D at *
        by_cases hd : D = n
        · have hdb : (D == n) = true := by simpa using hd
          have HT : Hid (decide (n ∈ Wk.days R l y) = true) := decide_eq_true (Wk.days_hit R l y n k _ HX.out (HI.1 hd))
          clear hd HI
          go_wp2
          refine wp_region_quiet_below (by kernel_rfl) (by kernel_rfl) ?_
          repeat go_big_quiet_step (first
            | (go_at_call 78; exact Calls.regrown_of (HV.out _)))
          refine wpQuiet_nil ?_
          intro _ hw'
          obtain ⟨⟨dq, osq⟩, hw''⟩ := hw'
          subst hw''
          have nxq := below_next B1 (Nat.le_refl _) (below_regrown wr dq osq)
          clear g0 g1 g2 g3 g4 g5 g6 g7 r1 r2 r3 r4
          go_wp2
          go_ret
          exact ⟨HMEM.out true HT.out, nxq⟩
        · have hdb : (D == n) = false := by simpa using hd
          have HN2 : Hid (n ∉ Wk.days R (l.take (k + 1)) y) := Wk.days_miss R l y n k _ HX.out HM.out (fun q => hd (HI.2 q))
          clear hd HI
          go_wp2
          refine wp_region_quiet_below (by kernel_rfl) (by kernel_rfl) ?_
          repeat go_big_quiet_step (first
            | (go_at_call 78; exact Calls.regrown_of (HV.out _)))
          refine wpQuiet_nil ?_
          intro _ hw'
          obtain ⟨⟨dq, osq⟩, hw''⟩ := hw'
          subst hw''
          have nxq := below_next hnx (Nat.le_refl _) (below_regrown wr dq osq)
          clear g0 g1 g2 g3 g4 g5 g6 g7 r1 r2 r3 r4
          go_wp2
          go_roundw
          case rel => exact ⟨k + 1, by omega, by go_num, HN2.out, nxq⟩
          case measure => simp [intOf]; omega
      · have hyd : decide (1 ≤ y) = false := decide_eq_false hy
        have HN2 : Hid (n ∉ Wk.days R (l.take (k + 1)) y) := by unfold Hid; rw [Wk.days_low R _ y (by omega)]; simp
        go_wp2
        go_quiet (fail)
        go_wp2
        go_roundw
        case rel => exact ⟨k + 1, by omega, by go_num, HN2.out, below_drewN hnx _⟩
        case measure => simp [intOf]; omega
    · obtain rfl : k = l.length := by omega
      have hm := HM.out
      rw [List.take_length] at hm
      have HT : Hid (decide (n ∈ Wk.days R l y) = false) := decide_eq_false hm
      clear hm
      go_wp2
      go_ret
      exact ⟨HMEM.out false HT.out, B1⟩
end Go.Proofs.YtehopfpcikbaiaaDoor
