/- The reference's holidays of a year, day by day. -/
import Derived.Test.YtpjpmfcbddkjnaaDoorVCnt
namespace Go.Proofs.YtpjpmfcbddkjnaaDoor
open Go.RowKit

namespace Wk
variable (R : Rst) (L : List Rl) (y : Int)
/-- the holidays among k days from lo on -/
def scan (lo : Int) : Nat → List Int
  | 0 => []
  | k + 1 => scan lo k ++ (if lo + k ≠ 0 ∧ lo + k ∈ days R L y then [lo + (k : Int)] else [])
theorem scan_len (lo : Int) : ∀ k, (scan R L y lo k).length ≤ k
  | 0 => by simp [scan]
  | k + 1 => by
    have := scan_len lo k
    unfold scan
    split <;> simp <;> omega
theorem scan_mem (lo : Int) : ∀ (k : Nat) (n : Int), n ∈ scan R L y lo k ↔ lo ≤ n ∧ n < lo + k ∧ n ≠ 0 ∧ n ∈ days R L y
  | 0, n => by simp [scan]; omega
  | k + 1, n => by
    have ih := scan_mem lo k n
    unfold scan
    rw [List.mem_append, ih]
    by_cases c : lo + (k : Int) ≠ 0 ∧ lo + (k : Int) ∈ days R L y
    · rw [if_pos c, List.mem_singleton]
      constructor
      · rintro (h | rfl)
        · exact ⟨h.1, by omega, h.2.2⟩
        · exact ⟨by omega, by omega, c.1, c.2⟩
      · rintro ⟨h1, h2, h3, h4⟩
        by_cases e : n = lo + k
        · exact .inr e
        · exact .inl ⟨h1, by omega, h3, h4⟩
    · rw [if_neg c]
      constructor
      · rintro (h | h)
        · exact ⟨h.1, by omega, h.2.2⟩
        · cases h
      · rintro ⟨h1, h2, h3, h4⟩
        by_cases e : n = lo + k
        · subst e; exact absurd ⟨h3, h4⟩ c
        · exact .inl ⟨h1, by omega, h3, h4⟩
theorem scan_rises (lo : Int) : ∀ k : Nat, (scan R L y lo k).Pairwise (· < ·)
  | 0 => by simp [scan]
  | k + 1 => by
    have ih := scan_rises lo k
    unfold scan
    rw [List.pairwise_append]
    refine ⟨ih, ?_, ?_⟩
    · split <;> simp
    · intro a ha b hb
      have h := (scan_mem R L y lo k a).1 ha
      split at hb
      · have : b = lo + k := by simpa using hb
        omega
      · cases hb
theorem num_year (m d : Int) (hv : Cal.vld y m d) : Cal.num y 1 1 ≤ Cal.num y m d ∧ Cal.num y m d ≤ Cal.num y 12 31 := by
  have h := Cal.num_bd y m d hv
  have e1 : Cal.num y 1 1 = Cal.ahead y + 1 := by unfold Cal.num; rw [Cal.cum_1]; omega
  have e2 : Cal.num y 12 31 = Cal.ahead (y + 1) := by
    rw [Cal.ahead_succ]
    unfold Cal.num Cal.cum; simp; omega
  omega
/-- where a year's holidays may lie -/
theorem days_range (h1 : 1 ≤ y) (h2 : y ≤ 9998) (hR : R.all = false) (hc : ∀ r ∈ L, rchk r = 0) (n : Int) (hn : n ∈ days R L y) : Cal.num y 1 1 - 40 ≤ n ∧ n < Cal.num y 12 31 + 10 ∧ n ≠ 0 := by
  unfold days at hn
  rw [List.mem_filterMap] at hn
  obtain ⟨⟨k, m, d, wd⟩, hr, hd⟩ := hn
  have hz := rchk_zero _ (hc _ hr)
  dsimp only at hz
  have e1 : Cal.num y 1 1 = Cal.ahead y + 1 := by unfold Cal.num; rw [Cal.cum_1]; omega
  have ha := Cal.ahead_bd y h1 (by omega)
  rcases hz with ⟨rfl, m1, m2, d1, d2, rfl⟩ | ⟨rfl, m1, m2, d1, d2, w1, w2⟩ | ⟨rfl, rfl, rfl, d1, d2⟩
  · have e : rday R y (1, m, d, 0) = some (push R (Cal.num y m d)) := by unfold rday; rw [if_neg (by omega), if_pos rfl]
    rw [e] at hd
    obtain rfl := Option.some.inj hd
    have hv : Cal.vld y m d := ⟨h1, by omega, m1, m2, d1, mlen_each y m d d2⟩
    have p := push_spec R hR (Cal.num y m d)
    have q := num_year y m d hv
    omega
  · have e : rday R y (2, m, d, wd) = some (nth y m d wd) := by unfold rday; rw [if_neg (by omega), if_neg (by simp), if_pos rfl]
    rw [e] at hd
    obtain rfl := Option.some.inj hd
    have ml := Cal.mlen_bd y m
    have f := nth_facts y m d wd h1 h2 m1 m2 d1 d2
    have q1 := num_year y m 1 ⟨h1, by omega, m1, m2, by omega, by omega⟩
    have q2 := num_year y m (Cal.mlen y m) ⟨h1, by omega, m1, m2, by omega, by omega⟩
    have e3 : Cal.num y m (Cal.mlen y m) = Cal.num y m 1 + Cal.mlen y m - 1 := by unfold Cal.num; omega
    unfold nth
    split <;> omega
  · by_cases hy : 1583 ≤ y
    · have e : rday R y (3, 0, d, 0) = some (Cal.easter y + d) := by unfold rday; rw [if_neg (by omega), if_neg (by simp), if_neg (by simp), if_pos hy]
      rw [e] at hd
      obtain rfl := Option.some.inj hd
      have g := Cal.goodE_of y hy (by omega)
      have g1 := g.2.2.1
      have g2 := g.2.2.2.1
      have e3 : Cal.num y 3 22 = Cal.ahead y + 59 + Cal.lp y + 22 := by unfold Cal.num Cal.cum; simp; omega
      have e4 : Cal.num y 4 25 = Cal.ahead y + 90 + Cal.lp y + 25 := by unfold Cal.num Cal.cum; simp; omega
      have e5 : Cal.num y 12 31 = Cal.ahead y + 334 + Cal.lp y + 31 := by unfold Cal.num Cal.cum; simp; omega
      have l := Cal.lp_bd y
      have am := Cal.ahead_mono 1583 y hy
      have ea : 1000 ≤ Cal.ahead 1583 := by decide
      omega
    · have e : rday R y (3, 0, d, 0) = none := by unfold rday; rw [if_neg (by omega), if_neg (by simp), if_neg (by simp), if_neg hy]
      rw [e] at hd; cases hd
theorem scan_hol (h1 : 1 ≤ y) (h2 : y ≤ 9998) (hR : R.all = false) (hc : ∀ r ∈ L, rchk r = 0) (k : Nat) (hk : Cal.num y 1 1 - 40 + k = Cal.num y 12 31 + 10) : scan R L y (Cal.num y 1 1 - 40) k = hol R L y := by
  refine (Spn.once_unique _ _ (scan_rises R L y _ k) fun n => ?_).symm
  rw [scan_mem]
  constructor
  · exact fun h => h.2.2.2
  · intro h
    have r := days_range R L y h1 h2 hR hc n h
    exact ⟨r.1, by omega, r.2.2, h⟩
end Wk
set_option maxRecDepth 100000 in
set_option maxHeartbeats 1500000 in
theorem vHolidaysOf (R : Wk.Rst) (l : List Wk.Rl) (a : Option Addr) (cap : Nat) (y : Int) (w : World) (hl : l.length ≤ maxLen) (hr : Row4 w a l) :
    Calls Tryd.prog 10 #[calV R a l.length cap, .int .i64 y] w fun e w' => ∃ v, e = .returned (.tuple #[v, .int .i64 (Wk.holC R l y)]) ∧ OwnI w' w.heap.size v (Wk.holV R l y) ∧ Below w.heap.size w w' := by
  obtain ⟨i0, hi, hz0, hz1, hz2⟩ := info_parts infoInt
  have HI : Hid (Tryd.prog.info? 3 = some i0 ∧ i0.zero = some (.int .i64 0) ∧ i0.size = 1 ∧ i0.bytes = 8) := ⟨hi, hz0, hz1, hz2⟩
  clear hi hz0 hz1 hz2
  have bA := below_box w (.cells #[.bool R.b0, .bool R.b1, .bool R.b2, .bool R.b3, .bool R.b4, .bool R.b5, .bool R.b6, .slice a l.length cap] 25)
  have sA : w.heap.size < (w.alloc (.cells #[.bool R.b0, .bool R.b1, .bool R.b2, .bool R.b3, .bool R.b4, .bool R.b5, .bool R.b6, .slice a l.length cap] 25)).heap.size := by simp
  have HC : Hid (∀ j v, (#[.bool R.b0, .bool R.b1, .bool R.b2, .bool R.b3, .bool R.b4, .bool R.b5, .bool R.b6, .slice a l.length cap] : Array Value)[j]? = some v → (w.alloc (.cells #[.bool R.b0, .bool R.b1, .bool R.b2, .bool R.b3, .bool R.b4, .bool R.b5, .bool R.b6, .slice a l.length cap] 25)).cell? ⟨w.heap.size, j, none⟩ = some v) := fun j v hj => boxCells w _ _ j v hj
  have hC := vCal R l a cap _ hl (hr.below bA)
  by_cases hz : Wk.cchk R l = 0
  · rw [hz] at hC
    have hq := (Wk.cchk_zero R l).1 hz
    by_cases q1 : y < 1
    · have HE : Hid (Wk.holC R l y = 3 ∧ Wk.holV R l y = []) := by
        have e0 : Wk.holC R l y = 3 := by unfold Wk.holC; rw [if_pos hz, if_neg (by omega)]
        exact ⟨e0, by unfold Wk.holV; rw [if_neg (by rw [e0]; decide)]⟩
      go_enter Tryd.func10, Tryd.ntmps10
      go_wp2_with fail
      refine hC.mono ?_
      rintro e w1 ⟨rfl, b1⟩
      have B1 := below_next bA (Nat.le_refl _) b1
      clear b1 hC
      go_wp2
      go_ret2
      exact ⟨_, by rw [HE.out.1] <;> rfl, by rw [HE.out.2]; exact OwnI.nil _ _, B1⟩
    · have q1' : decide (y < 1) = false := decide_eq_false q1
      by_cases q2 : 9998 < y
      · have HE : Hid (Wk.holC R l y = 3 ∧ Wk.holV R l y = []) := by
          have e0 : Wk.holC R l y = 3 := by unfold Wk.holC; rw [if_pos hz, if_neg (by omega)]
          exact ⟨e0, by unfold Wk.holV; rw [if_neg (by rw [e0]; decide)]⟩
        go_enter Tryd.func10, Tryd.ntmps10
        go_wp2_with fail
        refine hC.mono ?_
        rintro e w1 ⟨rfl, b1⟩
        have B1 := below_next bA (Nat.le_refl _) b1
        clear b1 hC
        go_wp2
        go_ret2
        exact ⟨_, by rw [HE.out.1] <;> rfl, by rw [HE.out.2]; exact OwnI.nil _ _, B1⟩
      · have q2' : decide (9998 < y) = false := decide_eq_false q2
        have y1 : 1 ≤ y := by omega
        have y2 : y ≤ 9998 := by omega
        have HE : Hid (Wk.holC R l y = 0 ∧ Wk.holV R l y = Wk.hol R l y) := by
          have e0 : Wk.holC R l y = 0 := by unfold Wk.holC; rw [if_pos hz, if_pos ⟨y1, y2⟩]
          exact ⟨e0, by unfold Wk.holV; rw [if_pos e0]⟩
        have HSC : Hid (∀ k : Nat, Cal.num y 1 1 - 40 + k = Cal.num y 12 31 + 10 → Wk.scan R l y (Cal.num y 1 1 - 40) k = Wk.hol R l y) := fun k hk => Wk.scan_hol R l y y1 y2 hq.1 hq.2.2 k hk
        have HV : Hid (∀ n W, n ≠ 0 → Row4 W a l → Calls Tryd.prog 29 #[calV R a l.length cap, .int .i64 y, .int .i64 n] W fun e w' => e = .returned (.bool (decide (n ∈ Wk.days R l y))) ∧ Below W.heap.size W w') := fun n W hn hrW => vIsHol R l a cap y n W hq.1 hq.2.1 hq.2.2 hrW y2 hn
        have HD1 : Hid (∀ W, Calls Tryd.prog 28 #[.agg #[.int .i64 y, .int .i64 1, .int .i64 1]] W fun e w' => e = .returned (.int .i64 (Cal.num y 1 1)) ∧ Below W.heap.size W w') := fun W => dayOf_any y 1 1 W y1 (by omega) (by decide) (by decide) (by decide) (by decide)
        have HD2 : Hid (∀ W, Calls Tryd.prog 28 #[.agg #[.int .i64 y, .int .i64 12, .int .i64 31]] W fun e w' => e = .returned (.int .i64 (Cal.num y 12 31)) ∧ Below W.heap.size W w') := fun W => dayOf_any y 12 31 W y1 (by omega) (by decide) (by decide) (by decide) (by decide)
        have n1 := Cal.num_in y 1 1 ⟨y1, by omega, by decide, by decide, by decide, by have := Cal.mlen_bd y 1; omega⟩
        have n2 := Cal.num_in y 12 31 ⟨y1, by omega, by decide, by decide, by decide, by simp [Cal.mlen]⟩
        have n3 : Cal.num y 12 31 ≤ Cal.num y 1 1 + 366 := by
          have := Cal.lp_bd y
          unfold Cal.num Cal.cum; simp; omega
        have n4 : Cal.num y 1 1 ≤ Cal.num y 12 31 := by
          have := Cal.lp_bd y
          unfold Cal.num Cal.cum; simp; omega
        generalize Cal.num y 1 1 = LO at *
        generalize Cal.num y 12 31 = HIh at *
        clear hq hz
        go_enter Tryd.func10, Tryd.ntmps10
        go_wp2_with fail
        refine hC.mono ?_
        rintro e w1 ⟨rfl, b1⟩
        have B1 := below_next bA (Nat.le_refl _) b1
        have s1 : w.heap.size < w1.heap.size := Nat.lt_of_lt_of_le sA b1.size
        have HC1 : Hid (∀ j v, (#[.bool R.b0, .bool R.b1, .bool R.b2, .bool R.b3, .bool R.b4, .bool R.b5, .bool R.b6, .slice a l.length cap] : Array Value)[j]? = some v → w1.cell? ⟨w.heap.size, j, none⟩ = some v) := fun j v hj => (b1.cell (p := ⟨w.heap.size, j, none⟩) sA).trans (HC.out j v hj)
        clear b1 hC HC
        have hw1 : IntKind.i64.wrap (LO - 40) = LO - 40 := by rw [IntKind.wrap_i64]; omega
        go_wp2_with fail
        refine (HD1.out _).mono ?_
        rintro e w2 ⟨rfl, b2⟩
        have B2 := below_next B1 (Nat.le_refl _) b2
        have s2 : w.heap.size < w2.heap.size := Nat.lt_of_lt_of_le s1 b2.size
        have HC2 : Hid (∀ j v, (#[.bool R.b0, .bool R.b1, .bool R.b2, .bool R.b3, .bool R.b4, .bool R.b5, .bool R.b6, .slice a l.length cap] : Array Value)[j]? = some v → w2.cell? ⟨w.heap.size, j, none⟩ = some v) := fun j v hj => (b2.cell (p := ⟨w.heap.size, j, none⟩) s1).trans (HC1.out j v hj)
        clear b2 HC1 HD1
        go_wp2
        clear q1' q2'
        go_loopw [7, 8] (fun v i wr => ∃ k : Nat, LO - 40 + k ≤ HIh + 10 ∧ i = .int .i64 (LO - 40 + k) ∧ OwnI wr w2.heap.size v (Wk.scan R l y (LO - 40) k) ∧ Below w2.heap.size w2 wr) (fun _ i _ => (HIh + 10 - intOf i).toNat)
        case atStart => exact ⟨0, by simp; omega, by simp, OwnI.nil _ _, Below.refl _ _⟩
        case round =>
          obtain ⟨k, hk, rfl, hown, hnx⟩ := hrel
          have B3 := below_next B2 (Nat.le_refl _) hnx
          have hlen := Wk.scan_len R l y (LO - 40) k
          have HS : Hid (Wk.scan R l y (LO - 40) (k + 1) = Wk.scan R l y (LO - 40) k ++ (if LO - 40 + k ≠ 0 ∧ LO - 40 + k ∈ Wk.days R l y then [LO - 40 + (k : Int)] else [])) := rfl
          have HSE : Hid (LO - 40 + k = HIh + 10 → Wk.scan R l y (LO - 40) k = Wk.hol R l y) := HSC.out k
          generalize Wk.scan R l y (LO - 40) k = E at *
          have hw2 : IntKind.i64.wrap (HIh + 10) = HIh + 10 := by rw [IntKind.wrap_i64]; omega
          have hw3 : IntKind.i64.wrap (LO - 40 + (k : Int) + 1) = LO - 40 + (k : Int) + 1 := by rw [IntKind.wrap_i64]; omega
          go_wp2_with fail
          refine (HD2.out _).mono ?_
          rintro e w3 ⟨rfl, b3⟩
          have nx3 := below_next hnx (Nat.le_refl _) b3
          have B4 := below_next B2 (Nat.le_refl _) nx3
          have ow3 := hown.still b3
          clear b3 hown hnx
          by_cases hlt : LO - 40 + (k : Int) < HIh + 10
          · have hd : decide (LO - 40 + (k : Int) < HIh + 10) = true := decide_eq_true hlt
            by_cases h0 : LO - 40 + (k : Int) = 0
            · have h0' : (LO - 40 + (k : Int) != 0) = false := by simpa using h0
              have HE2 : Hid (Wk.scan R l y (LO - 40) (k + 1) = E) := by unfold Hid; rw [HS.out, if_neg (fun q => q.1 h0), List.append_nil]
              clear h0
              go_wp2
              go_roundw
              case rel => exact ⟨k + 1, by omega, by go_num, by rw [HE2.out]; exact ow3, nx3⟩
              case measure => simp [intOf]; omega
            · have h0' : (LO - 40 + (k : Int) != 0) = true := by simpa using h0
              have HG : Hid (∀ j v, (#[.bool R.b0, .bool R.b1, .bool R.b2, .bool R.b3, .bool R.b4, .bool R.b5, .bool R.b6, .slice a l.length cap] : Array Value)[j]? = some v → w3.cell? ⟨w.heap.size, j, none⟩ = some v) := fun j v hj => (nx3.cell (p := ⟨w.heap.size, j, none⟩) s2).trans (HC2.out j v hj)
              have g0 := HG.out 0 _ rfl
              have g1 := HG.out 1 _ rfl
              have g2 := HG.out 2 _ rfl
              have g3 := HG.out 3 _ rfl
              have g4 := HG.out 4 _ rfl
              have g5 := HG.out 5 _ rfl
              have g6 := HG.out 6 _ rfl
              have g7 := HG.out 7 _ rfl
              go_wp2_with fail
              refine (HV.out (LO - 40 + k) w3 h0 (hr.below B4)).mono ?_
              rintro e w4 ⟨rfl, b4⟩
              have nx4 := below_next nx3 (Nat.le_refl _) b4
              have ow4 := ow3.still b4
              have hs4 : w2.heap.size ≤ w4.heap.size := nx4.size
              clear g0 g1 g2 g3 g4 g5 g6 g7
              clear b4 ow3 nx3 HG B4
              cases hin : decide (LO - 40 + (k : Int) ∈ Wk.days R l y) with
              | true =>
                have HE2 : Hid (Wk.scan R l y (LO - 40) (k + 1) = E ++ [LO - 40 + (k : Int)]) := by unfold Hid; rw [HS.out, if_pos ⟨h0, of_decide_eq_true hin⟩]
                clear hin h0
                go_wp2_with (at_builtin; refine wpList_append_own _ rfl (.tmp 40) (.tmp 42) 26 rfl w2.heap.size 3 i0 _ 1 8 Tryd.underlying26 HI.out.1 HI.out.2.1 HI.out.2.2.1 HI.out.2.2.2 rfl (by decide) _ _ _ rfl (World.ownsRow.alloc ow4 _) ⟨w4.heap.size, 0, none⟩ 1 1 [.int .i64 (LO - 40 + (k : Int))] rfl rfl (cell1_new _ _ _) (one1 _) (by unfold maxLen; omega) (by omega) (by simp; omega) ?_; intro v5 w5 own5 grow5 _)
                have R5 := OwnI.keep hs4 ow4 nx4 own5 grow5
                clear own5 grow5 ow4
                go_wp2
                go_roundw
                case rel => exact ⟨k + 1, by omega, by go_num, by rw [HE2.out]; exact R5.1, R5.2⟩
                case measure => simp [intOf]; omega
              | false =>
                have HE2 : Hid (Wk.scan R l y (LO - 40) (k + 1) = E) := by unfold Hid; rw [HS.out, if_neg (fun q => of_decide_eq_false hin q.2), List.append_nil]
                clear hin h0
                go_wp2
                go_roundw
                case rel => exact ⟨k + 1, by omega, by go_num, by rw [HE2.out]; exact ow4, nx4⟩
                case measure => simp [intOf]; omega
          · have hd : decide (LO - 40 + (k : Int) < HIh + 10) = false := decide_eq_false hlt
            have HEE : Hid (E = Wk.hol R l y) := HSE.out (by omega)
            have ow5 := ow3.weak B2.size
            clear ow3
            go_wp2
            go_ret2
            exact ⟨_, by rw [HE.out.1] <;> rfl, by rw [HE.out.2, ← HEE.out]; exact ow5, B4⟩
  · have HE : Hid (Wk.holC R l y = Wk.cchk R l ∧ Wk.holV R l y = []) := by
      have e0 : Wk.holC R l y = Wk.cchk R l := by unfold Wk.holC; rw [if_neg hz]
      exact ⟨e0, by unfold Wk.holV; rw [if_neg (by rw [e0]; exact hz)]⟩
    have hne : (Wk.cchk R l != 0) = true := by simpa using hz
    go_enter Tryd.func10, Tryd.ntmps10
    go_wp2_with fail
    refine hC.mono ?_
    rintro e w1 ⟨rfl, b1⟩
    have B1 := below_next bA (Nat.le_refl _) b1
    clear b1 hC
    go_wp2
    go_ret2
    exact ⟨_, by rw [HE.out.1] <;> rfl, by rw [HE.out.2]; exact OwnI.nil _ _, B1⟩
end Go.Proofs.YtpjpmfcbddkjnaaDoor
