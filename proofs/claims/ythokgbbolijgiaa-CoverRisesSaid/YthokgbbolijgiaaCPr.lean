/- The document's table of the least prices: offer by offer. -/
import Derived.Test.YthokgbbolijgiaaCTab
namespace Go.Proofs.Ythokgbbolijgiaa
open Go.RowKit Go.BigFrame

namespace Cv
theorem mix_start (l : List Off) (i d : Nat) : mix l i 1 d = tabR l i d := by
  unfold mix
  by_cases h : d < 1
  · obtain rfl : d = 0 := by omega
    rw [if_pos h, tabR_zero, tabR_zero]
  · rw [if_neg h]
theorem mix_lt (l : List Off) (i k d : Nat) (h : d < k) : mix l i k d = tabR l (i + 1) d := if_pos h
theorem mix_at (l : List Off) (i k : Nat) : mix l i k k = tabR l i k := if_neg (Nat.lt_irrefl k)
theorem mix_next (l : List Off) (i k d : Nat) (v : Int) (hv : v = tabR l (i + 1) k) : mix l i (k + 1) d = if d = k then v else mix l i k d := by
  unfold mix
  by_cases h : d = k
  · subst h; rw [if_pos (by omega), if_pos rfl, hv]
  · rw [if_neg h]
    by_cases h2 : d < k
    · rw [if_pos (by omega), if_pos h2]
    · rw [if_neg (by omega), if_neg h2]
theorem upd_yes (l : List Off) (ok : Ok l) (i d j : Nat) (x y cb bd : Int) (h : l[i]? = some (x, y)) (hd : 0 < d) (hj : d - x.toNat = j) (hc : tabR l (i + 1) j = cb) (hb : tabR l i d = bd) (h0 : 0 ≤ cb) (hy : bd < 0 ∨ cb + y < bd) : cb + y = tabR l (i + 1) d := by
  have := tabR_step l ok i (x, y) h d hd
  unfold upd at this
  simp only at this
  rw [hj, hc, hb, if_pos ⟨h0, hy⟩] at this
  exact this
theorem upd_no (l : List Off) (ok : Ok l) (i d j : Nat) (x y cb bd : Int) (h : l[i]? = some (x, y)) (hd : 0 < d) (hj : d - x.toNat = j) (hc : tabR l (i + 1) j = cb) (hb : tabR l i d = bd) (hn : ¬ (bd < 0 ∨ cb + y < bd)) : bd = tabR l (i + 1) d := by
  have := tabR_step l ok i (x, y) h d hd
  unfold upd at this
  simp only at this
  rw [hj, hc, hb, if_neg (fun e => hn e.2)] at this
  exact this
theorem tabR_pos (l : List Off) (ok : Ok l) (i d : Nat) : 0 ≤ tabR l (i + 1) d := by
  unfold tabR
  rw [if_neg (by omega)]
  exact best_nonneg _ (ok.take (i + 1) (by omega)) d
end Cv

set_option maxRecDepth 100000 in
set_option maxHeartbeats 4000000 in
theorem pricesOf_any (l : List Cv.Off) (a : Option Addr) (cap k : Nat) (w : World) (ok : Cv.Ok l) (hk : k ≤ 400) (hr : RowO w a l) :
    Calls Try.prog 25 #[.slice a l.length cap, .int .i64 k] w fun e w' => ∃ g c, e = .returned (.slice (some ⟨g, 0, none⟩) (k + 1) c) ∧ TabI w' w.heap.size g c (k + 1) (Cv.best l) ∧ Below w.heap.size w w' := by
  have n8 := ok.n8
  have HOK : Hid (Cv.Ok l) := ok
  have HR : Hid (RowO w a l) := hr
  have HBD : Hid (∀ o ∈ l, 1 ≤ o.1 ∧ o.1 ≤ 400 ∧ 0 ≤ o.2 ∧ o.2 ≤ 1000000) := ok.all
  obtain ⟨i0, hi0, hi1, hi2, hi3⟩ := info_int2
  have HI : Hid (Try.prog.info? 3 = some i0 ∧ i0.zero = some (.int .i64 0) ∧ i0.size = 1 ∧ i0.bytes = 8) := ⟨hi0, hi1, hi2, hi3⟩
  clear hi0 hi1 hi2 hi3 ok hr
  have HO0 : Hid (OwnI (w.alloc (.cells #[.int .i64 0] 3)) w.heap.size (.slice (some ⟨w.heap.size, 0, none⟩) 1 1) ((List.range 1).map Cv.none')) :=
    World.ownsRow_lit (base := w.heap.size) (e := 3) (size := 1) w #[.int .i64 0] 1 (Nat.le_refl _) (by decide) rfl
  have HB0 : Hid (Below w.heap.size w (w.alloc (.cells #[.int .i64 0] 3))) := below_box w _
  go_enter Try.func25, Try.ntmps25
  go_wp2
  go_loopw [5, 6] (fun bv dv wr => ∃ j : Nat, 1 ≤ j ∧ j ≤ k + 1 ∧ dv = .int .i64 j ∧ OwnI wr w.heap.size bv ((List.range j).map Cv.none') ∧ Below w.heap.size w wr) (fun _ dv _ => k + 1 - (intOf dv).toNat)
  case atStart => exact ⟨1, by omega, by omega, rfl, HO0.out, HB0.out⟩
  case round =>
    obtain ⟨j, hj1, hj, rfl, hown, hnx⟩ := hrel
    have HO : Hid (OwnI wr w.heap.size u5 ((List.range j).map Cv.none')) := hown
    have HB : Hid (Below w.heap.size w wr) := hnx
    clear hown hnx
    by_cases hlt : j ≤ k
    · have hlt' : (j : Int) ≤ (k : Int) := by omega
      have hsz : w.heap.size ≤ wr.heap.size := HB.out.size
      have HLn : Hid (((List.range j).map Cv.none').length = j) := by show _ = _; simp
      have HMS : Hid ((List.range (j + 1)).map Cv.none' = (List.range j).map Cv.none' ++ [-1]) := by
        show _ = _; rw [map_snoc]; unfold Cv.none'; rw [if_neg (by omega)]
      generalize (List.range j).map Cv.none' = xs at *
      go_wp2_with (at_builtin; refine wpList_append_own _ rfl (.tmp 16) (.tmp 17) 26 rfl w.heap.size 3 i0 (.int .i64 0) 1 8 Try.underlying26 HI.out.1 HI.out.2.1 HI.out.2.2.1 HI.out.2.2.2 rfl (by decide) _ _ _ rfl (World.ownsRow.alloc HO.out _) ⟨wr.heap.size, 0, none⟩ 1 1 [.int .i64 (-1)] rfl rfl (cell1_new _ _ _) (one1 _) (by unfold maxLen; have := HLn.out; omega) (by have := HLn.out; omega) (by first | omega | (simp; omega)) ?_; intro v1 w2 own1 grow1 _)
      have R := OwnI.keep hsz HO.out HB.out own1 grow1
      clear own1 grow1
      go_wp2
      go_roundw
      case rel => exact ⟨j + 1, by omega, by omega, by go_num, by rw [HMS.out]; exact R.1, R.2⟩
      case measure => simp [intOf]; omega
    · obtain rfl : j = k + 1 := by omega
      have hlt' : ¬ ((k + 1 : Nat) : Int) ≤ (k : Int) := by omega
      obtain ⟨g, c, rfl, ht⟩ := TabI.of HO.out (by omega)
      have HT : Hid (TabI wr w.heap.size g c (k + 1) (Cv.tabR l 0)) := ht
      clear ht HO
      go_wp2
      go_loopw [7] (fun iv wr => ∃ i : Nat, i ≤ l.length ∧ iv = .int .i64 i ∧ TabI wr w.heap.size g c (k + 1) (Cv.tabR l i) ∧ Below w.heap.size w wr) (fun iv _ => l.length - (intOf iv).toNat)
      case atStart => exact ⟨0, by omega, rfl, HT.out, HB.out⟩
      case round =>
        obtain ⟨i, hi, rfl, ht, hb⟩ := hrel
        have HTi : Hid (TabI wr w.heap.size g c (k + 1) (Cv.tabR l i)) := ht
        have HBi : Hid (Below w.heap.size w wr) := hb
        clear ht hb
        by_cases him : i < l.length
        · have him' : (i : Int) < (l.length : Int) := by omega
          obtain ⟨b, off, x, y, rfl, hbw, hx, _, _⟩ := HR.out.lies him
          have HX0 : Hid (l[i]? = some (x, y)) := hx
          have hbd := HBD.out (x, y) (List.mem_of_getElem? hx)
          simp only at hbd
          have HX : Hid (1 ≤ x ∧ x ≤ 400) := ⟨hbd.1, hbd.2.1⟩
          have y0 := hbd.2.2.1
          have y1 := hbd.2.2.2
          obtain ⟨n, rfl⟩ : ∃ n : Nat, x = n := ⟨x.toNat, by omega⟩
          have HN : Hid ((n : Int).toNat = n) := rfl
          have n1 : 1 ≤ n := by omega
          have n2 : n ≤ 400 := by omega
          clear hbd hx
          go_wp2
          go_loopw [8] (fun dv wr => ∃ d : Nat, 1 ≤ d ∧ d ≤ k + 1 ∧ dv = .int .i64 d ∧ TabI wr w.heap.size g c (k + 1) (Cv.mix l i d) ∧ Below w.heap.size w wr) (fun dv _ => k + 1 - (intOf dv).toNat)
          case atStart => exact ⟨1, by omega, by omega, rfl, HTi.out.congr fun d _ => (Cv.mix_start l i d).symm, HBi.out⟩
          case round =>
            obtain ⟨d, hd1, hd, rfl, ht, hb⟩ := hrel
            have HTd : Hid (TabI wr w.heap.size g c (k + 1) (Cv.mix l i d)) := ht
            have HBd : Hid (Below w.heap.size w wr) := hb
            clear ht hb
            by_cases hdk : d ≤ k
            · have hdk' : (d : Int) ≤ (k : Int) := by omega
              have hdk2 : (d : Int) < (k : Int) + 1 := by omega
              have hd0 : (0 : Int) ≤ (d : Int) := by omega
              obtain ⟨b', off', x', y', e', -, hx', c0, c1⟩ := (HR.out.below HBd.out).lies him
              obtain ⟨rfl, rfl⟩ : b = b' ∧ off = off' := by simpa using e'
              obtain ⟨rfl, rfl⟩ : x' = (n : Int) ∧ y' = y := by have := hx'.symm.trans HX0.out; simpa using this
              clear e' hx'
              have HJ : Hid (∃ j : Nat, d - n = j) := ⟨_, rfl⟩
              obtain ⟨j, hj⟩ := HJ.out
              have HJ2 : Hid (d - n = j) := hj
              have hjd : j < d := by omega
              have j0 : (0 : Int) ≤ (j : Int) := by omega
              have j1 : (j : Int) < (k : Int) + 1 := by omega
              have e0 := HTd.out.cell (i := j) (by omega)
              have e1 := HTd.out.cell (i := d) (by omega)
              have e2 := HTd.out.frozen d
              rw [Cv.mix_lt l i d j hjd] at e0
              rw [Cv.mix_at l i d] at e1
              obtain ⟨cb, hcb⟩ : ∃ cb, Cv.tabR l (i + 1) j = cb := ⟨_, rfl⟩
              obtain ⟨bd, hbd⟩ : ∃ bd, Cv.tabR l i d = bd := ⟨_, rfl⟩
              have HCB : Hid (Cv.tabR l (i + 1) j = cb) := hcb
              have HBB : Hid (Cv.tabR l i d = bd) := hbd
              rw [hcb] at e0
              rw [hbd] at e1
              have cb0 : 0 ≤ cb := by rw [← hcb]; exact Cv.tabR_pos l HOK.out i j
              have cb1 : cb ≤ 400000000 := by rw [← hcb]; have := (Cv.tabR_bd l HOK.out (i + 1) j).2; omega
              have cb2 : decide (0 ≤ cb) = true := decide_eq_true cb0
              clear hcb hbd hj
              have HY : Hid ((bd < 0 ∨ cb + y' < bd) → cb + y' = Cv.tabR l (i + 1) d) := fun h => Cv.upd_yes l HOK.out i d j n y' cb bd HX0.out (by omega) (by rw [HN.out]; exact HJ2.out) HCB.out HBB.out cb0 h
              have HNo : Hid (¬ (bd < 0 ∨ cb + y' < bd) → bd = Cv.tabR l (i + 1) d) := fun h => Cv.upd_no l HOK.out i d j n y' cb bd HX0.out (by omega) (by rw [HN.out]; exact HJ2.out) HCB.out HBB.out h
              by_cases hneg : (d : Int) - (n : Int) < 0
              · obtain rfl : j = 0 := by have := HJ2.out; omega
                by_cases hA : bd < 0
                · have hb1 : decide (bd < 0) = true := decide_eq_true hA
                  have HV : Hid (cb + y' = Cv.tabR l (i + 1) d) := HY.out (.inl hA)
                  clear hA
                  go_wp2
                  go_quiet (fail)
                  go_wp2
                  go_big_region
                  go_wp2
                  go_roundw
                  case rel => exact ⟨d + 1, by omega, by omega, by go_num, (HTd.out.drewN _).set d (cb + y') (fun t _ => Cv.mix_next l i d t _ HV.out), (below_drewN HBd.out _).setCell (show w.heap.size ≤ (Addr.mk g d none).block from HTd.out.lt.1) _⟩
                  case measure => simp [intOf]; omega
                · by_cases hB : cb + y' < bd
                  · have hb1 : decide (bd < 0) = false := decide_eq_false hA
                    have hb2 : decide (cb + y' < bd) = true := decide_eq_true hB
                    have HV : Hid (cb + y' = Cv.tabR l (i + 1) d) := HY.out (.inr hB)
                    clear hA hB
                    go_wp2
                    go_quiet (fail)
                    go_wp2
                    go_big_region
                    go_wp2
                    go_roundw
                    case rel => exact ⟨d + 1, by omega, by omega, by go_num, (HTd.out.drewN _).set d (cb + y') (fun t _ => Cv.mix_next l i d t _ HV.out), (below_drewN HBd.out _).setCell (show w.heap.size ≤ (Addr.mk g d none).block from HTd.out.lt.1) _⟩
                    case measure => simp [intOf]; omega
                  · have hb1 : decide (bd < 0) = false := decide_eq_false hA
                    have hb2 : decide (cb + y' < bd) = false := decide_eq_false hB
                    have HV : Hid (bd = Cv.tabR l (i + 1) d) := HNo.out (by omega)
                    clear hA hB
                    go_wp2
                    go_quiet (fail)
                    go_wp2
                    go_roundw
                    case rel => exact ⟨d + 1, by omega, by omega, by go_num, (HTd.out.drewN _).congr (fun t _ => by rw [Cv.mix_next l i d t _ HV.out]; by_cases h : t = d; (· subst h; rw [if_pos rfl, Cv.mix_at, HBB.out]); (· rw [if_neg h])), below_drewN HBd.out _⟩
                    case measure => simp [intOf]; omega
              · have hneg' : decide ((d : Int) - (n : Int) < 0) = false := decide_eq_false hneg
                have hdj : (d : Int) - (n : Int) = (j : Int) := by have := HJ2.out; omega
                have hj' : decide ((j : Int) < 0) = false := decide_eq_false (by omega)
                clear hneg hneg'
                by_cases hA : bd < 0
                · have hb1 : decide (bd < 0) = true := decide_eq_true hA
                  have HV : Hid (cb + y' = Cv.tabR l (i + 1) d) := HY.out (.inl hA)
                  clear hA
                  go_wp2
                  go_quiet (fail)
                  go_wp2
                  go_big_region
                  go_wp2
                  go_roundw
                  case rel => exact ⟨d + 1, by omega, by omega, by go_num, (HTd.out.drewN _).set d (cb + y') (fun t _ => Cv.mix_next l i d t _ HV.out), (below_drewN HBd.out _).setCell (show w.heap.size ≤ (Addr.mk g d none).block from HTd.out.lt.1) _⟩
                  case measure => simp [intOf]; omega
                · by_cases hB : cb + y' < bd
                  · have hb1 : decide (bd < 0) = false := decide_eq_false hA
                    have hb2 : decide (cb + y' < bd) = true := decide_eq_true hB
                    have HV : Hid (cb + y' = Cv.tabR l (i + 1) d) := HY.out (.inr hB)
                    clear hA hB
                    go_wp2
                    go_quiet (fail)
                    go_wp2
                    go_big_region
                    go_wp2
                    go_roundw
                    case rel => exact ⟨d + 1, by omega, by omega, by go_num, (HTd.out.drewN _).set d (cb + y') (fun t _ => Cv.mix_next l i d t _ HV.out), (below_drewN HBd.out _).setCell (show w.heap.size ≤ (Addr.mk g d none).block from HTd.out.lt.1) _⟩
                    case measure => simp [intOf]; omega
                  · have hb1 : decide (bd < 0) = false := decide_eq_false hA
                    have hb2 : decide (cb + y' < bd) = false := decide_eq_false hB
                    have HV : Hid (bd = Cv.tabR l (i + 1) d) := HNo.out (by omega)
                    clear hA hB
                    go_wp2
                    go_quiet (fail)
                    go_wp2
                    go_roundw
                    case rel => exact ⟨d + 1, by omega, by omega, by go_num, (HTd.out.drewN _).congr (fun t _ => by rw [Cv.mix_next l i d t _ HV.out]; by_cases h : t = d; (· subst h; rw [if_pos rfl, Cv.mix_at, HBB.out]); (· rw [if_neg h])), below_drewN HBd.out _⟩
                    case measure => simp [intOf]; omega
            · obtain rfl : d = k + 1 := by omega
              have HE : Hid (TabI wr w.heap.size g c (k + 1) (Cv.tabR l (i + 1))) := HTd.out.congr fun t ht => Cv.mix_lt l i _ t ht
              go_wp2
              go_roundw
              case rel => exact ⟨i + 1, by omega, by go_num, HE.out, HBd.out⟩
              case measure => simp [intOf]; omega
        · obtain rfl : i = l.length := by omega
          have HE : Hid (TabI wr w.heap.size g c (k + 1) (Cv.best l)) := HTi.out.congr fun t _ => Cv.tabR_all l HOK.out t
          go_wp2
          go_ret
          exact ⟨_, _, rfl, HE.out, HBi.out⟩
end Go.Proofs.Ythokgbbolijgiaa
