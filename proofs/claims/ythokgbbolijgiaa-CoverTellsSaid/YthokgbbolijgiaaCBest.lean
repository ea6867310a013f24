/- The program's table of the least prices. -/
import Derived.Test.YthokgbbolijgiaaCRw
namespace Go.Proofs.Ythokgbbolijgiaa
open Go.RowKit Go.BigFrame

namespace Cv
/-- the table with the days up to (not with) k -/
def low (l : List Off) (k d : Nat) : Int := if d < k then best l d else 0
theorem low_at (l : List Off) {k d : Nat} (h : d < k) : low l k d = best l d := if_pos h
/-- the table with m at k -/
def mid (l : List Off) (k : Nat) (m : Int) (d : Nat) : Int := if d = k then m else low l k d
theorem mid_low (l : List Off) {k d : Nat} {m : Int} (h : d < k) : mid l k m d = best l d := by unfold mid; rw [if_neg (by omega), low_at l h]
theorem mid_set (l : List Off) (k : Nat) (m n : Int) (d : Nat) : (if d = k then n else mid l k m d) = mid l k n d := by
  unfold mid
  by_cases h : d = k
  · rw [if_pos h, if_pos h]
  · rw [if_neg h, if_neg h, if_neg h]
theorem mid_end (l : List Off) (ok : Ok l) (k d : Nat) (hk : 0 < k) : mid l k (mn (best l) k l) d = low l (k + 1) d := by
  unfold mid low
  by_cases h : d = k
  · rw [if_pos h, if_pos (by omega), h, best_succ l ok k hk]
  · rw [if_neg h]
    by_cases h2 : d < k
    · rw [if_pos h2, if_pos (by omega)]
    · rw [if_neg h2, if_neg (by omega)]
theorem mn_take (B : Nat → Int) (d : Nat) (l : List Off) (i : Nat) (h : 0 < i) (o : Off) (e : l[i]? = some o) : mn B d (l.take (i + 1)) = min (mn B d (l.take i)) (wth B d o) := by
  rw [take_snoc l i o e]
  cases l with
  | nil => simp at e
  | cons p r =>
    obtain ⟨j, rfl⟩ : ∃ j, i = j + 1 := ⟨i - 1, by omega⟩
    rw [List.take_succ_cons]
    exact mn_snoc B d p o _
theorem mn_one (B : Nat → Int) (d : Nat) (l : List Off) (o : Off) (e : l[0]? = some o) : mn B d (l.take 1) = wth B d o := by
  rw [take_snoc l 0 o e]; rfl
end Cv

/-- what the table's making keeps: the result's place, the table, and all that was there -/
def BInv (w wr : World) (F : Nat → Int) : Prop := RowP wr w.heap.size (fun _ => 0) ∧ RowP wr (w.heap.size + 1) F ∧ Below w.heap.size w wr
theorem BInv.congr {w wr : World} {F G : Nat → Int} (h : BInv w wr F) (e : ∀ d, d < 401 → F d = G d) : BInv w wr G := ⟨h.1, h.2.1.congr e, h.2.2⟩
theorem BInv.next {w wr w2 : World} {F : Nat → Int} (h : BInv w wr F) (hb : Below wr.heap.size wr w2) : BInv w w2 F := ⟨h.1.below hb, h.2.1.below hb, below_on h.2.2 (Nat.le_refl _) hb⟩
theorem BInv.store {w wr : World} {F : Nat → Int} (h : BInv w wr F) (k : Nat) (v : Int) : BInv w (wr.setCell ⟨w.heap.size + 1, k, none⟩ (.int .i64 v)) (fun d => if d = k then v else F d) :=
  ⟨h.1.setOther (by omega) _ _, h.2.1.set k v, h.2.2.setCell (by show _ ≤ _; simp) _⟩
theorem BInv.start (w : World) (l : List Cv.Off) : BInv w ((w.alloc (.cells (Array.replicate 401 (.int .i64 0)) 44)).alloc (.cells (Array.replicate 401 (.int .i64 0)) 44)) (Cv.low l 1) := by
  have h1 := RowP.zero w
  have h2 := RowP.zero (w.alloc (.cells (Array.replicate 401 (.int .i64 0)) 44))
  rw [World.size_alloc] at h2
  refine ⟨h1.alloc _, h2.congr (fun d _ => ?_), ((Below.refl _ _).alloc (Nat.le_refl _) _).alloc (by simp) _⟩
  unfold Cv.low
  by_cases h : d < 1
  · obtain rfl : d = 0 := by omega
    rw [if_pos h]; rfl
  · rw [if_neg h]
theorem BInv.at {w wr : World} {F : Nat → Int} (h : BInv w wr F) {k : Nat} (hk : k < 401) (v : Int) (e : F k = v) : wr.cell? ⟨w.heap.size + 1, k, none⟩ = some (.int .i64 v) ∧ wr.frozen? ⟨w.heap.size + 1, k, none⟩ = false :=
  ⟨by rw [← e]; exact h.2.1.cell hk, h.2.1.frozen k⟩

set_option maxRecDepth 100000 in
set_option maxHeartbeats 4000000 in
theorem bestOf_any (l : List Cv.Off) (a : Option Addr) (cap : Nat) (w : World) (ok : Cv.Ok l) (hc : l.length ≤ cap) (hr : RowO w a l) :
    Calls Try.prog 22 #[.slice a l.length cap] w fun e w' => e = .returned (.agg (cellsP (Cv.best l))) ∧ Below w.heap.size w w' := by
  have n0 := ok.n0
  have n8 := ok.n8
  have HOK : Hid (Cv.Ok l) := ok
  obtain ⟨b, off, x0, y0, rfl, hb, h0, c0, c1⟩ := hr.lies n0
  obtain ⟨m, hm⟩ : ∃ m, l.length = m + 1 := ⟨l.length - 1, by omega⟩
  rw [hm] at hc n8 ⊢
  obtain ⟨o2, ho2, hsl⟩ := from_one b off m cap hc
  have HM : Hid (l.length = m + 1) := hm
  have HO2 : Hid (m = 0 ∨ o2 = off + 2) := ho2
  have H0 : Hid (l[0]? = some (x0, y0)) := h0
  have HR : Hid (RowO w (some ⟨b, off, none⟩) l) := hr
  have HB : Hid (∀ o ∈ l, 1 ≤ o.1 ∧ o.1 ≤ 400 ∧ 0 ≤ o.2 ∧ o.2 ≤ 1000000) := ok.all
  have HV : Hid (∀ d : Nat, 0 ≤ Cv.best l d ∧ Cv.best l d ≤ d * 1000000) := fun d => ⟨Cv.best_nonneg l HOK.out d, Cv.best_top l HOK.out d⟩
  have hz := zeroP
  have HST : Hid (BInv w ((w.alloc (.cells (Array.replicate 401 (.int .i64 0)) 44)).alloc (.cells (Array.replicate 401 (.int .i64 0)) 44)) (Cv.low l 1)) := BInv.start w l
  clear ok ho2 h0 hr c0 c1 hm n0
  go_enter Try.func22, Try.ntmps22
  go_wp2
  generalize ((w.alloc (.cells (Array.replicate 401 (.int .i64 0)) 44)).alloc (.cells (Array.replicate 401 (.int .i64 0)) 44)) = W0 at *
  clear hz
  go_loopw [4] (fun dv wr => ∃ k : Nat, 1 ≤ k ∧ k ≤ 401 ∧ dv = .int .i64 k ∧ BInv w wr (Cv.low l k)) (fun dv _ => 401 - (intOf dv).toNat)
  case atStart => exact ⟨1, by omega, by omega, rfl, HST.out⟩
  case round =>
    obtain ⟨k, hk1, hk, rfl, hinv⟩ := hrel
    have HI : Hid (BInv w wr (Cv.low l k)) := hinv
    clear hinv
    by_cases hlt : k < 401
    · have hlt' : (k : Int) < 401 := by omega
      have hk0 : (0 : Int) ≤ (k : Int) := by omega
      obtain ⟨b', off', x', y', e', -, hx', c0, c1⟩ := (HR.out.below HI.out.2.2).lies (k := 0) (by rw [HM.out]; omega)
      obtain ⟨rfl, rfl⟩ : b = b' ∧ off = off' := by simpa using e'
      obtain ⟨rfl, rfl⟩ : x' = x0 ∧ y' = y0 := by have := hx'.symm.trans H0.out; simpa using this
      rw [Nat.zero_mul, Nat.add_zero] at c0 c1
      have hbd := HB.out (x', y') (List.mem_of_getElem? H0.out)
      simp only at hbd
      have hzz := HI.out.at (k := k - x'.toNat) (by omega) _ (Cv.low_at l (by omega))
      have hvv := HV.out (k - x'.toNat)
      have HW : Hid (∀ w2, Below wr.heap.size wr w2 → (w2.cell? ⟨w.heap.size + 1, k, none⟩ = some (.int .i64 (Cv.low l k k)) ∧ w2.frozen? ⟨w.heap.size + 1, k, none⟩ = false)) := fun w2 hb2 => (HI.out.next hb2).at hlt _ rfl
      have HZ : Hid (wr.cell? ⟨w.heap.size + 1, k - x'.toNat, none⟩ = some (.int .i64 (Cv.best l (k - x'.toNat)))) := hzz.1
      have HVV : Hid (-1 ≤ Cv.best l (k - x'.toNat) ∧ Cv.best l (k - x'.toNat) ≤ 1000000000) := ⟨by omega, by omega⟩
      have HS : Hid (Cv.wth (Cv.best l) k (x', y') = y' + Cv.best l (k - x'.toNat)) := rfl
      have HX : Hid (1 ≤ x' ∧ x' ≤ 400) := ⟨hbd.1, hbd.2.1⟩
      have HY : Hid (0 ≤ y' ∧ y' ≤ 1000000) := ⟨hbd.2.2.1, hbd.2.2.2⟩
      clear hbd hzz hvv hx' e'
      generalize Cv.best l (k - x'.toNat) = z0 at *
      generalize Cv.low l k k = u0 at *
      go_wp2_with (go_at_call 23; refine (with_at (w.heap.size + 1) x' y' z0 k (k - x'.toNat) _ HX.out HY.out (by omega) rfl HZ.out HVV.out).mono ?_; rintro e w2 ⟨rfl, hb2⟩; have q1 := (HW.out w2 hb2).1; have q2 := (HW.out w2 hb2).2; have HB2 : Hid (_) := hb2; clear hb2)
      have HI3 : Hid (BInv w (w2.setCell ⟨w.heap.size + 1, k, none⟩ (.int .i64 (y' + z0))) (Cv.mid l k (Cv.mn (Cv.best l) k (l.take 1)))) := by
        refine (((HI.out.next HB2.out).store k (y' + z0)).congr fun d _ => ?_)
        unfold Cv.mid
        rw [Cv.mn_one _ _ _ _ H0.out, HS.out]
      generalize w2.setCell ⟨w.heap.size + 1, k, none⟩ (.int .i64 (y' + z0)) = W3 at *
      clear q1 q2 c0 c1 HZ HW HS HX HY HVV
      clear H0
      go_loopw [21] (fun iv wx => ∃ i : Nat, i ≤ m ∧ iv = .int .i64 i ∧ BInv w wx (Cv.mid l k (Cv.mn (Cv.best l) k (l.take (i + 1))))) (fun iv _ => m - (intOf iv).toNat)
      case atStart => exact ⟨0, by omega, rfl, HI3.out⟩
      case round =>
        obtain ⟨i, hi, rfl, hinv⟩ := hrel
        have HJ : Hid (BInv w wr (Cv.mid l k (Cv.mn (Cv.best l) k (l.take (i + 1))))) := hinv
        clear hinv
        by_cases him : i < m
        · have him' : (i : Int) < (m : Int) := by omega
          obtain rfl : o2 = off + 2 := by rcases HO2.out with c | c; exact absurd c (by omega); exact c
          obtain ⟨b', off', x, y, e', -, hx, c0, c1⟩ := (HR.out.below HJ.out.2.2).lies (k := i + 1) (by rw [HM.out]; omega)
          obtain ⟨rfl, rfl⟩ : b = b' ∧ off = off' := by simpa using e'
          have ea : off + (i + 1) * 2 = off + 2 + i * 2 := by omega
          rw [ea] at c0 c1
          have hbd := HB.out (x, y) (List.mem_of_getElem? hx)
          simp only at hbd
          have hvv := HV.out (k - x.toNat)
          have hnn : k - x.toNat < k := by omega
          have HN : Hid (Cv.mn (Cv.best l) k (l.take (i + 1 + 1)) = min (Cv.mn (Cv.best l) k (l.take (i + 1))) (y + Cv.best l (k - x.toNat))) := Cv.mn_take _ _ _ _ (by omega) _ hx
          have hz5 := HJ.out.at (k := k - x.toNat) (by omega) _ (Cv.mid_low l hnn)
          have hk5 := HJ.out.at (k := k) hlt (Cv.mn (Cv.best l) k (l.take (i + 1))) (by unfold Cv.mid; rw [if_pos rfl])
          have HV5 : Hid (-1 ≤ Cv.best l (k - x.toNat) ∧ Cv.best l (k - x.toNat) ≤ 1000000000) := ⟨by omega, by omega⟩
          have HX : Hid (1 ≤ x ∧ x ≤ 400) := ⟨hbd.1, hbd.2.1⟩
          have HY : Hid (0 ≤ y ∧ y ≤ 1000000) := ⟨hbd.2.2.1, hbd.2.2.2⟩
          clear ea hbd hvv hnn hx e' hsl
          generalize hzq : Cv.best l (k - x.toNat) = z at *
          have HZQ : Hid (Cv.best l (k - x.toNat) = z) := hzq
          clear hzq
          generalize hu : Cv.mn (Cv.best l) k (l.take (i + 1)) = u at *
          have HU : Hid (Cv.mn (Cv.best l) k (l.take (i + 1)) = u) := hu
          clear hu
          have HA : Hid (Below wr.heap.size wr (wr.alloc (.cells #[.int .i64 x, .int .i64 y] 37))) := below_box wr _
          have d0 : (wr.alloc (.cells #[.int .i64 x, .int .i64 y] 37)).cell? ⟨wr.heap.size, 0, none⟩ = some (.int .i64 x) := by simp
          have d1 : (wr.alloc (.cells #[.int .i64 x, .int .i64 y] 37)).cell? ⟨wr.heap.size, 1, none⟩ = some (.int .i64 y) := by simp
          have HJ2 : Hid (BInv w (wr.alloc (.cells #[.int .i64 x, .int .i64 y] 37)) (Cv.mid l k u)) := HJ.out.next HA.out
          go_wp2
          generalize (wr.alloc (.cells #[.int .i64 x, .int .i64 y] 37)) = W5 at *
          clear c0 c1 hz5 hk5
          have k0 : W5.cell? ⟨w.heap.size + 1, k, none⟩ = some (.int .i64 u) := (HJ2.out.at hlt _ (by unfold Cv.mid; rw [if_pos rfl])).1
          have HC : Hid (∀ wx, Below W5.heap.size W5 wx → Calls Try.prog 23 #[.pointer (some ⟨w.heap.size + 1, 0, none⟩), .agg #[.int .i64 x, .int .i64 y], .int .i64 k] wx fun e w' => e = .returned (.int .i64 (y + z)) ∧ (w'.cell? ⟨w.heap.size + 1, k, none⟩ = some (.int .i64 u) ∧ w'.frozen? ⟨w.heap.size + 1, k, none⟩ = false) ∧ BInv w w' (Cv.mid l k u)) := by
            intro wx hx
            have hj := HJ2.out.next hx
            have h5 := (hj.at (k := k - x.toNat) (by omega) _ (Cv.mid_low l (by have := HX.out; omega))).1
            rw [HZQ.out] at h5
            refine (with_at (w.heap.size + 1) x y z k (k - x.toNat) _ HX.out HY.out (by omega) rfl h5 HV5.out).mono ?_
            rintro e w' ⟨rfl, hb'⟩
            exact ⟨rfl, (hj.next hb').at hlt _ (by unfold Cv.mid; rw [if_pos rfl]), hj.next hb'⟩
          by_cases cc : y + z < u
          · have HU2 : Hid (Cv.mn (Cv.best l) k (l.take (i + 1 + 1)) = y + z) := by unfold Hid; rw [HN.out]; omega
            go_region_with (go_at_call 23; refine (HC.out _ (by first | exact Below.refl _ _ | exact (Below.refl _ _).drew)).mono ?_; rintro e w6 ⟨rfl, ⟨q1, q2⟩, hj6⟩; have HJ6 : Hid (BInv w w6 (Cv.mid l k u)) := hj6; clear hj6)
            all_goals
              go_wp2
              go_roundw
              case rel => exact ⟨i + 1, by omega, by go_num, (((HJ6.out.store k (y + z)).congr fun d _ => by rw [HU2.out]; exact Cv.mid_set l k u (y + z) d))⟩
              case measure => simp [intOf]; omega
          · have HU2 : Hid (Cv.mn (Cv.best l) k (l.take (i + 1 + 1)) = u) := by unfold Hid; rw [HN.out]; omega
            go_region_with (go_at_call 23; refine (HC.out _ (by first | exact Below.refl _ _ | exact (Below.refl _ _).drew)).mono ?_; rintro e w6 ⟨rfl, ⟨q1, q2⟩, hj6⟩; have HJ6 : Hid (BInv w w6 (Cv.mid l k u)) := hj6; clear hj6)
            all_goals
              go_wp2
              go_roundw
              case rel => exact ⟨i + 1, by omega, by go_num, (((HJ6.out.store k u).congr fun d _ => by rw [HU2.out]; exact Cv.mid_set l k u u d))⟩
              case measure => simp [intOf]; omega
        · obtain rfl : i = m := by omega
          have HK : Hid (BInv w wr (Cv.low l (k + 1))) := HJ.out.congr fun d _ => by rw [← HM.out, List.take_length]; exact Cv.mid_end l HOK.out k d (by omega)
          go_wp2
          go_roundw
          case rel => exact ⟨k + 1, by omega, by omega, by go_num, HK.out⟩
          case measure => simp [intOf]; omega
    · obtain rfl : k = 401 := by omega
      have HR1 : Hid (RowP wr w.heap.size (fun _ => 0)) := HI.out.1
      have HR2 : Hid (RowP wr (w.heap.size + 1) (Cv.best l)) := HI.out.2.1.congr fun d hd => Cv.low_at l hd
      have HBB : Hid (Below w.heap.size w wr) := HI.out.2.2
      have HR3 : Hid (RowP (wr.setRow w.heap.size (cellsP (Cv.best l))) w.heap.size (Cv.best l)) := HR1.out.row
      have HB3 : Hid (Below w.heap.size w (wr.setRow w.heap.size (cellsP (Cv.best l)))) := below_setRow HBB.out (Nat.le_refl _) _
      go_wp2_with (first
        | (refine wpList_load_row rfl 44 (.tmp 3) rfl (w.heap.size + 1) rfl _ _ _ _ HR2.out.obj undP rfl (cellsP_info _) ?_)
        | (refine wpList_store_row rfl 44 (.tmp 2) (.tmp 35) rfl w.heap.size (cellsP (Cv.best l)) rfl rfl _ _ HR1.out.obj (cellsP_info _) (by rw [cellsP_size, cellsP_size]) (cellsP_one _) ?_))
      refine bodyPost_ret (v := .agg (cellsP (Cv.best l))) (results_cell_row rfl _ _ w.heap.size _ _ _ _ rfl HR3.out.obj undP rfl (cellsP_info _)) rfl ⟨rfl, HB3.out⟩
end Go.Proofs.Ythokgbbolijgiaa
