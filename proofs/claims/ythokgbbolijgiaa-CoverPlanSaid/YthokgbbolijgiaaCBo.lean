/- The document's word on a choice of offers: its days, its price, if it is one. -/
import Derived.Test.YthokgbbolijgiaaCRef
import Derived.Test.YthokgbbolijgiaaCv2
import Derived.OwnWalk
namespace Go.Proofs.Ythokgbbolijgiaa
open Go.RowKit Go.BigFrame

/-- the answer on a choice -/
def BoAns (l : List Cv.Off) (at' often : List Int) (D P : Int) (b : Bool) : Prop :=
  (b = true ∧ (∀ j, j < at'.length → Cv.may l at' often j) ∧ D = Cv.buyD l at' often at'.length ∧ P = Cv.buyP l at' often at'.length) ∨ (b = false ∧ ¬ ∀ j, j < at'.length → Cv.may l at' often j)
def boPost (l : List Cv.Off) (at' often : List Int) (w : World) (e : Ending) (w' : World) : Prop := ∃ D P b, e = .returned (.tuple #[.int .i64 D, .int .i64 P, .bool b]) ∧ BoAns l at' often D P b ∧ w' = w
theorem boPost.mk {l : List Cv.Off} {at' often : List Int} {w : World} {D P : Int} {b : Bool} (h : BoAns l at' often D P b) : boPost l at' often w (.returned (.tuple #[.int .i64 D, .int .i64 P, .bool b])) w := ⟨D, P, b, rfl, h, rfl⟩
set_option maxRecDepth 100000 in
set_option maxHeartbeats 4000000 in
theorem bought_any (l : List Cv.Off) (at' often : List Int) (a a1 a2 : Option Addr) (cap cap1 cap2 : Nat) (w : World) (ok : Cv.Ok l) (h1 : at'.length ≤ 1000) (hr : RowO w a l) (hr1 : Row1 w a1 at') (hr2 : Row1 w a2 often) :
    Calls Try.prog 17 #[.slice a l.length cap, .slice a1 at'.length cap1, .slice a2 often.length cap2] w (boPost l at' often w) := by
  have HOK : Hid (Cv.Ok l) := ok
  have HBD : Hid (∀ o ∈ l, 1 ≤ o.1 ∧ o.1 ≤ 400 ∧ 0 ≤ o.2 ∧ o.2 ≤ 1000000) := ok.all
  have n8 := ok.n8
  have HR : Hid (RowO w a l) := hr
  have HR1 : Hid (Row1 w a1 at') := hr1
  have HR2 : Hid (Row1 w a2 often) := hr2
  obtain ⟨L, hL⟩ : ∃ L, l.length = L := ⟨_, rfl⟩
  obtain ⟨n, hn⟩ : ∃ n, at'.length = n := ⟨_, rfl⟩
  obtain ⟨m, hm⟩ : ∃ m, often.length = m := ⟨_, rfl⟩
  have HL : Hid (l.length = L) := hL
  have HN : Hid (at'.length = n) := hn
  have HM : Hid (often.length = m) := hm
  rw [hL] at n8
  rw [hn] at h1
  rw [hL, hn, hm]
  clear hL hn hm ok hr hr1 hr2
  go_enter Try.func17, Try.ntmps17
  go_wp2
  go_loop [9, 10, 11] (fun dv pv iv => ∃ i : Nat, i ≤ n ∧ dv = .int .i64 (Cv.buyD l at' often i) ∧ pv = .int .i64 (Cv.buyP l at' often i) ∧ iv = .int .i64 i ∧ ∀ j, j < i → Cv.may l at' often j) (fun _ _ iv => n - (intOf iv).toNat)
  case atStart => exact ⟨0, Nat.zero_le _, rfl, rfl, rfl, fun j hj => absurd hj (Nat.not_lt_zero j)⟩
  case round =>
    obtain ⟨i, hi, rfl, rfl, rfl, hmj⟩ := hrel
    have HMJ : Hid (∀ j, j < i → Cv.may l at' often j) := hmj
    clear hmj
    by_cases him : i < n
    · have him' : (i : Int) < (n : Int) := by omega
      obtain ⟨b1, o1, p, rfl, -, hp0, cp⟩ := HR1.out.at (k := i) (by rw [HN.out]; exact him)
      have HPP : Hid (at'.getD i 0 = p) := by show _ = _; rw [List.getD_eq_getElem?_getD, hp0]; rfl
      clear hp0
      by_cases hof : i < m
      · have hof' : (i : Int) < (m : Int) := by omega
        obtain ⟨b2, o2, nn, rfl, -, hn0, cn⟩ := HR2.out.at (k := i) (by rw [HM.out]; exact hof)
        have HNN : Hid (Cv.num often i = nn) := by show _ = _; unfold Cv.num; rw [if_pos (by rw [HM.out]; exact hof), List.getD_eq_getElem?_getD, hn0]; rfl
        clear hn0
        by_cases c1 : p < 0
        · have HF : Hid (¬ Cv.may l at' often i) := fun h => by
            unfold Cv.may at h
            rw [HPP.out, HNN.out, HL.out] at h
            omega
          go_wp2
          go_ret3
          exact boPost.mk (.inr ⟨rfl, fun h => HF.out (h i (by rw [HN.out]; exact him))⟩)
        · have e1 : decide (p < 0) = false := decide_eq_false c1
          by_cases c2 : (L : Int) ≤ p
          · have HF : Hid (¬ Cv.may l at' often i) := fun h => by
              unfold Cv.may at h
              rw [HPP.out, HNN.out, HL.out] at h
              omega
            clear c1
            go_wp2
            go_ret3
            exact boPost.mk (.inr ⟨rfl, fun h => HF.out (h i (by rw [HN.out]; exact him))⟩)
          · have e2 : decide ((L : Int) ≤ p) = false := decide_eq_false c2
            by_cases c3 : nn < 0
            · have HF : Hid (¬ Cv.may l at' often i) := fun h => by
                unfold Cv.may at h
                rw [HPP.out, HNN.out, HL.out] at h
                omega
              clear c1 c2
              go_wp2
              go_ret3
              exact boPost.mk (.inr ⟨rfl, fun h => HF.out (h i (by rw [HN.out]; exact him))⟩)
            · have e3 : decide (nn < 0) = false := decide_eq_false c3
              by_cases c4 : 1000 < nn
              · have HF : Hid (¬ Cv.may l at' often i) := fun h => by
                  unfold Cv.may at h
                  rw [HPP.out, HNN.out, HL.out] at h
                  omega
                clear c1 c2 c3
                go_wp2
                go_ret3
                exact boPost.mk (.inr ⟨rfl, fun h => HF.out (h i (by rw [HN.out]; exact him))⟩)
              · have e4 : decide (1000 < nn) = false := decide_eq_false c4
                have HMY : Hid (Cv.may l at' often i) := by unfold Hid Cv.may; rw [HPP.out, HNN.out, HL.out]; omega
                have HMY2 : Hid (∀ j, j < i + 1 → Cv.may l at' often j) := fun j hj => (Nat.lt_or_ge j i).elim (fun c => HMJ.out j c) (fun c => by obtain rfl : j = i := (by omega); exact HMY.out)
                have HBA : Hid (_) := Cv.buy_bd l HOK.out at' often i HMJ.out
                have HBB : Hid (_) := Cv.buy_bd l HOK.out at' often (i + 1) HMY2.out
                obtain ⟨q, rfl⟩ := Int.eq_ofNat_of_zero_le (show 0 ≤ p by omega)
                have hqL : q < L := by omega
                obtain ⟨b, off, x, y, rfl, -, hx, cx, cy⟩ := HR.out.lies (k := q) (by rw [HL.out]; exact hqL)
                have HOF : Hid (Cv.of l (at'.getD i 0) = (x, y)) := by show _ = _; rw [HPP.out]; unfold Cv.of; rw [List.getD_eq_getElem?_getD, Int.toNat_natCast, hx]; rfl
                have hbd := HBD.out (x, y) (List.mem_of_getElem? hx)
                simp only at hbd
                have x0 := hbd.1
                have x1 := hbd.2.1
                have y0 := hbd.2.2.1
                have y1 := hbd.2.2.2
                clear hbd hx
                have HD1 : Hid (Cv.buyD l at' often (i + 1) = Cv.buyD l at' often i + nn * x) := by show _ + _ * _ = _; rw [HNN.out, HOF.out]
                have HP1 : Hid (Cv.buyP l at' often (i + 1) = Cv.buyP l at' often i + nn * y) := by show _ + _ * _ = _; rw [HNN.out, HOF.out]
                have m1 := Cv.mul_bd nn x 400 (by omega) (by omega) (by omega) (by omega)
                have m2 := Cv.mul_bd nn y 1000000 (by omega) (by omega) (by omega) (by omega)
                have HA1 : Hid (∃ A B, nn * x = A ∧ nn * y = B) := ⟨_, _, rfl, rfl⟩
                obtain ⟨A, B, hA, hB⟩ := HA1.out
                rw [hA] at m1
                rw [hB] at m2
                obtain ⟨D0, P0, hD0, hP0⟩ : ∃ D0 P0, Cv.buyD l at' often i = D0 ∧ Cv.buyP l at' often i = P0 := ⟨_, _, rfl, rfl⟩
                have ba := HBA.out
                rw [hD0, hP0] at ba
                rw [hD0, hP0]
                have b1 := ba.1
                have b2 := ba.2.1
                have b3 := ba.2.2.1
                have b4 := ba.2.2.2
                have HD0 : Hid (Cv.buyD l at' often i = D0 ∧ Cv.buyP l at' often i = P0) := ⟨hD0, hP0⟩
                clear ba hD0 hP0 c1 c2 c3 c4
                have HAB : Hid (nn * x = A ∧ nn * y = B) := ⟨hA, hB⟩
                have g1 := m1.1
                have g2 := m1.2
                have g3 := m2.1
                have g4 := m2.2
                clear m1 m2
                go_wp2
                go_round
                case rel => exact ⟨i + 1, by omega, by rw [HD1.out, HD0.out.1, HAB.out.1], by rw [HP1.out, HD0.out.2, HAB.out.2], by go_num, HMY2.out⟩
                case measure => simp [intOf]; omega
      · have hof' : ¬ (i : Int) < (m : Int) := by omega
        have HNN : Hid (Cv.num often i = 1) := by show _ = _; unfold Cv.num; rw [if_neg (by rw [HM.out]; exact hof)]
        by_cases c1 : p < 0
        · have HF : Hid (¬ Cv.may l at' often i) := fun h => by
            unfold Cv.may at h
            rw [HPP.out, HNN.out, HL.out] at h
            omega
          go_wp2
          go_ret3
          exact boPost.mk (.inr ⟨rfl, fun h => HF.out (h i (by rw [HN.out]; exact him))⟩)
        · have e1 : decide (p < 0) = false := decide_eq_false c1
          by_cases c2 : (L : Int) ≤ p
          · have HF : Hid (¬ Cv.may l at' often i) := fun h => by
              unfold Cv.may at h
              rw [HPP.out, HNN.out, HL.out] at h
              omega
            clear c1
            go_wp2
            go_ret3
            exact boPost.mk (.inr ⟨rfl, fun h => HF.out (h i (by rw [HN.out]; exact him))⟩)
          · have e2 : decide ((L : Int) ≤ p) = false := decide_eq_false c2
            have HMY : Hid (Cv.may l at' often i) := by unfold Hid Cv.may; rw [HPP.out, HNN.out, HL.out]; omega
            have HMY2 : Hid (∀ j, j < i + 1 → Cv.may l at' often j) := fun j hj => (Nat.lt_or_ge j i).elim (fun c => HMJ.out j c) (fun c => by obtain rfl : j = i := (by omega); exact HMY.out)
            have HBA : Hid (_) := Cv.buy_bd l HOK.out at' often i HMJ.out
            have HBB : Hid (_) := Cv.buy_bd l HOK.out at' often (i + 1) HMY2.out
            obtain ⟨q, rfl⟩ := Int.eq_ofNat_of_zero_le (show 0 ≤ p by omega)
            have hqL : q < L := by omega
            obtain ⟨b, off, x, y, rfl, -, hx, cx, cy⟩ := HR.out.lies (k := q) (by rw [HL.out]; exact hqL)
            have HOF : Hid (Cv.of l (at'.getD i 0) = (x, y)) := by show _ = _; rw [HPP.out]; unfold Cv.of; rw [List.getD_eq_getElem?_getD, Int.toNat_natCast, hx]; rfl
            have hbd := HBD.out (x, y) (List.mem_of_getElem? hx)
            simp only at hbd
            have x0 := hbd.1
            have x1 := hbd.2.1
            have y0 := hbd.2.2.1
            have y1 := hbd.2.2.2
            clear hbd hx
            have HD1 : Hid (Cv.buyD l at' often (i + 1) = Cv.buyD l at' often i + 1 * x) := by show _ + _ * _ = _; rw [HNN.out, HOF.out]
            have HP1 : Hid (Cv.buyP l at' often (i + 1) = Cv.buyP l at' often i + 1 * y) := by show _ + _ * _ = _; rw [HNN.out, HOF.out]
            obtain ⟨D0, P0, hD0, hP0⟩ : ∃ D0 P0, Cv.buyD l at' often i = D0 ∧ Cv.buyP l at' often i = P0 := ⟨_, _, rfl, rfl⟩
            have ba := HBA.out
            rw [hD0, hP0] at ba
            rw [hD0, hP0]
            have b1 := ba.1
            have b2 := ba.2.1
            have b3 := ba.2.2.1
            have b4 := ba.2.2.2
            have HD0 : Hid (Cv.buyD l at' often i = D0 ∧ Cv.buyP l at' often i = P0) := ⟨hD0, hP0⟩
            clear ba hD0 hP0 c1 c2
            go_wp2
            go_round
            case rel => exact ⟨i + 1, by omega, by rw [HD1.out, HD0.out.1, Int.one_mul], by rw [HP1.out, HD0.out.2, Int.one_mul], by go_num, HMY2.out⟩
            case measure => simp [intOf]; omega
    · obtain rfl : i = n := by omega
      have HE : Hid (BoAns l at' often (Cv.buyD l at' often i) (Cv.buyP l at' often i) true) := .inl ⟨rfl, by rw [HN.out]; exact HMJ.out, by rw [HN.out], by rw [HN.out]⟩
      obtain ⟨D0, P0, hD0, hP0⟩ : ∃ D0 P0, Cv.buyD l at' often i = D0 ∧ Cv.buyP l at' often i = P0 := ⟨_, _, rfl, rfl⟩
      rw [hD0, hP0] at HE
      rw [hD0, hP0]
      clear hD0 hP0
      go_wp2
      go_ret3
      exact boPost.mk HE.out
end Go.Proofs.Ythokgbbolijgiaa
