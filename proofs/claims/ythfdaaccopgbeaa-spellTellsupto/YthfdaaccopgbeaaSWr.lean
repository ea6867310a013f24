/- The walk of package spell: a text is written by letters. -/
import Derived.Test.YthfdaaccopgbeaaSBld
import Derived.Lib.ConvBytes
import Derived.Deep.DeepCutAuto
namespace Go.Proofs.Ythfdaaccopgbeaa
open Go.RowKit

def Sp.wr (s : ByteArray) : ByteArray := ⟨(Sp.wrl s.data.toList).toArray⟩
def Sp.wc (s : ByteArray) : Int := Sp.wrc s.data.toList
theorem list_len (s : ByteArray) : s.data.toList.length = s.size := by rw [Array.length_toList]; rfl
theorem bytes_ex (s : ByteArray) (w : World) : ∃ W cp, (convert 9 35 (.string s)).run Try.prog w = .ok (.slice (some ⟨w.heap.size, 0, none⟩) s.size cp) W ∧ RowB W (some ⟨w.heap.size, 0, none⟩) (Sp.nat s.data.toList) ∧ Below w.heap.size w W := by
  refine ⟨_, _, Lib.run_convert_string_bytes w _ _ 5 s Try.underlying9 Try.underlying35 Try.underlying5, .inr ⟨_, 0, rfl, by rw [Lib.bytesWorld_size]; omega, ?_⟩, ?_⟩
  · intro i hi
    rw [Sp.nat_length, list_len] at hi
    rw [Nat.zero_add, Lib.bytesWorld_cell w _ s i hi]
    congr 2
    unfold Sp.nat
    have h2 : i < s.data.toList.length := by rw [list_len]; exact hi
    simp [List.getD, List.getElem?_map, List.getElem?_eq_getElem h2]
  · exact ⟨rfl, rfl, rfl, by rw [Lib.bytesWorld_size]; omega, fun i hi => Lib.bytesWorld_at_old w _ s i hi⟩
set_option maxRecDepth 100000 in
set_option maxHeartbeats 4000000 in
theorem pWrite (s : ByteArray) (w : World) (hs : s.size ≤ 140737488355328) :
    Calls Try.prog 7 #[.string s] w fun e w' => e = .returned (.tuple #[.string (Sp.wr s), .int .i64 (Sp.wc s)]) ∧ Below w.heap.size w w' := by
  have Hlen : Hid (s.data.toList.length = s.size) := list_len s
  by_cases h120 : s.size ≤ 120
  · have Hwc : Hid (Sp.wc s = 0) := by show _ = _; unfold Sp.wc Sp.wrc; rw [Hlen.out, if_pos h120]
    have Hwr : Hid (Sp.wr s = ⟨((Sp.fv s.data.toList).map Sp.letter).toArray⟩) := by show _ = _; unfold Sp.wr Sp.wrl; rw [Hlen.out, if_pos h120]
    obtain ⟨M, hM⟩ : ∃ M, (Sp.fv s.data.toList).length = M := ⟨_, rfl⟩
    have HM : Hid ((Sp.fv s.data.toList).length = M) := hM
    have hMl : M ≤ 192 := by
      rw [← hM, Sp.fv_length, Hlen.out]
      show (8 * s.size + 4) / 5 ≤ 192
      omega
    clear hM
    obtain ⟨W0, cp, hcv, hr0, hb0⟩ := bytes_ex s w
    obtain ⟨i0, hi, hz0, hz1, hz2⟩ := info_parts infoF
    have HI : Hid (Try.prog.info? 34 = some i0 ∧ i0.zero = some (.int .u8 0) ∧ i0.size = 1 ∧ i0.bytes = 1) := ⟨hi, hz0, hz1, hz2⟩
    have h120z : (s.size : Int) ≤ 120 := by omega
    clear hi hz0 hz1 hz2
    go_enter Try.func7, Try.ntmps7
    go_upto_region 4 with (go_at_call 14; refine (reg85_any (Sp.nat s.data.toList) s.size (by rw [Sp.nat_length, list_len]) _ _ _ (Sp.nat_lt _) (by omega) hr0).mono ?_; rintro e W1 ⟨v, fs, x, m, rfl, hg, hm, hown, hb1⟩; obtain ⟨ra, rc, hv, hrow0⟩ := hown.row; subst hv; clear hrow0)
    have hfv := Sp.fv_of _ _ _ _ hg hm
    have hxl : x < 16 := Nat.lt_of_lt_of_le hg.lt (by have := Nat.pow_le_pow_right (n := 2) (by decide) (show m ≤ 4 by omega); omega)
    have hfl : fs.length ≤ 192 := by have e := hg.len; rw [Sp.nat_length, list_len] at e; omega
    have hsz0 : w.heap.size ≤ W0.heap.size := hb0.size
    have hsz1 : W0.heap.size ≤ W1.heap.size := hb1.size
    have HB1 : Hid (Below w.heap.size w W1) := hb0.trans (hb1.mono hsz0)
    have HO1 : Hid (OwnB W1 34 w.heap.size (.slice ra fs.length rc) fs) := hown.weak hsz0
    by_cases h0 : m = 0
    · rw [if_pos h0] at hfv
      have hm0 : ¬ (0 : Int) < (m : Int) := by omega
      have hfM : fs.length = M := by rw [← hfv]; exact HM.out
      rw [hfM]
      rw [hfM] at HO1
      have HRW : Hid (RowB W1 ra (Sp.fv s.data.toList)) := by
        obtain ⟨ra2, rc2, hv2, hrow⟩ := HO1.out.row
        injection hv2 with a b c
        rw [a, hfv]
        exact hrow
      have HBW := HB1.out
      clear hfv hg hown hb1 hr0 hb0 HO1 hcv h0 hfM hfl
      generalize W1 = W at HRW HBW HB1 hsz1 ⊢
      have hB0 : Hid (Below w.heap.size w W) := HBW
      clear HBW
      go_wp2
      go_loopw [9, 32] (fun _ iv wr => ∃ k : Nat, k ≤ M ∧ iv = .int .i64 (k : Int) ∧ Lib.IsBuilderF 38 5 W.heap.size W.heap.size (Lib.byteCells (((Sp.fv s.data.toList).take k).map Sp.letter)) wr ∧ Below W.heap.size W wr) (fun _ iv _ => M - (intOf iv).toNat)
      case atStart => exact ⟨0, Nat.zero_le _, rfl, Lib.IsBuilderF.of (Lib.fresh_isBuilder _ _ W), (Below.refl _ W).alloc (Nat.le_refl _) _⟩
      case round =>
        obtain ⟨k, hk, rfl, hI, hbw⟩ := hrel
        have hsz : W.heap.size ≤ wr.heap.size := hbw.size
        by_cases hlt : k < M
        · obtain ⟨ba, off, n, had, hba, hn, hc⟩ := HRW.out.at (k := k) (by rw [HM.out]; exact hlt)
          have hcw : wr.cell? ⟨ba, off + k, none⟩ = some (.int .u8 ((n : Nat) : Int)) := (hbw.cell (p := ⟨ba, off + k, none⟩) hba).trans hc
          have hnl : n < 32 := Sp.fv_lt _ n (List.mem_of_getElem? hn)
          have h128 := letter_lt n hnl
          have HT : Hid (Lib.byteCells (((Sp.fv s.data.toList).take (k + 1)).map Sp.letter) = Lib.byteCells (((Sp.fv s.data.toList).take k).map Sp.letter) ++ [.int .u8 (((Sp.letter n).toNat : Nat) : Int)]) := by
            show _ = _
            rw [List.take_add_one, hn, List.map_append, Lib.byteCells_append]
            rfl
          have hbl : (Lib.byteCells (((Sp.fv s.data.toList).take k).map Sp.letter)).length ≤ 192 := by
            rw [Lib.byteCells_length, List.length_map, List.length_take, HM.out]; omega
          have hltz : (k : Int) < (M : Int) := by omega
          have hMz : (M : Int) ≤ 192 := by omega
          have HI2 : Hid (Lib.IsBuilderF 38 5 W.heap.size W.heap.size (Lib.byteCells (((Sp.fv s.data.toList).take k).map Sp.letter)) wr) := hI
          have HBw2 : Hid (Below W.heap.size W wr) := hbw
          subst had
          clear hn hc hI hbw
          go_wp2_with (first
            | (go_at_call 16; refine (letter_any n hnl _).mono ?_; rintro e w1 ⟨rfl, hw1⟩; rw [hw1]; clear hw1)
            | (go_at_call 15; refine (write_rune W.heap.size W.heap.size _ (Sp.letter n).toNat h128 _ HI2.out (by omega) hsz).mono ?_; rintro e w1 ⟨rfl, h1, b1⟩))
          have H1 : Hid (Lib.IsBuilderF 38 5 W.heap.size W.heap.size (Lib.byteCells (((Sp.fv s.data.toList).take (k + 1)).map Sp.letter)) w1) := by rw [HT.out]; exact h1
          have HB1 : Hid (Below W.heap.size W w1) := HBw2.out.trans b1
          clear h1 b1 HT
          go_wp2
          go_roundw
          case rel => exact ⟨k + 1, by omega, by go_num, H1.out, HB1.out⟩
          case measure => simp [intOf] <;> omega
        · have hltz : ¬ (k : Int) < (M : Int) := by omega
          have HE : Hid ((Sp.fv s.data.toList).take k = Sp.fv s.data.toList) := by show _ = _; apply List.take_of_length_le; rw [HM.out]; omega
          rw [HE.out] at hI
          have HI2 : Hid (Lib.IsBuilderF 38 5 W.heap.size W.heap.size (Lib.byteCells ((Sp.fv s.data.toList).map Sp.letter)) wr) := hI
          have HBw2 : Hid (Below W.heap.size W wr) := hbw
          clear hI hbw HE
          go_wp2_with (go_at_call 17; refine (bString W.heap.size W.heap.size _ _ HI2.out hsz).mono ?_; rintro e w1 ⟨rfl, b1⟩)
          go_wp2
          go_ret2
          exact ⟨by rw [Hwr.out, Hwc.out]; rfl, hB0.out.trans ((HBw2.out.trans b1).mono hB0.out.size)⟩
    · rw [if_neg h0] at hfv
      obtain ⟨K, hK⟩ : ∃ K, 5 - m = K := ⟨_, rfl⟩
      rw [hK] at hfv
      obtain ⟨P, hP⟩ : ∃ P, 2 ^ K = P := ⟨_, rfl⟩
      obtain ⟨D, hD⟩ : ∃ D, x * 2 ^ K = D := ⟨_, rfl⟩
      rw [hD] at hfv
      have hDl : D < 32 := by
        have e := Sp.fv_lt s.data.toList D (by rw [hfv]; simp)
        exact e
      have q0 : (5 : Int) - (m : Int) = (K : Int) := by omega
      have q1 : (2 : Int) ^ K = (P : Int) := by rw [← hP, Int.natCast_pow]; rfl
      have q2 : (x : Int) * (P : Int) = (D : Int) := by rw [← hD, hP]; rfl
      have q3 : (D : Int) % 18446744073709551616 = (D : Int) := by omega
      have q4 : (D : Int) % 256 = (D : Int) := by omega
      have hmz : (0 : Int) < (m : Int) := by omega
      have hKz : (K : Int) ≤ 5 := by omega
      have hszw : w.heap.size ≤ W1.heap.size := by omega
      clear hcv hg hown hb1 hr0 hb0 hP hD hK hxl h0
      have HFV : Hid (Sp.fv s.data.toList = fs ++ [D]) := hfv
      clear hfv
      go_upto_region 6 with (at_builtin; refine wpList_append_own _ rfl (.tmp 22) (.tmp 28) 30 rfl w.heap.size 34 i0 (.int .u8 0) 1 1 Try.underlying30 HI.out.1 HI.out.2.1 HI.out.2.2.1 HI.out.2.2.2 rfl (by decide) _ _ _ rfl (World.ownsRow.alloc HO1.out _) ⟨W1.heap.size, 0, none⟩ 1 1 [.int .u8 (D : Int)] rfl rfl (cellB_new _ _ _) (oneB _) (by unfold maxLen; omega) (by omega) (by first | omega | (simp; omega)) ?_; intro v1 w1 own1 grow1 _; have HR2 := OwnB.keep hszw HO1.out HB1.out own1 grow1; rw [← HFV.out] at HR2; obtain ⟨ra2, rc2, hv2, hrow2⟩ := HR2.1.row; rw [HM.out] at hv2; subst hv2)
      have HRW : Hid (RowB w1 ra2 (Sp.fv s.data.toList)) := hrow2
      have HBW := HR2.2
      clear own1 grow1 HR2 q0 q1 q2 q3 q4 hmz hKz HFV hDl hrow2
      generalize w1 = W at HRW HBW ⊢
      have hB0 : Hid (Below w.heap.size w W) := HBW
      clear HBW
      go_wp2
      go_loopw [9, 32] (fun _ iv wr => ∃ k : Nat, k ≤ M ∧ iv = .int .i64 (k : Int) ∧ Lib.IsBuilderF 38 5 W.heap.size W.heap.size (Lib.byteCells (((Sp.fv s.data.toList).take k).map Sp.letter)) wr ∧ Below W.heap.size W wr) (fun _ iv _ => M - (intOf iv).toNat)
      case atStart => exact ⟨0, Nat.zero_le _, rfl, Lib.IsBuilderF.of (Lib.fresh_isBuilder _ _ W), (Below.refl _ W).alloc (Nat.le_refl _) _⟩
      case round =>
        obtain ⟨k, hk, rfl, hI, hbw⟩ := hrel
        have hsz : W.heap.size ≤ wr.heap.size := hbw.size
        by_cases hlt : k < M
        · obtain ⟨ba, off, n, had, hba, hn, hc⟩ := HRW.out.at (k := k) (by rw [HM.out]; exact hlt)
          have hcw : wr.cell? ⟨ba, off + k, none⟩ = some (.int .u8 ((n : Nat) : Int)) := (hbw.cell (p := ⟨ba, off + k, none⟩) hba).trans hc
          have hnl : n < 32 := Sp.fv_lt _ n (List.mem_of_getElem? hn)
          have h128 := letter_lt n hnl
          have HT : Hid (Lib.byteCells (((Sp.fv s.data.toList).take (k + 1)).map Sp.letter) = Lib.byteCells (((Sp.fv s.data.toList).take k).map Sp.letter) ++ [.int .u8 (((Sp.letter n).toNat : Nat) : Int)]) := by
            show _ = _
            rw [List.take_add_one, hn, List.map_append, Lib.byteCells_append]
            rfl
          have hbl : (Lib.byteCells (((Sp.fv s.data.toList).take k).map Sp.letter)).length ≤ 192 := by
            rw [Lib.byteCells_length, List.length_map, List.length_take, HM.out]; omega
          have hltz : (k : Int) < (M : Int) := by omega
          have hMz : (M : Int) ≤ 192 := by omega
          have HI2 : Hid (Lib.IsBuilderF 38 5 W.heap.size W.heap.size (Lib.byteCells (((Sp.fv s.data.toList).take k).map Sp.letter)) wr) := hI
          have HBw2 : Hid (Below W.heap.size W wr) := hbw
          subst had
          clear hn hc hI hbw
          go_wp2_with (first
            | (go_at_call 16; refine (letter_any n hnl _).mono ?_; rintro e w1 ⟨rfl, hw1⟩; rw [hw1]; clear hw1)
            | (go_at_call 15; refine (write_rune W.heap.size W.heap.size _ (Sp.letter n).toNat h128 _ HI2.out (by omega) hsz).mono ?_; rintro e w1 ⟨rfl, h1, b1⟩))
          have H1 : Hid (Lib.IsBuilderF 38 5 W.heap.size W.heap.size (Lib.byteCells (((Sp.fv s.data.toList).take (k + 1)).map Sp.letter)) w1) := by rw [HT.out]; exact h1
          have HB1 : Hid (Below W.heap.size W w1) := HBw2.out.trans b1
          clear h1 b1 HT
          go_wp2
          go_roundw
          case rel => exact ⟨k + 1, by omega, by go_num, H1.out, HB1.out⟩
          case measure => simp [intOf] <;> omega
        · have hltz : ¬ (k : Int) < (M : Int) := by omega
          have HE : Hid ((Sp.fv s.data.toList).take k = Sp.fv s.data.toList) := by show _ = _; apply List.take_of_length_le; rw [HM.out]; omega
          rw [HE.out] at hI
          have HI2 : Hid (Lib.IsBuilderF 38 5 W.heap.size W.heap.size (Lib.byteCells ((Sp.fv s.data.toList).map Sp.letter)) wr) := hI
          have HBw2 : Hid (Below W.heap.size W wr) := hbw
          clear hI hbw HE
          go_wp2_with (go_at_call 17; refine (bString W.heap.size W.heap.size _ _ HI2.out hsz).mono ?_; rintro e w1 ⟨rfl, b1⟩)
          go_wp2
          go_ret2
          exact ⟨by rw [Hwr.out, Hwc.out]; rfl, hB0.out.trans ((HBw2.out.trans b1).mono hB0.out.size)⟩
  · have Hwc : Hid (Sp.wc s = 2) := by show _ = _; unfold Sp.wc Sp.wrc; rw [Hlen.out, if_neg h120]
    have Hwr : Hid (Sp.wr s = ⟨#[]⟩) := by show _ = _; unfold Sp.wr Sp.wrl; rw [Hlen.out, if_neg h120]
    have h120z : ¬ (s.size : Int) ≤ 120 := by omega
    go_enter Try.func7, Try.ntmps7
    go_wp2
    go_ret2
    exact ⟨by rw [Hwr.out, Hwc.out]; rfl, Below.refl _ _⟩
end Go.Proofs.Ythfdaaccopgbeaa
