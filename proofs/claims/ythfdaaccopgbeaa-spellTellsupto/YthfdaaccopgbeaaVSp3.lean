/- The document's answer on spelling: what letters spell. -/
import Derived.Test.YthfdaaccopgbeaaVSp2
import Derived.Test.YthfdaaccopgbeaaRow1
namespace Go.Proofs.Ythfdaaccopgbeaa
open Go.RowKit

def bz (l : List Bool) : List Int := l.map fun b => ((b.toNat : Nat) : Int)
theorem bz_len (l : List Bool) : (bz l).length = l.length := by simp [bz]
theorem bz_snoc (l : List Bool) (b : Bool) : bz (l ++ [b]) = bz l ++ [((b.toNat : Nat) : Int)] := by simp [bz]
theorem bz_get {l : List Bool} {i : Nat} {b : Bool} (h : l[i]? = some b) : (bz l)[i]? = some ((b.toNat : Nat) : Int) := by simp [bz, h]
theorem bt_take_snoc (n j : Nat) (h : j < 5) : (Sp.bt 5 n).take (j + 1) = (Sp.bt 5 n).take j ++ [n.testBit (4 - j)] := by
  rw [List.take_add_one, Sp.bt_get 5 n j h]
  rfl
theorem bit_val (n e W : Nat) (hW : W = 2 ^ e) : ((n : Int) / (W : Int)) % 2 = (((n.testBit e).toNat : Nat) : Int) := by
  rw [Nat.toNat_testBit, hW]
  rfl
set_option maxRecDepth 100000 in
set_option maxHeartbeats 8000000 in
theorem unspelled_any (s : ByteArray) (w : World) (hs : s.size ≤ 1048576) :
    Calls Try.prog 11 #[.string s] w fun e w' => e = .returned (.tuple #[.string (Sp.rd s), .int .i64 (Sp.rc s)]) ∧ Below w.heap.size w w' := by
  obtain ⟨i0, hi, hz0, hz1, hz2⟩ := info_parts infoInt
  have HI : Hid (Try.prog.info? 3 = some i0 ∧ i0.zero = some (.int .i64 0) ∧ i0.size = 1 ∧ i0.bytes = 8) := ⟨hi, hz0, hz1, hz2⟩
  clear hi hz0 hz1 hz2
  have HErr : Hid (Sp.rc s ≠ 0 → Sp.rd s = ⟨#[]⟩) := by intro h; unfold Sp.rd; rw [Sp.rdl_err h]
  have HBad : Hid (Sp.bad s.data.toList = true → Sp.rc s = 1) := by intro h; unfold Sp.rc Sp.rdc; rw [h, if_pos rfl]
  have HOdd : Hid (Sp.bad s.data.toList = false → Sp.odd (Sp.keep s.data.toList).length = true → Sp.rc s = 1) := by intro h h2; unfold Sp.rc Sp.rdc; rw [h, if_neg (by decide), h2, if_pos rfl]
  have HMany : Hid (Sp.bad s.data.toList = false → Sp.odd (Sp.keep s.data.toList).length = false → 120 < Sp.sz s.data.toList → Sp.rc s = 2) := by intro h h2 h3; unfold Sp.rc Sp.rdc; rw [h, if_neg (by decide), h2, if_neg (by decide), if_pos h3]
  have HAny : Hid (Sp.bad s.data.toList = false → Sp.odd (Sp.keep s.data.toList).length = false → ¬ 120 < Sp.sz s.data.toList → ((Sp.flat 5 (Sp.keep s.data.toList)).drop (8 * Sp.sz s.data.toList)).any id = true → Sp.rc s = 1) := by intro h h2 h3 h4; unfold Sp.rc Sp.rdc; rw [h, if_neg (by decide), h2, if_neg (by decide), if_neg h3, if_pos h4]
  have HOk : Hid (Sp.bad s.data.toList = false → Sp.odd (Sp.keep s.data.toList).length = false → ¬ 120 < Sp.sz s.data.toList → ((Sp.flat 5 (Sp.keep s.data.toList)).drop (8 * Sp.sz s.data.toList)).any id = false → Sp.rc s = 0 ∧ Sp.rd s = bx ((Sp.chunk 8 (Sp.sz s.data.toList) (Sp.flat 5 (Sp.keep s.data.toList))).map UInt8.ofNat)) := by
    intro h h2 h3 h4
    have e : Sp.rdc s.data.toList = 0 := by unfold Sp.rdc; rw [h, if_neg (by decide), h2, if_neg (by decide), if_neg h3, h4, if_neg (by decide)]
    refine ⟨e, ?_⟩
    unfold Sp.rd Sp.rdl
    rw [if_pos e]
    rfl
  have Hkl : Hid ((Sp.keep s.data.toList).length ≤ s.size) := Nat.le_trans (Sp.keep_length _) (by rw [list_len]; omega)
  have hsz : (s.size : Int) ≤ 1048576 := by omega
  go_enter Try.func11, Try.ntmps11
  go_wp2
  go_loopw [4, 5, 6, 7, 8] (fun v m i _ _ wr => ∃ pos N : Nat, pos ≤ s.size ∧ N ≤ pos ∧ m = .int .i64 (N : Int) ∧ i = .int .i64 (pos : Int) ∧ Hid ((Sp.keep (s.data.toList.take pos)).length = N) ∧ Hid (Sp.bad (s.data.toList.take pos) = false) ∧ Hid (OwnI wr w.heap.size v (bz (Sp.flat 5 (Sp.keep (s.data.toList.take pos))))) ∧ Hid (Below w.heap.size w wr)) (fun _ _ i _ _ _ => s.size - (intOf i).toNat)
  case atStart => exact ⟨0, 0, Nat.zero_le _, Nat.zero_le _, rfl, rfl, (rfl : (Sp.keep (s.data.toList.take 0)).length = 0), (rfl : Sp.bad (s.data.toList.take 0) = false), OwnI.nil _ _, Below.refl _ w⟩
  case round =>
    obtain ⟨pos, N, hpos, hN, rfl, rfl, HN, HB, HO, HX⟩ := hrel
    by_cases hp : pos < s.size
    · have HT := take_snoc s pos hp
      have HK := Sp.keep_snoc (s.data.toList.take pos) (s[pos]'hp)
      have HBd := Sp.bad_snoc (s.data.toList.take pos) (s[pos]'hp)
      rw [← HT] at HK HBd
      rw [HB.out, Bool.false_or] at HBd
      clear HT HB
      have hpz : (pos : Int) < (s.size : Int) := by omega
      have HL := rletter_any (s[pos]'hp)
      have hlt := lt_or (s[pos]'hp)
      have h45 := lt_45 (s[pos]'hp)
      have hltv : Sp.lt (s[pos]'hp) < 32 ∨ Sp.lt (s[pos]'hp) = 32 ∨ Sp.lt (s[pos]'hp) = 33 := by
        rcases hlt with h | h | h
        · exact .inl h
        · exact .inr (.inr h.1)
        · exact .inr (.inl (h45 h))
      have HLC : Hid (∀ wx, Calls Try.prog 22 #[.int .u8 (((s[pos]'hp).toNat : Nat) : Int)] wx fun e w' => e = .returned (.int .i64 ((Sp.lt (s[pos]'hp) : Nat) : Int)) ∧ w' = wx) := HL
      clear HL hlt h45
      generalize Sp.lt (s[pos]'hp) = n at *
      rcases hltv with h32 | rfl | rfl
      · rw [if_pos h32] at HK
        have HB2 : Hid (Sp.bad (s.data.toList.take (pos + 1)) = false) := by show _ = _; rw [HBd]; simp; omega
        have HN2 : Hid ((Sp.keep (s.data.toList.take (pos + 1))).length = N + 1) := by show _ = _; rw [HK, List.length_append, HN.out]; rfl
        have HK2 : Hid (Sp.flat 5 (Sp.keep (s.data.toList.take (pos + 1))) = Sp.flat 5 (Sp.keep (s.data.toList.take pos)) ++ Sp.bt 5 n) := by show _ = _; rw [HK, Sp.flat_append]; simp [Sp.flat]
        have hfl : (Sp.flat 5 (Sp.keep (s.data.toList.take pos))).length ≤ 5242880 := by rw [Sp.flat_length, HN.out]; omega
        clear HK HBd
        obtain ⟨fl2, hfl2⟩ : ∃ fl2, Sp.flat 5 (Sp.keep (s.data.toList.take (pos + 1))) = fl2 := ⟨_, rfl⟩
        have HFL : Hid (Sp.flat 5 (Sp.keep (s.data.toList.take (pos + 1))) = fl2) := hfl2
        rw [hfl2] at HK2
        clear hfl2
        generalize Sp.flat 5 (Sp.keep (s.data.toList.take pos)) = fl at *
        have n1 : ¬ ((n : Nat) : Int) = 33 := by omega
        have n2 : ((n : Nat) : Int) < 32 := by omega
        have n3 : (((n : Nat) : Int) == 33) = false := by simpa using n1
        have hNz : (N : Int) ≤ 1048576 := by omega
        go_wp2_with (go_at_call 22; refine (HLC.out _).mono ?_; rintro e w1 ⟨rfl, hw1⟩; rw [hw1]; clear hw1)
        go_loopw [4, 8] (fun v ww wi => ∃ j W : Nat, j ≤ 5 ∧ Hid (W = if j < 5 then 2 ^ (4 - j) else 0) ∧ ww = .int .i64 (W : Int) ∧ Hid (OwnI wi w.heap.size v (bz (fl ++ (Sp.bt 5 n).take j))) ∧ Hid (Below w.heap.size w wi)) (fun _ ww _ => (intOf ww).toNat)
        case atStart => exact ⟨0, 16, Nat.zero_le _, (rfl : 16 = if 0 < 5 then 2 ^ (4 - 0) else 0), rfl, (by show OwnI _ _ _ _; rw [List.take_zero, List.append_nil]; exact HO.out), HX⟩
        case round =>
          obtain ⟨j, W, hj, HW, rfl, HO2, HX2⟩ := hrel
          by_cases hj5 : j < 5
          · have hW : W = 2 ^ (4 - j) := by have e := HW.out; rw [if_pos hj5] at e; exact e
            have hWb : 1 ≤ W ∧ W ≤ 16 := by
              rw [hW]
              exact ⟨Nat.pow_pos (by decide), Nat.pow_le_pow_right (n := 2) (by decide) (show 4 - j ≤ 4 by omega)⟩
            have hWz : (1 : Int) ≤ (W : Int) := by omega
            have hW2 : W / 2 = if j + 1 < 5 then 2 ^ (4 - (j + 1)) else 0 := by
              rw [hW]
              have : j = 0 ∨ j = 1 ∨ j = 2 ∨ j = 3 ∨ j = 4 := by omega
              rcases this with rfl | rfl | rfl | rfl | rfl <;> rfl
            have HW2 : Hid (W / 2 = if j + 1 < 5 then 2 ^ (4 - (j + 1)) else 0) := hW2
            obtain ⟨b, hb⟩ : ∃ b, (n.testBit (4 - j)).toNat = b := ⟨_, rfl⟩
            have hbv := bit_val n (4 - j) W hW
            rw [hb] at hbv
            have HT : Hid (bz (fl ++ (Sp.bt 5 n).take (j + 1)) = bz (fl ++ (Sp.bt 5 n).take j) ++ [(b : Int)]) := by
              show _ = _
              rw [bt_take_snoc n j hj5, ← List.append_assoc, bz_snoc, hb]
            have hbl : (bz (fl ++ (Sp.bt 5 n).take j)).length ≤ 5242890 := by rw [bz_len, List.length_append, List.length_take]; omega
            have hws : w.heap.size ≤ wr.heap.size := HX2.out.size
            have hb1 : b ≤ 1 := by rw [← hb]; cases n.testBit (4 - j) <;> decide
            generalize bz (fl ++ (Sp.bt 5 n).take j) = bits at *
            have hnW : (0 : Int) ≤ ((n : Nat) : Int) / (W : Int) := Int.ediv_nonneg (by omega) (by omega)
            have hnW2 : ((n : Nat) : Int) / (W : Int) ≤ 32 := by
              have := Nat.div_le_self n W
              have e : ((n : Nat) : Int) / (W : Int) = ((n / W : Nat) : Int) := rfl
              omega
            have hW16 : (W : Int) ≤ 16 := by omega
            have hWn : ¬ (W : Int) = 0 := by omega
            clear hb hW hW2 HW
            generalize hQ : ((n : Nat) : Int) / (W : Int) = Q at *
            go_wp2_with (at_builtin; refine wpList_append_own _ rfl (.tmp 35) (.tmp 40) 51 rfl w.heap.size 3 i0 (.int .i64 0) 1 8 Try.underlying51 HI.out.1 HI.out.2.1 HI.out.2.2.1 HI.out.2.2.2 rfl (by decide) _ _ _ rfl (World.ownsRow.alloc HO2.out _) ⟨wr.heap.size, 0, none⟩ 1 1 [.int .i64 (b : Int)] rfl rfl (cell1_new _ _ _) (one1 _) (by unfold maxLen; omega) (by omega) (by first | omega | (simp; omega)) ?_; intro v1 w1 own1 grow1 _)
            obtain ⟨ho, hbb⟩ := OwnI.keep hws HO2.out HX2.out own1 grow1
            rw [← HT.out] at ho
            have HO3 : Hid (OwnI w1 w.heap.size v1 (bz (fl ++ (Sp.bt 5 n).take (j + 1)))) := ho
            have HX3 : Hid (Below w.heap.size w w1) := hbb
            clear ho hbb own1 grow1
            go_wp2
            go_roundw
            case rel => exact ⟨j + 1, W / 2, by omega, HW2, rfl, HO3, HX3⟩
            case measure => simp [intOf]; omega
          · have hW0 : W = 0 := by have e := HW.out; rw [if_neg hj5] at e; exact e
            subst hW0
            have HE : Hid (bz (fl ++ (Sp.bt 5 n).take j) = bz fl2) := by
              show _ = _
              rw [HK2.out, List.take_of_length_le (by rw [Sp.bt_length]; omega)]
            rw [HE.out] at HO2
            clear HE HW
            go_wp2
            go_roundw
            case rel => exact ⟨pos + 1, N + 1, by omega, by omega, by go_num, by go_num, HN2, HB2, by rw [HFL.out]; exact HO2, HX2⟩
            case measure => simp [intOf]; omega
      · rw [if_neg (by decide), List.append_nil] at HK
        have HB2 : Hid (Sp.bad (s.data.toList.take (pos + 1)) = false) := HBd
        rw [← HK] at HN HO
        clear HK HBd
        go_wp2_with (go_at_call 22; refine (HLC.out _).mono ?_; rintro e w1 ⟨rfl, hw1⟩; rw [hw1]; clear hw1)
        go_roundw
        case rel => exact ⟨pos + 1, N, by omega, by omega, rfl, by go_num, HN, HB2, HO, HX⟩
        case measure => simp [intOf]; omega
      · have hb := Sp.bad_take _ _ HBd
        have hc := HBad.out hb
        have he := HErr.out (by rw [hc]; decide)
        have HE : Hid (Sp.rd s = ⟨#[]⟩ ∧ Sp.rc s = 1) := ⟨he, hc⟩
        clear hb hc he HK HBd
        go_wp2_with (go_at_call 22; refine (HLC.out _).mono ?_; rintro e w1 ⟨rfl, hw1⟩; rw [hw1]; clear hw1)
        go_ret2
        exact ⟨by rw [HE.out.1, HE.out.2]; rfl, HX.out⟩
    · have hpz : ¬ (pos : Int) < (s.size : Int) := by omega
      have HEt : Hid (s.data.toList.take pos = s.data.toList) := by show _ = _; apply List.take_of_length_le; rw [list_len]; omega
      rw [HEt.out] at HN HB HO
      clear HEt
      obtain ⟨va, vc, hv, hrow⟩ := HO.out.row
      subst hv
      have HR : Hid (Row1 wr va (bz (Sp.flat 5 (Sp.keep s.data.toList)))) := hrow
      have hL : (bz (Sp.flat 5 (Sp.keep s.data.toList))).length = 5 * N := by rw [bz_len, Sp.flat_length, HN.out]
      rw [hL]
      have HLn : Hid ((Sp.flat 5 (Sp.keep s.data.toList)).length = 5 * N) := by rw [bz_len] at hL; exact hL
      clear hL hrow HO
      have hMz : Sp.sz s.data.toList = 5 * N / 8 := by unfold Sp.sz; rw [HN.out]
      have hOd : Sp.odd (Sp.keep s.data.toList).length = Sp.odd N := by rw [HN.out]
      have A1 := HOdd.out HB.out
      have A2 := HMany.out HB.out
      have A3 := HAny.out HB.out
      have A4 := HOk.out HB.out
      rw [hMz, hOd] at A2 A3 A4
      rw [hOd] at A1
      generalize Sp.flat 5 (Sp.keep s.data.toList) = fl at *
      obtain ⟨r, hr⟩ : ∃ r, N % 8 = r := ⟨_, rfl⟩
      have hrz : (N : Int) % 8 = (r : Int) := by omega
      have hNz : (N : Int) ≤ 1048576 := by omega
      have hov : Sp.odd N = (r == 1 || r == 3 || r == 6) := by unfold Sp.odd; rw [hr]
      obtain ⟨L, hLL⟩ : ∃ L, 5 * N = L := ⟨_, rfl⟩
      rw [hLL] at HLn
      have hLz : (5 : Int) * (N : Int) = (L : Int) := by omega
      have hLb : (L : Int) ≤ 5242880 := by omega
      rw [hLL] at A2 A3 A4 ⊢
      obtain ⟨M, hM⟩ : ∃ M, L / 8 = M := ⟨_, rfl⟩
      have hMM : (L : Int) / 8 = (M : Int) := by omega
      rw [hM] at A2 A3 A4
      have HM8 : Hid (8 * M ≤ L ∧ L < 8 * M + 8) := by show _ ∧ _; omega
      clear hMz hOd hr hLL hM HOdd HMany HAny HOk HBad
      rw [hov] at A1 A2 A3 A4
      clear hov
      by_cases hodd : r = 1 ∨ r = 3 ∨ r = 6
      · have hc := A1 (by rcases hodd with rfl | rfl | rfl <;> rfl)
        have he := HErr.out (by rw [hc]; decide)
        have HE : Hid (Sp.rd s = ⟨#[]⟩ ∧ Sp.rc s = 1) := ⟨he, hc⟩
        clear A1 A2 A3 A4 hc he HErr
        rcases hodd with rfl | rfl | rfl
        all_goals
          go_wp2
          go_ret2
          exact ⟨by rw [HE.out.1, HE.out.2]; rfl, HX.out⟩
      · have r1 : ((r : Int) == 1) = false := by simp; omega
        have r2 : ((r : Int) == 3) = false := by simp; omega
        have r3 : ((r : Int) == 6) = false := by simp; omega
        have hof : (r == 1 || r == 3 || r == 6) = false := by simp; omega
        have A2 := A2 hof
        have A3 := A3 hof
        have A4 := A4 hof
        clear A1 hodd hof
        by_cases h120 : 120 < M
        · have hc := A2 h120
          have he := HErr.out (by rw [hc]; decide)
          have HE : Hid (Sp.rd s = ⟨#[]⟩ ∧ Sp.rc s = 2) := ⟨he, hc⟩
          have hz : (120 : Int) < (M : Int) := by omega
          clear A2 A3 A4 hc he HErr
          go_wp2
          go_ret2
          exact ⟨by rw [HE.out.1, HE.out.2]; rfl, HX.out⟩
        · have hz : ¬ (120 : Int) < (M : Int) := by omega
          have HA3 : Hid ((fl.drop (8 * M)).any id = true → Sp.rd s = ⟨#[]⟩ ∧ Sp.rc s = 1) := by
            intro h
            have hc := A3 h120 h
            exact ⟨HErr.out (by rw [hc]; decide), hc⟩
          have HA4 : Hid ((fl.drop (8 * M)).any id = false → Sp.rc s = 0 ∧ Sp.rd s = bx ((Sp.chunk 8 M fl).map UInt8.ofNat)) := A4 h120
          clear A2 A3 A4 HErr h120
          have hM0 : (M : Int) ≤ 120 := by omega
          have h8M : (8 : Int) * (M : Int) ≤ (L : Int) := by have := HM8.out; omega
          go_wp2
          go_loop [10] (fun i => ∃ I : Nat, 8 * M ≤ I ∧ I ≤ L ∧ i = .int .i64 (I : Int) ∧ Hid (∀ j, 8 * M ≤ j → j < I → fl[j]? = some false)) (fun i => L - (intOf i).toNat)
          case atStart => exact ⟨8 * M, Nat.le_refl _, by have := HM8.out; omega, by go_num, (fun j h1 h2 => by omega : ∀ j, 8 * M ≤ j → j < 8 * M → fl[j]? = some false)⟩
          case round =>
            obtain ⟨I, hI1, hI2, rfl, HF⟩ := hrel
            by_cases hIL : I < L
            · have hIz : (I : Int) < (L : Int) := by omega
              obtain ⟨bb, hbb⟩ : ∃ bb, fl[I]? = some bb := by
                have : I < fl.length := by rw [HLn.out]; exact hIL
                exact ⟨_, List.getElem?_eq_getElem this⟩
              obtain ⟨ba, off, x, had, hba, hx, hc⟩ := HR.out.at (k := I) (by rw [bz_len, HLn.out]; exact hIL)
              rw [bz_get hbb] at hx
              have hx2 : x = ((bb.toNat : Nat) : Int) := (Option.some.inj hx).symm
              subst had hx2
              clear hx
              cases bb with
              | true =>
                have hany : (fl.drop (8 * M)).any id = true := by
                  rw [List.any_eq_true]
                  refine ⟨true, ?_, rfl⟩
                  refine List.mem_of_getElem? (i := I - 8 * M) ?_
                  rw [List.getElem?_drop, show 8 * M + (I - 8 * M) = I by omega]
                  exact hbb
                have HE : Hid (Sp.rd s = ⟨#[]⟩ ∧ Sp.rc s = 1) := HA3.out hany
                clear hany hbb HA3 HA4
                have hcc : wr.cell? ⟨ba, off + I, none⟩ = some (.int .i64 1) := hc
                clear hc
                go_wp2
                go_ret2
                exact ⟨by rw [HE.out.1, HE.out.2]; rfl, HX.out⟩
              | false =>
                have hcc : wr.cell? ⟨ba, off + I, none⟩ = some (.int .i64 0) := hc
                have HF2 : Hid (∀ j, 8 * M ≤ j → j < I + 1 → fl[j]? = some false) := by
                  intro j h1 h2
                  by_cases e : j = I
                  · rw [e]; exact hbb
                  · exact HF.out j h1 (by omega)
                clear hc hbb HF
                go_wp2
                go_round
                case rel => exact ⟨I + 1, by omega, by omega, by go_num, HF2⟩
                case measure => simp [intOf]; omega
            · have hIz : ¬ (I : Int) < (L : Int) := by omega
              have hany : (fl.drop (8 * M)).any id = false := by
                rw [List.any_eq_false]
                intro x hx
                obtain ⟨i, hi⟩ := List.getElem?_of_mem hx
                rw [List.getElem?_drop] at hi
                have h2 : 8 * M + i < fl.length := (List.getElem?_eq_some_iff.1 hi).1
                rw [HLn.out] at h2
                rw [HF.out (8 * M + i) (by omega) (by omega)] at hi
                have := Option.some.inj hi
                subst this
                simp
              have hok := HA4.out hany
              have HE : Hid (Sp.rc s = 0 ∧ Sp.rd s = bx ((Sp.chunk 8 M fl).map UInt8.ofNat)) := hok
              obtain ⟨ac, hac⟩ : ∃ ac : Nat → ByteArray, ∀ j, ac j = bx ((Sp.chunk 8 j fl).map UInt8.ofNat) := ⟨_, fun _ => rfl⟩
              have HA : Hid (∀ j, ac j = bx ((Sp.chunk 8 j fl).map UInt8.ofNat)) := hac
              have H0 : Hid (Value.string ⟨#[]⟩ = .string (ac 0)) := by show _ = _; rw [hac]; rfl
              rw [← hac M] at HE
              clear hany hok HA3 HA4 HF hac
              have HW : Hid (wr.heap.size = wr.heap.size) := (rfl : wr.heap.size = wr.heap.size)
              generalize wr = W0 at *
              clear HW
              go_wp2
              go_loopw [11, 12, 13, 14] (fun a i _ _ wi => ∃ J : Nat, J ≤ M ∧ i = .int .i64 (J : Int) ∧ a = .string (ac J) ∧ Hid (Below W0.heap.size W0 wi)) (fun _ i _ _ _ => M - (intOf i).toNat)
              case atStart => exact ⟨0, Nat.zero_le _, rfl, H0.out, Below.refl _ _⟩
              case round =>
                obtain ⟨J, hJ, rfl, rfl, HXJ⟩ := hrel
                by_cases hJM : J < M
                · have hJz : (J : Int) < (M : Int) := by omega
                  go_wp2
                  go_loop [13, 14] (fun n k => ∃ K X : Nat, K ≤ 8 ∧ X < 256 ∧ Hid (Sp.vl 0 ((fl.drop (8 * J)).take K) = X) ∧ n = .int .i64 (X : Int) ∧ k = .int .i64 (K : Int)) (fun _ k => 8 - (intOf k).toNat)
                  case atStart => exact ⟨0, 0, Nat.zero_le _, by decide, (by show _ = _; simp [Sp.vl] : Hid (Sp.vl 0 ((fl.drop (8 * J)).take 0) = 0)), rfl, rfl⟩
                  case round =>
                    obtain ⟨K, X, hK, hX, HV, rfl, rfl⟩ := hrel
                    by_cases hk8 : K < 8
                    · have hkz : (K : Int) < 8 := by omega
                      have hin : 8 * J + K < L := by have := HM8.out; omega
                      obtain ⟨bb, hbb⟩ : ∃ bb, fl[8 * J + K]? = some bb := by
                        have : 8 * J + K < fl.length := by rw [HLn.out]; exact hin
                        exact ⟨_, List.getElem?_eq_getElem this⟩
                      have HS := Sp.vl_step fl (8 * J) K bb hbb
                      rw [HV.out] at HS
                      have hx2 : 2 * X + 1 < 256 := by
                        have e := Sp.vl_take_lt fl (8 * J) K
                        rw [HV.out] at e
                        have := Nat.pow_le_pow_right (n := 2) (by decide) (show K ≤ 7 by omega)
                        omega
                      obtain ⟨ba, off, x, had, hba, hx, hc⟩ := HR.out.at (k := 8 * J + K) (by rw [bz_len, HLn.out]; exact hin)
                      rw [bz_get hbb] at hx
                      have hx3 : x = ((bb.toNat : Nat) : Int) := (Option.some.inj hx).symm
                      subst had hx3
                      have hcw : wr.cell? ⟨ba, off + (8 * J + K), none⟩ = some (.int .i64 ((bb.toNat : Nat) : Int)) := (HXJ.out.cell (p := ⟨ba, off + (8 * J + K), none⟩) hba).trans hc
                      have hbn : bb.toNat ≤ 1 := by cases bb <;> decide
                      generalize bb.toNat = bn at *
                      have HS2 : Hid (Sp.vl 0 ((fl.drop (8 * J)).take (K + 1)) = 2 * X + bn) := HS
                      obtain ⟨Y, hY⟩ : ∃ Y, 8 * J + K = Y := ⟨_, rfl⟩
                      rw [hY] at hcw
                      have hYz : (8 : Int) * (J : Int) + (K : Int) = (Y : Int) := by omega
                      have hYL : (Y : Int) < (L : Int) := by omega
                      have hYJ : (J : Int) ≤ 120 := by omega
                      clear HS hbb HV hx hc hY hin
                      go_wp2
                      go_round
                      case rel => exact ⟨K + 1, 2 * X + bn, by omega, by omega, HS2, by go_num, by go_num⟩
                      case measure => simp [intOf]; omega
                    · have hkz : ¬ (K : Int) < 8 := by omega
                      obtain rfl : K = 8 := by omega
                      have HAA : Hid (ac (J + 1) = bx ((Sp.chunk 8 J fl).map UInt8.ofNat ++ [UInt8.ofNat X])) := by
                        show _ = _
                        rw [HA.out, Sp.chunk_succ, List.map_append, HV.out]
                        rfl
                      have hadd : ∀ wx, (Op.stringOp .add (ac J) (bx [UInt8.ofNat X])).run Try.prog wx = .ok (.string (ac (J + 1))) wx := by
                        intro wx
                        rw [HAA.out, HA.out]
                        exact bx_add _ _ (by rw [List.length_map, Sp.chunk_length]; simp; omega) wx
                      have H1 : Hid (∀ wx : World, Calls Try.prog 23 #[.int .i64 (X : Int)] wx fun e w' => e = .returned (.string (bx [UInt8.ofNat X])) ∧ Below wx.heap.size wx w') := fun wx => one_any X hX wx
                      generalize bx [UInt8.ofNat X] = y at *
                      clear HAA HV
                      go_wp2_with (go_at_call 23; refine (H1.out _).mono ?_; rintro e w1 ⟨rfl, hb⟩)
                      have HB1 : Hid (Below W0.heap.size W0 w1) := below_on HXJ.out (Nat.le_refl _) hb
                      clear hb
                      go_wp2
                      go_roundw
                      case rel => exact ⟨J + 1, by omega, by go_num, rfl, HB1⟩
                      case measure => simp [intOf]; omega
                · have hJz : ¬ (J : Int) < (M : Int) := by omega
                  obtain rfl : J = M := by omega
                  go_wp2
                  go_ret2
                  exact ⟨by rw [HE.out.1, HE.out.2]; rfl, below_on HX.out (Nat.le_refl _) HXJ.out⟩
end Go.Proofs.Ythfdaaccopgbeaa
