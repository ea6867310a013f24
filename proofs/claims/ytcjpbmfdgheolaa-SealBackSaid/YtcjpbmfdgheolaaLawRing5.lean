/- The walk of SealBack: it answers true, whatever it is handed. -/
import Derived.Test.YtcjpbmfdgheolaaLawRing1
import Derived.Test.YtcjpbmfdgheolaaLawRing3
namespace Go.Proofs.Ytcjpbmfdgheolaa
open Go.RowKit

theorem Rg.drp_has {l : List Rg.Ep} {no : Int} {e : Rg.Ep} (h : (Rg.drp l no).2 = 0) (he : e ∈ l) (hn : e.1 ≠ no) : e ∈ (Rg.drp l no).1 := by
  rw [(Rg.drp_ok l no h).1, List.mem_filter]
  exact ⟨he, by simpa using hn⟩
theorem Rg.drp_not {l : List Rg.Ep} {no : Int} (h : (Rg.drp l no).2 = 0) : ∀ e ∈ (Rg.drp l no).1, e.1 ≠ no := by
  intro e he
  rw [(Rg.drp_ok l no h).1, List.mem_filter] at he
  simpa using he.2
theorem Rg.opnV_is {l : List Rg.Ep} {t x : List UInt8} {c d : Int} (h : Rg.opn l t = (x, c, d)) : Rg.opnV l t = .tuple #[.string (bx x), .int .i64 c, .int .i64 d] := by unfold Rg.opnV; rw [h]
set_option maxRecDepth 100000 in
set_option maxHeartbeats 1500000 in
theorem sealBack_any (l : List Rg.Ep) (a : Option Addr) (cap : Nat) (s : ByteArray) (A B : Tg.W) (no : Int) (w : World) (hl : l.length ≤ maxLen) (hcap : l.length ≤ cap) (hn : a = none → l = [] ∧ cap = 0) (hr : Row3 w a l) (hs : s.size ≤ 140737488351232) :
    Calls Try.prog 5 #[.slice a l.length cap, .string s, .agg #[.int .u64 (wd A), .int .u64 (wd B)], .int .i64 no] w fun e w' => e = .returned (.bool true) ∧ Below w.heap.size w w' := by
  obtain ⟨x, rfl⟩ : ∃ x, s = bx x := ⟨_, (bx_of s).symm⟩
  rw [bx_size] at hs
  have HH : Hid (l.length ≤ maxLen ∧ l.length ≤ cap ∧ (a = none → l = [] ∧ cap = 0)) := ⟨hl, hcap, hn⟩
  have HB0 : Hid (Below w.heap.size w (w.alloc (.cells #[.int .u64 (wd A), .int .u64 (wd B)] 25))) := below_box w _
  have R0 : Hid (Row3 (w.alloc (.cells #[.int .u64 (wd A), .int .u64 (wd B)] 25)) a l) := hr.below HB0.out
  clear hl hcap hn hr
  by_cases hc : (Rg.sea l x).2 = 0
  · obtain ⟨c, A0, B0, hla, hck, hx, hse, hc256⟩ := Rg.sea_ok l x hc
    have hmem := Rg.last_mem l _ hla
    have HSV : Hid (Rg.seaV l x = .tuple #[.string (bx (Rg.sl c A0 B0 x)), .int .i64 0]) := by show _ = _; unfold Rg.seaV; rw [hse, hc]
    have HO : Hid (Rg.opnV l (Rg.sl c A0 B0 x) = .tuple #[.string (bx x), .int .i64 (c : Int), .int .i64 0]) := Rg.opnV_is (Rg.opn_of l c A0 B0 x hck hmem hx)
    have HT : Hid ((Rg.sl c A0 B0 x).length ≤ 140737488351232) := by show _ ≤ _; rw [Rg.sl_length]; omega
    have HA : Hid ((Rg.add l A B).2 = 0 → Rg.opnV (Rg.add l A B).1 (Rg.sl c A0 B0 x) = .tuple #[.string (bx x), .int .i64 (c : Int), .int .i64 0]) := fun h => by
      have q := Rg.add_ok l A B h
      refine Rg.opnV_is (Rg.opn_of _ c A0 B0 x (by rw [q.1]; exact q.2.2) (by rw [q.1]; exact List.mem_append_left _ hmem) hx)
    have HD1 : Hid ((Rg.drp l no).2 = 0 → no = (c : Int) → Rg.opnV (Rg.drp l no).1 (Rg.sl c A0 B0 x) = .tuple #[.string (bx []), .int .i64 0, .int .i64 5]) := fun h e => by
      refine Rg.opnV_is (Rg.opn_no _ c A0 B0 x (Rg.drp_ok l no h).2.2.1 hc256 (by rw [← e]; exact Rg.drp_not h) hx)
    have HD2 : Hid ((Rg.drp l no).2 = 0 → no ≠ (c : Int) → Rg.opnV (Rg.drp l no).1 (Rg.sl c A0 B0 x) = .tuple #[.string (bx x), .int .i64 (c : Int), .int .i64 0]) := fun h e => by
      refine Rg.opnV_is (Rg.opn_of _ c A0 B0 x (Rg.drp_ok l no h).2.2.1 (Rg.drp_has h hmem (fun q => e q.symm)) hx)
    have HAB : Hid ((Rg.add l A B).2 ≠ 0 → Rg.add l A B = ([], (Rg.add l A B).2)) := fun h => Prod.ext (Rg.add_bad l A B h) rfl
    have HDB : Hid ((Rg.drp l no).2 ≠ 0 → Rg.drp l no = ([], (Rg.drp l no).2)) := fun h => Prod.ext (Rg.drp_bad l no h) rfl
    obtain ⟨m, hm⟩ : ∃ m, l.length = m + 1 := ⟨l.length - 1, by have := List.length_pos_of_mem hmem; omega⟩
    have h8 : l.length ≤ 8 := ((Rg.chk_iff l).1 hck).1
    have HM : Hid (l.length = m + 1 ∧ l[m]? = some ((c : Int), A0, B0)) := ⟨hm, by rw [List.getLast?_eq_getElem?, hm] at hla; exact hla⟩
    have hm8 : m ≤ 7 := by omega
    clear hc hla hck hse hmem h8
    generalize Rg.sl c A0 B0 x = T at *
    rw [hm]
    clear hm
    by_cases hca : (Rg.add l A B).2 = 0
    · by_cases hcd : (Rg.drp l no).2 = 0
      · by_cases hno : no = (c : Int)
        · subst hno
          go_enter Try.func5, Try.ntmps5
          go_wp2_with fail
          have hse := seal_any l a cap x _ HH.out.1 hs R0.out
          rw [HM.out.1, HSV.out] at hse
          refine hse.mono ?_; rintro e w1 ⟨rfl, hb1⟩
          have B1 : Hid (Below w.heap.size w w1) := below_on HB0.out (Nat.le_refl _) hb1
          have R1 : Hid (Row3 w1 a l) := R0.out.below hb1
          obtain ⟨hcc, -⟩ := bcell hb1
          have k0 := hcc w.heap.size 0 (by simp)
          have k1 := hcc w.heap.size 1 (by simp)
          simp at k0 k1
          have hz1 : w.heap.size < w1.heap.size := by have := hb1.size; simp at this; omega
          clear hb1 hcc hse HB0 R0
          go_wp2_with fail
          refine (ringBegun_any _).mono ?_; rintro e w2 ⟨rfl, hb2⟩
          have B2 : Hid (Below w.heap.size w w2) := below_on B1.out (Nat.le_refl _) hb2
          have R2 : Hid (Row3 w2 a l) := R1.out.below hb2
          have j0 := (hb2.cell (p := ⟨w.heap.size, 0, none⟩) hz1).trans k0
          have j1 := (hb2.cell (p := ⟨w.heap.size, 1, none⟩) hz1).trans k1
          have hz2 : w.heap.size < w2.heap.size := Nat.lt_of_lt_of_le hz1 hb2.size
          obtain ⟨b, off, n', A', B', rfl, hbs, hx', d1, d2, d3⟩ := R2.out.at (k := m) (by rw [HM.out.1]; omega)
          rw [HM.out.2] at hx'
          injection hx' with hx'
          injection hx' with e1 e2
          subst e1
          clear hb2 B1 R1 k0 k1 hz1 d2 d3 e2
          go_wp2_with fail
          have hop := open_any l (some ⟨b, off, none⟩) cap T _ HH.out.1 HT.out R2.out
          rw [HM.out.1, HO.out] at hop
          refine hop.mono ?_; rintro e w3 ⟨rfl, hb3⟩
          have B3 : Hid (Below w.heap.size w w3) := below_on B2.out (Nat.le_refl _) hb3
          have R3 : Hid (Row3 w3 (some ⟨b, off, none⟩) l) := R2.out.below hb3
          have i0 := (hb3.cell (p := ⟨w.heap.size, 0, none⟩) hz2).trans j0
          have i1 := (hb3.cell (p := ⟨w.heap.size, 1, none⟩) hz2).trans j1
          clear hb3 B2 R2 j0 j1 hz2 d1 hop hbs
          go_wp2_with fail
          have had := add_any l (some ⟨b, off, none⟩) cap A B _ HH.out.1 (fun h => by cases h) R3.out
          rw [HM.out.1] at had
          refine had.mono ?_; rintro e w4 ⟨v4, he4, ho4, hb4⟩
          have B4 : Hid (Below w.heap.size w w4) := below_on B3.out (Nat.le_refl _) hb4
          have R4 : Hid (Row3 w4 (some ⟨b, off, none⟩) l) := R3.out.below hb4
          obtain ⟨a4, c4, hv4, hr4, -, -, -⟩ := OwnE.row' ho4
          have L4 : Hid ((Rg.add l A B).1.length ≤ maxLen) := ho4.len
          have P4 : Hid (Row3 w4 a4 (Rg.add l A B).1) := hr4
          subst hv4
          clear ho4 hr4 hb4 had B3 R3 i0 i1
          rw [hca] at he4
          subst he4
          go_wp2_with fail
          have hop5 := open_any (Rg.add l A B).1 a4 c4 T _ L4.out HT.out P4.out
          rw [HA.out hca] at hop5
          refine hop5.mono ?_; rintro e w5 ⟨rfl, hb5⟩
          have B5 : Hid (Below w.heap.size w w5) := below_on B4.out (Nat.le_refl _) hb5
          have R5 : Hid (Row3 w5 (some ⟨b, off, none⟩) l) := R4.out.below hb5
          clear hb5 hop5 B4 R4 P4 L4
          go_wp2_with fail
          have hdr := drop_any l (some ⟨b, off, none⟩) cap (c : Int) _ HH.out.1 HH.out.2.1 R5.out
          rw [HM.out.1] at hdr
          refine hdr.mono ?_; rintro e w6 ⟨v6, he6, ho6, hb6⟩
          have B6 : Hid (Below w.heap.size w w6) := below_on B5.out (Nat.le_refl _) hb6
          clear hb6 hdr B5 R5
          rw [hcd] at he6
          obtain ⟨a6, c6, hv6, hr6, -, -, -⟩ := OwnE.row' ho6
          have hop7 := open_any (Rg.drp l (c : Int)).1 a6 c6 T _ ho6.len HT.out hr6
          rw [HD1.out hcd trivial] at hop7
          subst hv6
          subst he6
          clear ho6 hr6
          go_wp2_with fail
          refine hop7.mono ?_; rintro e w7 ⟨rfl, hb7⟩
          have B7 : Hid (Below w.heap.size w w7) := below_on B6.out (Nat.le_refl _) hb7
          clear hb7 hop7 B6
          go_wp2
          go_ret
          exact ⟨rfl, B7.out⟩
        · go_enter Try.func5, Try.ntmps5
          go_wp2_with fail
          have hse := seal_any l a cap x _ HH.out.1 hs R0.out
          rw [HM.out.1, HSV.out] at hse
          refine hse.mono ?_; rintro e w1 ⟨rfl, hb1⟩
          have B1 : Hid (Below w.heap.size w w1) := below_on HB0.out (Nat.le_refl _) hb1
          have R1 : Hid (Row3 w1 a l) := R0.out.below hb1
          obtain ⟨hcc, -⟩ := bcell hb1
          have k0 := hcc w.heap.size 0 (by simp)
          have k1 := hcc w.heap.size 1 (by simp)
          simp at k0 k1
          have hz1 : w.heap.size < w1.heap.size := by have := hb1.size; simp at this; omega
          clear hb1 hcc hse HB0 R0
          go_wp2_with fail
          refine (ringBegun_any _).mono ?_; rintro e w2 ⟨rfl, hb2⟩
          have B2 : Hid (Below w.heap.size w w2) := below_on B1.out (Nat.le_refl _) hb2
          have R2 : Hid (Row3 w2 a l) := R1.out.below hb2
          have j0 := (hb2.cell (p := ⟨w.heap.size, 0, none⟩) hz1).trans k0
          have j1 := (hb2.cell (p := ⟨w.heap.size, 1, none⟩) hz1).trans k1
          have hz2 : w.heap.size < w2.heap.size := Nat.lt_of_lt_of_le hz1 hb2.size
          obtain ⟨b, off, n', A', B', rfl, hbs, hx', d1, d2, d3⟩ := R2.out.at (k := m) (by rw [HM.out.1]; omega)
          rw [HM.out.2] at hx'
          injection hx' with hx'
          injection hx' with e1 e2
          subst e1
          clear hb2 B1 R1 k0 k1 hz1 d2 d3 e2
          go_wp2_with fail
          have hop := open_any l (some ⟨b, off, none⟩) cap T _ HH.out.1 HT.out R2.out
          rw [HM.out.1, HO.out] at hop
          refine hop.mono ?_; rintro e w3 ⟨rfl, hb3⟩
          have B3 : Hid (Below w.heap.size w w3) := below_on B2.out (Nat.le_refl _) hb3
          have R3 : Hid (Row3 w3 (some ⟨b, off, none⟩) l) := R2.out.below hb3
          have i0 := (hb3.cell (p := ⟨w.heap.size, 0, none⟩) hz2).trans j0
          have i1 := (hb3.cell (p := ⟨w.heap.size, 1, none⟩) hz2).trans j1
          clear hb3 B2 R2 j0 j1 hz2 d1 hop hbs
          go_wp2_with fail
          have had := add_any l (some ⟨b, off, none⟩) cap A B _ HH.out.1 (fun h => by cases h) R3.out
          rw [HM.out.1] at had
          refine had.mono ?_; rintro e w4 ⟨v4, he4, ho4, hb4⟩
          have B4 : Hid (Below w.heap.size w w4) := below_on B3.out (Nat.le_refl _) hb4
          have R4 : Hid (Row3 w4 (some ⟨b, off, none⟩) l) := R3.out.below hb4
          obtain ⟨a4, c4, hv4, hr4, -, -, -⟩ := OwnE.row' ho4
          have L4 : Hid ((Rg.add l A B).1.length ≤ maxLen) := ho4.len
          have P4 : Hid (Row3 w4 a4 (Rg.add l A B).1) := hr4
          subst hv4
          clear ho4 hr4 hb4 had B3 R3 i0 i1
          rw [hca] at he4
          subst he4
          go_wp2_with fail
          have hop5 := open_any (Rg.add l A B).1 a4 c4 T _ L4.out HT.out P4.out
          rw [HA.out hca] at hop5
          refine hop5.mono ?_; rintro e w5 ⟨rfl, hb5⟩
          have B5 : Hid (Below w.heap.size w w5) := below_on B4.out (Nat.le_refl _) hb5
          have R5 : Hid (Row3 w5 (some ⟨b, off, none⟩) l) := R4.out.below hb5
          clear hb5 hop5 B4 R4 P4 L4
          go_wp2_with fail
          have hdr := drop_any l (some ⟨b, off, none⟩) cap no _ HH.out.1 HH.out.2.1 R5.out
          rw [HM.out.1] at hdr
          refine hdr.mono ?_; rintro e w6 ⟨v6, he6, ho6, hb6⟩
          have B6 : Hid (Below w.heap.size w w6) := below_on B5.out (Nat.le_refl _) hb6
          clear hb6 hdr B5 R5
          rw [hcd] at he6
          obtain ⟨a6, c6, hv6, hr6, -, -, -⟩ := OwnE.row' ho6
          have hop7 := open_any (Rg.drp l no).1 a6 c6 T _ ho6.len HT.out hr6
          rw [HD2.out hcd hno] at hop7
          subst hv6
          subst he6
          clear ho6 hr6
          go_wp2_with fail
          refine hop7.mono ?_; rintro e w7 ⟨rfl, hb7⟩
          have B7 : Hid (Below w.heap.size w w7) := below_on B6.out (Nat.le_refl _) hb7
          have hno' : (no == (c : Int)) = false := by simpa using hno
          clear hb7 hop7 B6
          go_wp2
          go_ret
          exact ⟨rfl, B7.out⟩
      · go_enter Try.func5, Try.ntmps5
        go_wp2_with fail
        have hse := seal_any l a cap x _ HH.out.1 hs R0.out
        rw [HM.out.1, HSV.out] at hse
        refine hse.mono ?_; rintro e w1 ⟨rfl, hb1⟩
        have B1 : Hid (Below w.heap.size w w1) := below_on HB0.out (Nat.le_refl _) hb1
        have R1 : Hid (Row3 w1 a l) := R0.out.below hb1
        obtain ⟨hcc, -⟩ := bcell hb1
        have k0 := hcc w.heap.size 0 (by simp)
        have k1 := hcc w.heap.size 1 (by simp)
        simp at k0 k1
        have hz1 : w.heap.size < w1.heap.size := by have := hb1.size; simp at this; omega
        clear hb1 hcc hse HB0 R0
        go_wp2_with fail
        refine (ringBegun_any _).mono ?_; rintro e w2 ⟨rfl, hb2⟩
        have B2 : Hid (Below w.heap.size w w2) := below_on B1.out (Nat.le_refl _) hb2
        have R2 : Hid (Row3 w2 a l) := R1.out.below hb2
        have j0 := (hb2.cell (p := ⟨w.heap.size, 0, none⟩) hz1).trans k0
        have j1 := (hb2.cell (p := ⟨w.heap.size, 1, none⟩) hz1).trans k1
        have hz2 : w.heap.size < w2.heap.size := Nat.lt_of_lt_of_le hz1 hb2.size
        obtain ⟨b, off, n', A', B', rfl, hbs, hx', d1, d2, d3⟩ := R2.out.at (k := m) (by rw [HM.out.1]; omega)
        rw [HM.out.2] at hx'
        injection hx' with hx'
        injection hx' with e1 e2
        subst e1
        clear hb2 B1 R1 k0 k1 hz1 d2 d3 e2
        go_wp2_with fail
        have hop := open_any l (some ⟨b, off, none⟩) cap T _ HH.out.1 HT.out R2.out
        rw [HM.out.1, HO.out] at hop
        refine hop.mono ?_; rintro e w3 ⟨rfl, hb3⟩
        have B3 : Hid (Below w.heap.size w w3) := below_on B2.out (Nat.le_refl _) hb3
        have R3 : Hid (Row3 w3 (some ⟨b, off, none⟩) l) := R2.out.below hb3
        have i0 := (hb3.cell (p := ⟨w.heap.size, 0, none⟩) hz2).trans j0
        have i1 := (hb3.cell (p := ⟨w.heap.size, 1, none⟩) hz2).trans j1
        clear hb3 B2 R2 j0 j1 hz2 d1 hop hbs
        go_wp2_with fail
        have had := add_any l (some ⟨b, off, none⟩) cap A B _ HH.out.1 (fun h => by cases h) R3.out
        rw [HM.out.1] at had
        refine had.mono ?_; rintro e w4 ⟨v4, he4, ho4, hb4⟩
        have B4 : Hid (Below w.heap.size w w4) := below_on B3.out (Nat.le_refl _) hb4
        have R4 : Hid (Row3 w4 (some ⟨b, off, none⟩) l) := R3.out.below hb4
        obtain ⟨a4, c4, hv4, hr4, -, -, -⟩ := OwnE.row' ho4
        have L4 : Hid ((Rg.add l A B).1.length ≤ maxLen) := ho4.len
        have P4 : Hid (Row3 w4 a4 (Rg.add l A B).1) := hr4
        subst hv4
        clear ho4 hr4 hb4 had B3 R3 i0 i1
        rw [hca] at he4
        subst he4
        go_wp2_with fail
        have hop5 := open_any (Rg.add l A B).1 a4 c4 T _ L4.out HT.out P4.out
        rw [HA.out hca] at hop5
        refine hop5.mono ?_; rintro e w5 ⟨rfl, hb5⟩
        have B5 : Hid (Below w.heap.size w w5) := below_on B4.out (Nat.le_refl _) hb5
        have R5 : Hid (Row3 w5 (some ⟨b, off, none⟩) l) := R4.out.below hb5
        clear hb5 hop5 B4 R4 P4 L4
        go_wp2_with fail
        have hdr := drop_any l (some ⟨b, off, none⟩) cap no _ HH.out.1 HH.out.2.1 R5.out
        rw [HM.out.1] at hdr
        refine hdr.mono ?_; rintro e w6 ⟨v6, he6, ho6, hb6⟩
        have B6 : Hid (Below w.heap.size w w6) := below_on B5.out (Nat.le_refl _) hb6
        clear hb6 hdr B5 R5
        rw [HDB.out hcd] at he6 ho6
        obtain ⟨C6, hC6⟩ : ∃ C6, (Rg.drp l no).2 = C6 := ⟨_, rfl⟩
        rw [hC6] at he6 hcd
        have hcd' : (C6 != 0) = true := by simpa using hcd
        obtain ⟨a6, c6, hv6, -, -, -, -⟩ := OwnE.row' ho6
        replace hv6 : v6 = .slice a6 0 c6 := hv6
        subst hv6
        subst he6
        clear ho6 hcd hC6
        go_wp2
        go_ret
        exact ⟨rfl, B6.out⟩
    · by_cases hcd : (Rg.drp l no).2 = 0
      · by_cases hno : no = (c : Int)
        · subst hno
          go_enter Try.func5, Try.ntmps5
          go_wp2_with fail
          have hse := seal_any l a cap x _ HH.out.1 hs R0.out
          rw [HM.out.1, HSV.out] at hse
          refine hse.mono ?_; rintro e w1 ⟨rfl, hb1⟩
          have B1 : Hid (Below w.heap.size w w1) := below_on HB0.out (Nat.le_refl _) hb1
          have R1 : Hid (Row3 w1 a l) := R0.out.below hb1
          obtain ⟨hcc, -⟩ := bcell hb1
          have k0 := hcc w.heap.size 0 (by simp)
          have k1 := hcc w.heap.size 1 (by simp)
          simp at k0 k1
          have hz1 : w.heap.size < w1.heap.size := by have := hb1.size; simp at this; omega
          clear hb1 hcc hse HB0 R0
          go_wp2_with fail
          refine (ringBegun_any _).mono ?_; rintro e w2 ⟨rfl, hb2⟩
          have B2 : Hid (Below w.heap.size w w2) := below_on B1.out (Nat.le_refl _) hb2
          have R2 : Hid (Row3 w2 a l) := R1.out.below hb2
          have j0 := (hb2.cell (p := ⟨w.heap.size, 0, none⟩) hz1).trans k0
          have j1 := (hb2.cell (p := ⟨w.heap.size, 1, none⟩) hz1).trans k1
          have hz2 : w.heap.size < w2.heap.size := Nat.lt_of_lt_of_le hz1 hb2.size
          obtain ⟨b, off, n', A', B', rfl, hbs, hx', d1, d2, d3⟩ := R2.out.at (k := m) (by rw [HM.out.1]; omega)
          rw [HM.out.2] at hx'
          injection hx' with hx'
          injection hx' with e1 e2
          subst e1
          clear hb2 B1 R1 k0 k1 hz1 d2 d3 e2
          go_wp2_with fail
          have hop := open_any l (some ⟨b, off, none⟩) cap T _ HH.out.1 HT.out R2.out
          rw [HM.out.1, HO.out] at hop
          refine hop.mono ?_; rintro e w3 ⟨rfl, hb3⟩
          have B3 : Hid (Below w.heap.size w w3) := below_on B2.out (Nat.le_refl _) hb3
          have R3 : Hid (Row3 w3 (some ⟨b, off, none⟩) l) := R2.out.below hb3
          have i0 := (hb3.cell (p := ⟨w.heap.size, 0, none⟩) hz2).trans j0
          have i1 := (hb3.cell (p := ⟨w.heap.size, 1, none⟩) hz2).trans j1
          clear hb3 B2 R2 j0 j1 hz2 d1 hop hbs
          go_wp2_with fail
          have had := add_any l (some ⟨b, off, none⟩) cap A B _ HH.out.1 (fun h => by cases h) R3.out
          rw [HM.out.1] at had
          refine had.mono ?_; rintro e w4 ⟨v4, he4, ho4, hb4⟩
          have B4 : Hid (Below w.heap.size w w4) := below_on B3.out (Nat.le_refl _) hb4
          have R4 : Hid (Row3 w4 (some ⟨b, off, none⟩) l) := R3.out.below hb4
          obtain ⟨a4, c4, hv4, hr4, -, -, -⟩ := OwnE.row' ho4
          have L4 : Hid ((Rg.add l A B).1.length ≤ maxLen) := ho4.len
          have P4 : Hid (Row3 w4 a4 (Rg.add l A B).1) := hr4
          subst hv4
          clear ho4 hr4 hb4 had B3 R3 i0 i1
          have B5 := B4
          have R5 := R4
          clear B4 R4
          obtain ⟨C4, hC4⟩ : ∃ C4, (Rg.add l A B).2 = C4 := ⟨_, rfl⟩
          rw [hC4] at he4 hca
          have hca' : (C4 == 0) = false := by simpa using hca
          subst he4
          clear hca hC4
          go_wp2_with fail
          have hdr := drop_any l (some ⟨b, off, none⟩) cap (c : Int) _ HH.out.1 HH.out.2.1 R5.out
          rw [HM.out.1] at hdr
          refine hdr.mono ?_; rintro e w6 ⟨v6, he6, ho6, hb6⟩
          have B6 : Hid (Below w.heap.size w w6) := below_on B5.out (Nat.le_refl _) hb6
          clear hb6 hdr B5 R5
          rw [hcd] at he6
          obtain ⟨a6, c6, hv6, hr6, -, -, -⟩ := OwnE.row' ho6
          have hop7 := open_any (Rg.drp l (c : Int)).1 a6 c6 T _ ho6.len HT.out hr6
          rw [HD1.out hcd trivial] at hop7
          subst hv6
          subst he6
          clear ho6 hr6
          go_wp2_with fail
          refine hop7.mono ?_; rintro e w7 ⟨rfl, hb7⟩
          have B7 : Hid (Below w.heap.size w w7) := below_on B6.out (Nat.le_refl _) hb7
          clear hb7 hop7 B6
          go_wp2
          go_ret
          exact ⟨rfl, B7.out⟩
        · go_enter Try.func5, Try.ntmps5
          go_wp2_with fail
          have hse := seal_any l a cap x _ HH.out.1 hs R0.out
          rw [HM.out.1, HSV.out] at hse
          refine hse.mono ?_; rintro e w1 ⟨rfl, hb1⟩
          have B1 : Hid (Below w.heap.size w w1) := below_on HB0.out (Nat.le_refl _) hb1
          have R1 : Hid (Row3 w1 a l) := R0.out.below hb1
          obtain ⟨hcc, -⟩ := bcell hb1
          have k0 := hcc w.heap.size 0 (by simp)
          have k1 := hcc w.heap.size 1 (by simp)
          simp at k0 k1
          have hz1 : w.heap.size < w1.heap.size := by have := hb1.size; simp at this; omega
          clear hb1 hcc hse HB0 R0
          go_wp2_with fail
          refine (ringBegun_any _).mono ?_; rintro e w2 ⟨rfl, hb2⟩
          have B2 : Hid (Below w.heap.size w w2) := below_on B1.out (Nat.le_refl _) hb2
          have R2 : Hid (Row3 w2 a l) := R1.out.below hb2
          have j0 := (hb2.cell (p := ⟨w.heap.size, 0, none⟩) hz1).trans k0
          have j1 := (hb2.cell (p := ⟨w.heap.size, 1, none⟩) hz1).trans k1
          have hz2 : w.heap.size < w2.heap.size := Nat.lt_of_lt_of_le hz1 hb2.size
          obtain ⟨b, off, n', A', B', rfl, hbs, hx', d1, d2, d3⟩ := R2.out.at (k := m) (by rw [HM.out.1]; omega)
          rw [HM.out.2] at hx'
          injection hx' with hx'
          injection hx' with e1 e2
          subst e1
          clear hb2 B1 R1 k0 k1 hz1 d2 d3 e2
          go_wp2_with fail
          have hop := open_any l (some ⟨b, off, none⟩) cap T _ HH.out.1 HT.out R2.out
          rw [HM.out.1, HO.out] at hop
          refine hop.mono ?_; rintro e w3 ⟨rfl, hb3⟩
          have B3 : Hid (Below w.heap.size w w3) := below_on B2.out (Nat.le_refl _) hb3
          have R3 : Hid (Row3 w3 (some ⟨b, off, none⟩) l) := R2.out.below hb3
          have i0 := (hb3.cell (p := ⟨w.heap.size, 0, none⟩) hz2).trans j0
          have i1 := (hb3.cell (p := ⟨w.heap.size, 1, none⟩) hz2).trans j1
          clear hb3 B2 R2 j0 j1 hz2 d1 hop hbs
          go_wp2_with fail
          have had := add_any l (some ⟨b, off, none⟩) cap A B _ HH.out.1 (fun h => by cases h) R3.out
          rw [HM.out.1] at had
          refine had.mono ?_; rintro e w4 ⟨v4, he4, ho4, hb4⟩
          have B4 : Hid (Below w.heap.size w w4) := below_on B3.out (Nat.le_refl _) hb4
          have R4 : Hid (Row3 w4 (some ⟨b, off, none⟩) l) := R3.out.below hb4
          obtain ⟨a4, c4, hv4, hr4, -, -, -⟩ := OwnE.row' ho4
          have L4 : Hid ((Rg.add l A B).1.length ≤ maxLen) := ho4.len
          have P4 : Hid (Row3 w4 a4 (Rg.add l A B).1) := hr4
          subst hv4
          clear ho4 hr4 hb4 had B3 R3 i0 i1
          have B5 := B4
          have R5 := R4
          clear B4 R4
          obtain ⟨C4, hC4⟩ : ∃ C4, (Rg.add l A B).2 = C4 := ⟨_, rfl⟩
          rw [hC4] at he4 hca
          have hca' : (C4 == 0) = false := by simpa using hca
          subst he4
          clear hca hC4
          go_wp2_with fail
          have hdr := drop_any l (some ⟨b, off, none⟩) cap no _ HH.out.1 HH.out.2.1 R5.out
          rw [HM.out.1] at hdr
          refine hdr.mono ?_; rintro e w6 ⟨v6, he6, ho6, hb6⟩
          have B6 : Hid (Below w.heap.size w w6) := below_on B5.out (Nat.le_refl _) hb6
          clear hb6 hdr B5 R5
          rw [hcd] at he6
          obtain ⟨a6, c6, hv6, hr6, -, -, -⟩ := OwnE.row' ho6
          have hop7 := open_any (Rg.drp l no).1 a6 c6 T _ ho6.len HT.out hr6
          rw [HD2.out hcd hno] at hop7
          subst hv6
          subst he6
          clear ho6 hr6
          go_wp2_with fail
          refine hop7.mono ?_; rintro e w7 ⟨rfl, hb7⟩
          have B7 : Hid (Below w.heap.size w w7) := below_on B6.out (Nat.le_refl _) hb7
          have hno' : (no == (c : Int)) = false := by simpa using hno
          clear hb7 hop7 B6
          go_wp2
          go_ret
          exact ⟨rfl, B7.out⟩
      · go_enter Try.func5, Try.ntmps5
        go_wp2_with fail
        have hse := seal_any l a cap x _ HH.out.1 hs R0.out
        rw [HM.out.1, HSV.out] at hse
        refine hse.mono ?_; rintro e w1 ⟨rfl, hb1⟩
        have B1 : Hid (Below w.heap.size w w1) := below_on HB0.out (Nat.le_refl _) hb1
        have R1 : Hid (Row3 w1 a l) := R0.out.below hb1
        obtain ⟨hcc, -⟩ := bcell hb1
        have k0 := hcc w.heap.size 0 (by simp)
        have k1 := hcc w.heap.size 1 (by simp)
        simp at k0 k1
        have hz1 : w.heap.size < w1.heap.size := by have := hb1.size; simp at this; omega
        clear hb1 hcc hse HB0 R0
        go_wp2_with fail
        refine (ringBegun_any _).mono ?_; rintro e w2 ⟨rfl, hb2⟩
        have B2 : Hid (Below w.heap.size w w2) := below_on B1.out (Nat.le_refl _) hb2
        have R2 : Hid (Row3 w2 a l) := R1.out.below hb2
        have j0 := (hb2.cell (p := ⟨w.heap.size, 0, none⟩) hz1).trans k0
        have j1 := (hb2.cell (p := ⟨w.heap.size, 1, none⟩) hz1).trans k1
        have hz2 : w.heap.size < w2.heap.size := Nat.lt_of_lt_of_le hz1 hb2.size
        obtain ⟨b, off, n', A', B', rfl, hbs, hx', d1, d2, d3⟩ := R2.out.at (k := m) (by rw [HM.out.1]; omega)
        rw [HM.out.2] at hx'
        injection hx' with hx'
        injection hx' with e1 e2
        subst e1
        clear hb2 B1 R1 k0 k1 hz1 d2 d3 e2
        go_wp2_with fail
        have hop := open_any l (some ⟨b, off, none⟩) cap T _ HH.out.1 HT.out R2.out
        rw [HM.out.1, HO.out] at hop
        refine hop.mono ?_; rintro e w3 ⟨rfl, hb3⟩
        have B3 : Hid (Below w.heap.size w w3) := below_on B2.out (Nat.le_refl _) hb3
        have R3 : Hid (Row3 w3 (some ⟨b, off, none⟩) l) := R2.out.below hb3
        have i0 := (hb3.cell (p := ⟨w.heap.size, 0, none⟩) hz2).trans j0
        have i1 := (hb3.cell (p := ⟨w.heap.size, 1, none⟩) hz2).trans j1
        clear hb3 B2 R2 j0 j1 hz2 d1 hop hbs
        go_wp2_with fail
        have had := add_any l (some ⟨b, off, none⟩) cap A B _ HH.out.1 (fun h => by cases h) R3.out
        rw [HM.out.1] at had
        refine had.mono ?_; rintro e w4 ⟨v4, he4, ho4, hb4⟩
        have B4 : Hid (Below w.heap.size w w4) := below_on B3.out (Nat.le_refl _) hb4
        have R4 : Hid (Row3 w4 (some ⟨b, off, none⟩) l) := R3.out.below hb4
        obtain ⟨a4, c4, hv4, hr4, -, -, -⟩ := OwnE.row' ho4
        have L4 : Hid ((Rg.add l A B).1.length ≤ maxLen) := ho4.len
        have P4 : Hid (Row3 w4 a4 (Rg.add l A B).1) := hr4
        subst hv4
        clear ho4 hr4 hb4 had B3 R3 i0 i1
        have B5 := B4
        have R5 := R4
        clear B4 R4
        obtain ⟨C4, hC4⟩ : ∃ C4, (Rg.add l A B).2 = C4 := ⟨_, rfl⟩
        rw [hC4] at he4 hca
        have hca' : (C4 == 0) = false := by simpa using hca
        subst he4
        clear hca hC4
        go_wp2_with fail
        have hdr := drop_any l (some ⟨b, off, none⟩) cap no _ HH.out.1 HH.out.2.1 R5.out
        rw [HM.out.1] at hdr
        refine hdr.mono ?_; rintro e w6 ⟨v6, he6, ho6, hb6⟩
        have B6 : Hid (Below w.heap.size w w6) := below_on B5.out (Nat.le_refl _) hb6
        clear hb6 hdr B5 R5
        rw [HDB.out hcd] at he6 ho6
        obtain ⟨C6, hC6⟩ : ∃ C6, (Rg.drp l no).2 = C6 := ⟨_, rfl⟩
        rw [hC6] at he6 hcd
        have hcd' : (C6 != 0) = true := by simpa using hcd
        obtain ⟨a6, c6, hv6, -, -, -, -⟩ := OwnE.row' ho6
        replace hv6 : v6 = .slice a6 0 c6 := hv6
        subst hv6
        subst he6
        clear ho6 hcd hC6
        go_wp2
        go_ret
        exact ⟨rfl, B6.out⟩
  · have hb := Rg.sea_bad l x hc
    have HSV : Hid (Rg.seaV l x = .tuple #[.string ⟨#[]⟩, .int .i64 (Rg.sea l x).2]) := by show _ = _; unfold Rg.seaV; rw [hb]; rfl
    generalize (Rg.sea l x).2 = C at *
    have hc' : (C != 0) = true := by simpa using hc
    clear hb hc
    go_enter Try.func5, Try.ntmps5
    go_wp2_with fail
    have hse := seal_any l a cap x _ HH.out.1 hs R0.out
    rw [HSV.out] at hse
    refine hse.mono ?_; rintro e w1 ⟨rfl, hb1⟩
    have B1 : Hid (Below w.heap.size w w1) := below_on HB0.out (Nat.le_refl _) hb1
    clear hb1 hse HB0 R0
    go_wp2_with fail
    refine (ringBegun_any _).mono ?_; rintro e w2 ⟨rfl, hb2⟩
    have B2 : Hid (Below w.heap.size w w2) := below_on B1.out (Nat.le_refl _) hb2
    clear hb2 B1
    go_wp2
    go_ret
    exact ⟨rfl, B2.out⟩
end Go.Proofs.Ytcjpbmfdgheolaa
