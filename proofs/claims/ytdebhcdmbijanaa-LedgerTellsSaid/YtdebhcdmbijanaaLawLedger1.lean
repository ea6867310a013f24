/- The walk of LedgerTells. -/
import Derived.Test.YtdebhcdmbijanaaLgAt
namespace Go.Proofs.Ytdebhcdmbijanaa
open Go.RowKit Go.BigFrame

set_option maxRecDepth 100000 in
set_option maxHeartbeats 4000000 in
theorem lt_in (l : List Lg.Ps) (a : Option Addr) (cap : Nat) (id : Int) (ls : List Lg.Ln) (pa : Option Addr) (pc : Nat) (acc rid ras : Int) (w : World) (hL : Ldg w a l.length cap l) (hpl : ls.length ≤ maxLen ∧ ls.length ≤ pc) (hpr : RowL w pa ls) (h0 : Lg.chk l = 0) (ha : 1 ≤ acc ∧ acc ≤ 5) :
    Calls Try.prog 3 #[.slice a l.length cap, .agg #[.int .i64 id, .slice pa ls.length pc], .int .i64 acc, .int .i64 rid, .int .i64 ras] w fun e w' => e = .returned (.bool true) ∧ Below w.heap.size w w' := by
  have L : Hid (Ldg w a l.length cap l) := hL
  have P : Hid (RowL w pa ls) := hpr
  have HPL : Hid (ls.length ≤ maxLen ∧ ls.length ≤ pc) := hpl
  have hp1 := Lg.post_len l (id, ls)
  have hr1 := Lg.rev_len l rid ras
  obtain ⟨⟨A, c⟩, hA⟩ : ∃ r, Lg.post l (id, ls) = r := ⟨_, rfl⟩
  obtain ⟨⟨R, d⟩, hR⟩ : ∃ r, Lg.rev l rid ras = r := ⟨_, rfl⟩
  rw [hA] at hp1
  rw [hR] at hr1
  simp only at hp1 hr1
  have HA : Hid (Lg.post l (id, ls) = (A, c)) := hA
  have HR : Hid (Lg.rev l rid ras = (R, d)) := hR
  have HAL : Hid (A.length ≤ maxLen) := Nat.le_trans hp1 mL
  have HRL : Hid (R.length ≤ maxLen) := Nat.le_trans hr1 mL
  obtain ⟨v, hv⟩ : ∃ v, Lg.bal l acc = v := ⟨_, rfl⟩
  have HV : Hid (Lg.balV l acc = v ∧ Lg.balC l acc = 0) := by have := Lg.balV_in (a := acc) h0 (by omega); rw [hv] at this; exact this
  have HB : Hid (Lg.bal l acc = v) := hv
  have HLO : Hid (Lg.LOk l) := (Lg.chk_ok l).1 h0
  have HC : Hid (Lg.chk l = 0) := h0
  obtain ⟨ha1, ha2⟩ := ha
  clear hv h0
  obtain ⟨n, hn⟩ : ∃ n, l.length = n := ⟨_, rfl⟩
  obtain ⟨m, hm⟩ : ∃ m, ls.length = m := ⟨_, rfl⟩
  have HM : Hid (ls.length = m) := hm
  rw [hn] at L
  rw [hn, hm]
  have B0 : Hid (Below w.heap.size w (w.alloc (.cells #[.int .i64 id, .slice pa m pc] 25))) := below_box w _
  have L : Hid (Ldg (w.alloc (.cells #[.int .i64 id, .slice pa m pc] 25)) a n cap l) := L.out.below B0.out
  have P : Hid (RowL (w.alloc (.cells #[.int .i64 id, .slice pa m pc] 25)) pa ls) := P.out.below B0.out
  have PB : Hid (Blk2 (w.alloc (.cells #[.int .i64 id, .slice pa m pc] 25)) w.heap.size (.int .i64 id) (.slice pa m pc)) := Blk2.new _ _ _ _
  clear hA hR hp1 hr1 hL hpl hpr hn hm
  go_enter Try.func3, Try.ntmps3
  go_wp2_with fail
  refine (lPost_at L.out id ls pa m pc A c HM.out HPL.out P.out HA.out HAL.out).mono ?_
  rintro e w1 ⟨Aa, Ac, rfl, hl, hb⟩
  have B1 : Hid (Below w.heap.size w w1) := below_on B0.out (Nat.le_refl _) hb
  have L : Hid (Ldg w1 a n cap l) := L.out.below hb
  have P : Hid (RowL w1 pa ls) := P.out.below hb
  have PB : Hid (Blk2 w1 w.heap.size (.int .i64 id) (.slice pa m pc)) := PB.out.below hb
  have LA : Hid (Ldg w1 Aa A.length Ac A) := hl
  clear hb hl
  go_wp2_with fail
  refine (lBalance_at L.out acc v 0 HV.out.1 HV.out.2).mono ?_
  rintro e w2 ⟨rfl, hb⟩
  have B2 : Hid (Below w.heap.size w w2) := below_on B1.out (Nat.le_refl _) hb
  have L : Hid (Ldg w2 a n cap l) := L.out.below hb
  have P : Hid (RowL w2 pa ls) := P.out.below hb
  have PB : Hid (Blk2 w2 w.heap.size (.int .i64 id) (.slice pa m pc)) := PB.out.below hb
  have LA : Hid (Ldg w2 Aa A.length Ac A) := LA.out.below hb
  clear hb
  go_wp2_with fail
  refine (lReverse_at L.out rid ras R d HR.out HRL.out).mono ?_
  rintro e w3 ⟨Ra, Rc, rfl, hl, hb⟩
  have B3 : Hid (Below w.heap.size w w3) := below_on B2.out (Nat.le_refl _) hb
  have L : Hid (Ldg w3 a n cap l) := L.out.below hb
  have P : Hid (RowL w3 pa ls) := P.out.below hb
  have PB : Hid (Blk2 w3 w.heap.size (.int .i64 id) (.slice pa m pc)) := PB.out.below hb
  have LA : Hid (Ldg w3 Aa A.length Ac A) := LA.out.below hb
  have LR : Hid (Ldg w3 Ra R.length Rc R) := hl
  clear hb hl
  go_wp2_with fail
  refine (refCheck_at L.out 0 HC.out).mono ?_
  rintro e w4 ⟨rfl, hb⟩
  have B4 : Hid (Below w.heap.size w w4) := below_on B3.out (Nat.le_refl _) hb
  have L : Hid (Ldg w4 a n cap l) := L.out.below hb
  have P : Hid (RowL w4 pa ls) := P.out.below hb
  have PB : Hid (Blk2 w4 w.heap.size (.int .i64 id) (.slice pa m pc)) := PB.out.below hb
  have LA : Hid (Ldg w4 Aa A.length Ac A) := LA.out.below hb
  have LR : Hid (Ldg w4 Ra R.length Rc R) := LR.out.below hb
  clear hb
  have k0 := PB.out.2.1
  have k1 := PB.out.2.2.1
  go_wp2_with fail
  refine (postOf_at L.out id ls pa m pc A c HM.out HPL.out P.out HA.out HAL.out).mono ?_
  rintro e w5 ⟨Xa, Xc, rfl, hl, hb⟩
  have B5 : Hid (Below w.heap.size w w5) := below_on B4.out (Nat.le_refl _) hb
  have L : Hid (Ldg w5 a n cap l) := L.out.below hb
  have P : Hid (RowL w5 pa ls) := P.out.below hb
  have PB : Hid (Blk2 w5 w.heap.size (.int .i64 id) (.slice pa m pc)) := PB.out.below hb
  have LA : Hid (Ldg w5 Aa A.length Ac A) := LA.out.below hb
  have LR : Hid (Ldg w5 Ra R.length Rc R) := LR.out.below hb
  have LX : Hid (Ldg w5 Xa A.length Xc A) := hl
  clear hb hl
  clear k0 k1
  go_wp2_with fail
  refine (reverseOf_at L.out rid ras R d HR.out HRL.out).mono ?_
  rintro e w6 ⟨Ya, Yc, rfl, hl, hb⟩
  have B6 : Hid (Below w.heap.size w w6) := below_on B5.out (Nat.le_refl _) hb
  have L : Hid (Ldg w6 a n cap l) := L.out.below hb
  have P : Hid (RowL w6 pa ls) := P.out.below hb
  have PB : Hid (Blk2 w6 w.heap.size (.int .i64 id) (.slice pa m pc)) := PB.out.below hb
  have LA : Hid (Ldg w6 Aa A.length Ac A) := LA.out.below hb
  have LR : Hid (Ldg w6 Ra R.length Rc R) := LR.out.below hb
  have LX : Hid (Ldg w6 Xa A.length Xc A) := LX.out.below hb
  have LY : Hid (Ldg w6 Ya R.length Yc R) := hl
  clear hb hl
  go_wp2_with fail
  refine (balanceOf_at L.out acc v HLO.out.len HLO.out.each HB.out).mono ?_
  rintro e w7 ⟨rfl, rfl⟩
  go_wp2_with fail
  refine (lbegun_any _).mono ?_
  rintro e w7 ⟨rfl, hb⟩
  have B7 : Hid (Below w.heap.size w w7) := below_on B6.out (Nat.le_refl _) hb
  have L : Hid (Ldg w7 a n cap l) := L.out.below hb
  have P : Hid (RowL w7 pa ls) := P.out.below hb
  have PB : Hid (Blk2 w7 w.heap.size (.int .i64 id) (.slice pa m pc)) := PB.out.below hb
  have LA : Hid (Ldg w7 Aa A.length Ac A) := LA.out.below hb
  have LR : Hid (Ldg w7 Ra R.length Rc R) := LR.out.below hb
  have LX : Hid (Ldg w7 Xa A.length Xc A) := LX.out.below hb
  have LY : Hid (Ldg w7 Ya R.length Yc R) := LY.out.below hb
  clear hb
  go_wp2_with fail
  refine (lCheck_at L.out 0 HC.out).mono ?_
  rintro e w8 ⟨rfl, hb⟩
  have B8 : Hid (Below w.heap.size w w8) := below_on B7.out (Nat.le_refl _) hb
  have L : Hid (Ldg w8 a n cap l) := L.out.below hb
  have P : Hid (RowL w8 pa ls) := P.out.below hb
  have PB : Hid (Blk2 w8 w.heap.size (.int .i64 id) (.slice pa m pc)) := PB.out.below hb
  have LA : Hid (Ldg w8 Aa A.length Ac A) := LA.out.below hb
  have LR : Hid (Ldg w8 Ra R.length Rc R) := LR.out.below hb
  have LX : Hid (Ldg w8 Xa A.length Xc A) := LX.out.below hb
  have LY : Hid (Ldg w8 Ya R.length Yc R) := LY.out.below hb
  clear hb
  go_wp2_with fail
  refine (sameLedger_at LA.out LX.out true (by simp)).mono ?_
  rintro e w9 ⟨rfl, hb⟩
  have B9 : Hid (Below w.heap.size w w9) := below_on B8.out (Nat.le_refl _) hb
  have L : Hid (Ldg w9 a n cap l) := L.out.below hb
  have P : Hid (RowL w9 pa ls) := P.out.below hb
  have PB : Hid (Blk2 w9 w.heap.size (.int .i64 id) (.slice pa m pc)) := PB.out.below hb
  have LA : Hid (Ldg w9 Aa A.length Ac A) := LA.out.below hb
  have LR : Hid (Ldg w9 Ra R.length Rc R) := LR.out.below hb
  have LX : Hid (Ldg w9 Xa A.length Xc A) := LX.out.below hb
  have LY : Hid (Ldg w9 Ya R.length Yc R) := LY.out.below hb
  clear hb
  go_wp2_with fail
  refine (sameLedger_at LR.out LY.out true (by simp)).mono ?_
  rintro e w10 ⟨rfl, hb⟩
  have B10 : Hid (Below w.heap.size w w10) := below_on B9.out (Nat.le_refl _) hb
  have L : Hid (Ldg w10 a n cap l) := L.out.below hb
  have P : Hid (RowL w10 pa ls) := P.out.below hb
  have PB : Hid (Blk2 w10 w.heap.size (.int .i64 id) (.slice pa m pc)) := PB.out.below hb
  have LA : Hid (Ldg w10 Aa A.length Ac A) := LA.out.below hb
  have LR : Hid (Ldg w10 Ra R.length Rc R) := LR.out.below hb
  have LX : Hid (Ldg w10 Xa A.length Xc A) := LX.out.below hb
  have LY : Hid (Ldg w10 Ya R.length Yc R) := LY.out.below hb
  clear hb
  go_wp2
  go_ret
  exact ⟨rfl, B10.out⟩
set_option maxRecDepth 100000 in
set_option maxHeartbeats 4000000 in
theorem lt_out (l : List Lg.Ps) (a : Option Addr) (cap : Nat) (id : Int) (ls : List Lg.Ln) (pa : Option Addr) (pc : Nat) (acc rid ras : Int) (w : World) (hL : Ldg w a l.length cap l) (hpl : ls.length ≤ maxLen ∧ ls.length ≤ pc) (hpr : RowL w pa ls) (h0 : Lg.chk l = 0) (ha : acc < 1 ∨ 5 < acc) :
    Calls Try.prog 3 #[.slice a l.length cap, .agg #[.int .i64 id, .slice pa ls.length pc], .int .i64 acc, .int .i64 rid, .int .i64 ras] w fun e w' => e = .returned (.bool true) ∧ Below w.heap.size w w' := by
  have L : Hid (Ldg w a l.length cap l) := hL
  have P : Hid (RowL w pa ls) := hpr
  have HPL : Hid (ls.length ≤ maxLen ∧ ls.length ≤ pc) := hpl
  have hp1 := Lg.post_len l (id, ls)
  have hr1 := Lg.rev_len l rid ras
  obtain ⟨⟨A, c⟩, hA⟩ : ∃ r, Lg.post l (id, ls) = r := ⟨_, rfl⟩
  obtain ⟨⟨R, d⟩, hR⟩ : ∃ r, Lg.rev l rid ras = r := ⟨_, rfl⟩
  rw [hA] at hp1
  rw [hR] at hr1
  simp only at hp1 hr1
  have HA : Hid (Lg.post l (id, ls) = (A, c)) := hA
  have HR : Hid (Lg.rev l rid ras = (R, d)) := hR
  have HAL : Hid (A.length ≤ maxLen) := Nat.le_trans hp1 mL
  have HRL : Hid (R.length ≤ maxLen) := Nat.le_trans hr1 mL
  have HV : Hid (Lg.balV l acc = 0 ∧ Lg.balC l acc = 7) := Lg.balV_out h0 ha
  have HC : Hid (Lg.chk l = 0) := h0
  clear h0
  obtain ⟨n, hn⟩ : ∃ n, l.length = n := ⟨_, rfl⟩
  obtain ⟨m, hm⟩ : ∃ m, ls.length = m := ⟨_, rfl⟩
  have HM : Hid (ls.length = m) := hm
  rw [hn] at L
  rw [hn, hm]
  have B0 : Hid (Below w.heap.size w (w.alloc (.cells #[.int .i64 id, .slice pa m pc] 25))) := below_box w _
  have L : Hid (Ldg (w.alloc (.cells #[.int .i64 id, .slice pa m pc] 25)) a n cap l) := L.out.below B0.out
  have P : Hid (RowL (w.alloc (.cells #[.int .i64 id, .slice pa m pc] 25)) pa ls) := P.out.below B0.out
  have PB : Hid (Blk2 (w.alloc (.cells #[.int .i64 id, .slice pa m pc] 25)) w.heap.size (.int .i64 id) (.slice pa m pc)) := Blk2.new _ _ _ _
  clear hA hR hp1 hr1 hL hpl hpr hn hm
  go_enter Try.func3, Try.ntmps3
  go_wp2_with fail
  refine (lPost_at L.out id ls pa m pc A c HM.out HPL.out P.out HA.out HAL.out).mono ?_
  rintro e w1 ⟨Aa, Ac, rfl, hl, hb⟩
  have B1 : Hid (Below w.heap.size w w1) := below_on B0.out (Nat.le_refl _) hb
  have L : Hid (Ldg w1 a n cap l) := L.out.below hb
  have P : Hid (RowL w1 pa ls) := P.out.below hb
  have PB : Hid (Blk2 w1 w.heap.size (.int .i64 id) (.slice pa m pc)) := PB.out.below hb
  have LA : Hid (Ldg w1 Aa A.length Ac A) := hl
  clear hb hl
  go_wp2_with fail
  refine (lBalance_at L.out acc 0 7 HV.out.1 HV.out.2).mono ?_
  rintro e w2 ⟨rfl, hb⟩
  have B2 : Hid (Below w.heap.size w w2) := below_on B1.out (Nat.le_refl _) hb
  have L : Hid (Ldg w2 a n cap l) := L.out.below hb
  have P : Hid (RowL w2 pa ls) := P.out.below hb
  have PB : Hid (Blk2 w2 w.heap.size (.int .i64 id) (.slice pa m pc)) := PB.out.below hb
  have LA : Hid (Ldg w2 Aa A.length Ac A) := LA.out.below hb
  clear hb
  go_wp2_with fail
  refine (lReverse_at L.out rid ras R d HR.out HRL.out).mono ?_
  rintro e w3 ⟨Ra, Rc, rfl, hl, hb⟩
  have B3 : Hid (Below w.heap.size w w3) := below_on B2.out (Nat.le_refl _) hb
  have L : Hid (Ldg w3 a n cap l) := L.out.below hb
  have P : Hid (RowL w3 pa ls) := P.out.below hb
  have PB : Hid (Blk2 w3 w.heap.size (.int .i64 id) (.slice pa m pc)) := PB.out.below hb
  have LA : Hid (Ldg w3 Aa A.length Ac A) := LA.out.below hb
  have LR : Hid (Ldg w3 Ra R.length Rc R) := hl
  clear hb hl
  go_wp2_with fail
  refine (refCheck_at L.out 0 HC.out).mono ?_
  rintro e w4 ⟨rfl, hb⟩
  have B4 : Hid (Below w.heap.size w w4) := below_on B3.out (Nat.le_refl _) hb
  have L : Hid (Ldg w4 a n cap l) := L.out.below hb
  have P : Hid (RowL w4 pa ls) := P.out.below hb
  have PB : Hid (Blk2 w4 w.heap.size (.int .i64 id) (.slice pa m pc)) := PB.out.below hb
  have LA : Hid (Ldg w4 Aa A.length Ac A) := LA.out.below hb
  have LR : Hid (Ldg w4 Ra R.length Rc R) := LR.out.below hb
  clear hb
  have k0 := PB.out.2.1
  have k1 := PB.out.2.2.1
  go_wp2_with fail
  refine (postOf_at L.out id ls pa m pc A c HM.out HPL.out P.out HA.out HAL.out).mono ?_
  rintro e w5 ⟨Xa, Xc, rfl, hl, hb⟩
  have B5 : Hid (Below w.heap.size w w5) := below_on B4.out (Nat.le_refl _) hb
  have L : Hid (Ldg w5 a n cap l) := L.out.below hb
  have P : Hid (RowL w5 pa ls) := P.out.below hb
  have PB : Hid (Blk2 w5 w.heap.size (.int .i64 id) (.slice pa m pc)) := PB.out.below hb
  have LA : Hid (Ldg w5 Aa A.length Ac A) := LA.out.below hb
  have LR : Hid (Ldg w5 Ra R.length Rc R) := LR.out.below hb
  have LX : Hid (Ldg w5 Xa A.length Xc A) := hl
  clear hb hl
  clear k0 k1
  go_wp2_with fail
  refine (reverseOf_at L.out rid ras R d HR.out HRL.out).mono ?_
  rintro e w6 ⟨Ya, Yc, rfl, hl, hb⟩
  have B6 : Hid (Below w.heap.size w w6) := below_on B5.out (Nat.le_refl _) hb
  have L : Hid (Ldg w6 a n cap l) := L.out.below hb
  have P : Hid (RowL w6 pa ls) := P.out.below hb
  have PB : Hid (Blk2 w6 w.heap.size (.int .i64 id) (.slice pa m pc)) := PB.out.below hb
  have LA : Hid (Ldg w6 Aa A.length Ac A) := LA.out.below hb
  have LR : Hid (Ldg w6 Ra R.length Rc R) := LR.out.below hb
  have LX : Hid (Ldg w6 Xa A.length Xc A) := LX.out.below hb
  have LY : Hid (Ldg w6 Ya R.length Yc R) := hl
  clear hb hl
  rcases ha with ha | ha
  · go_wp2_with fail
    refine (lbegun_any _).mono ?_
    rintro e w7 ⟨rfl, hb⟩
    have B7 : Hid (Below w.heap.size w w7) := below_on B6.out (Nat.le_refl _) hb
    have L : Hid (Ldg w7 a n cap l) := L.out.below hb
    have P : Hid (RowL w7 pa ls) := P.out.below hb
    have PB : Hid (Blk2 w7 w.heap.size (.int .i64 id) (.slice pa m pc)) := PB.out.below hb
    have LA : Hid (Ldg w7 Aa A.length Ac A) := LA.out.below hb
    have LR : Hid (Ldg w7 Ra R.length Rc R) := LR.out.below hb
    have LX : Hid (Ldg w7 Xa A.length Xc A) := LX.out.below hb
    have LY : Hid (Ldg w7 Ya R.length Yc R) := LY.out.below hb
    clear hb
    go_wp2_with fail
    refine (lCheck_at L.out 0 HC.out).mono ?_
    rintro e w8 ⟨rfl, hb⟩
    have B8 : Hid (Below w.heap.size w w8) := below_on B7.out (Nat.le_refl _) hb
    have L : Hid (Ldg w8 a n cap l) := L.out.below hb
    have P : Hid (RowL w8 pa ls) := P.out.below hb
    have PB : Hid (Blk2 w8 w.heap.size (.int .i64 id) (.slice pa m pc)) := PB.out.below hb
    have LA : Hid (Ldg w8 Aa A.length Ac A) := LA.out.below hb
    have LR : Hid (Ldg w8 Ra R.length Rc R) := LR.out.below hb
    have LX : Hid (Ldg w8 Xa A.length Xc A) := LX.out.below hb
    have LY : Hid (Ldg w8 Ya R.length Yc R) := LY.out.below hb
    clear hb
    go_wp2_with fail
    refine (sameLedger_at LA.out LX.out true (by simp)).mono ?_
    rintro e w9 ⟨rfl, hb⟩
    have B9 : Hid (Below w.heap.size w w9) := below_on B8.out (Nat.le_refl _) hb
    have L : Hid (Ldg w9 a n cap l) := L.out.below hb
    have P : Hid (RowL w9 pa ls) := P.out.below hb
    have PB : Hid (Blk2 w9 w.heap.size (.int .i64 id) (.slice pa m pc)) := PB.out.below hb
    have LA : Hid (Ldg w9 Aa A.length Ac A) := LA.out.below hb
    have LR : Hid (Ldg w9 Ra R.length Rc R) := LR.out.below hb
    have LX : Hid (Ldg w9 Xa A.length Xc A) := LX.out.below hb
    have LY : Hid (Ldg w9 Ya R.length Yc R) := LY.out.below hb
    clear hb
    go_wp2_with fail
    refine (sameLedger_at LR.out LY.out true (by simp)).mono ?_
    rintro e w10 ⟨rfl, hb⟩
    have B10 : Hid (Below w.heap.size w w10) := below_on B9.out (Nat.le_refl _) hb
    have L : Hid (Ldg w10 a n cap l) := L.out.below hb
    have P : Hid (RowL w10 pa ls) := P.out.below hb
    have PB : Hid (Blk2 w10 w.heap.size (.int .i64 id) (.slice pa m pc)) := PB.out.below hb
    have LA : Hid (Ldg w10 Aa A.length Ac A) := LA.out.below hb
    have LR : Hid (Ldg w10 Ra R.length Rc R) := LR.out.below hb
    have LX : Hid (Ldg w10 Xa A.length Xc A) := LX.out.below hb
    have LY : Hid (Ldg w10 Ya R.length Yc R) := LY.out.below hb
    clear hb
    go_wp2
    go_ret
    exact ⟨rfl, B10.out⟩
  · go_wp2_with fail
    refine (lbegun_any _).mono ?_
    rintro e w7 ⟨rfl, hb⟩
    have B7 : Hid (Below w.heap.size w w7) := below_on B6.out (Nat.le_refl _) hb
    have L : Hid (Ldg w7 a n cap l) := L.out.below hb
    have P : Hid (RowL w7 pa ls) := P.out.below hb
    have PB : Hid (Blk2 w7 w.heap.size (.int .i64 id) (.slice pa m pc)) := PB.out.below hb
    have LA : Hid (Ldg w7 Aa A.length Ac A) := LA.out.below hb
    have LR : Hid (Ldg w7 Ra R.length Rc R) := LR.out.below hb
    have LX : Hid (Ldg w7 Xa A.length Xc A) := LX.out.below hb
    have LY : Hid (Ldg w7 Ya R.length Yc R) := LY.out.below hb
    clear hb
    go_wp2_with fail
    refine (lCheck_at L.out 0 HC.out).mono ?_
    rintro e w8 ⟨rfl, hb⟩
    have B8 : Hid (Below w.heap.size w w8) := below_on B7.out (Nat.le_refl _) hb
    have L : Hid (Ldg w8 a n cap l) := L.out.below hb
    have P : Hid (RowL w8 pa ls) := P.out.below hb
    have PB : Hid (Blk2 w8 w.heap.size (.int .i64 id) (.slice pa m pc)) := PB.out.below hb
    have LA : Hid (Ldg w8 Aa A.length Ac A) := LA.out.below hb
    have LR : Hid (Ldg w8 Ra R.length Rc R) := LR.out.below hb
    have LX : Hid (Ldg w8 Xa A.length Xc A) := LX.out.below hb
    have LY : Hid (Ldg w8 Ya R.length Yc R) := LY.out.below hb
    clear hb
    go_wp2_with fail
    refine (sameLedger_at LA.out LX.out true (by simp)).mono ?_
    rintro e w9 ⟨rfl, hb⟩
    have B9 : Hid (Below w.heap.size w w9) := below_on B8.out (Nat.le_refl _) hb
    have L : Hid (Ldg w9 a n cap l) := L.out.below hb
    have P : Hid (RowL w9 pa ls) := P.out.below hb
    have PB : Hid (Blk2 w9 w.heap.size (.int .i64 id) (.slice pa m pc)) := PB.out.below hb
    have LA : Hid (Ldg w9 Aa A.length Ac A) := LA.out.below hb
    have LR : Hid (Ldg w9 Ra R.length Rc R) := LR.out.below hb
    have LX : Hid (Ldg w9 Xa A.length Xc A) := LX.out.below hb
    have LY : Hid (Ldg w9 Ya R.length Yc R) := LY.out.below hb
    clear hb
    go_wp2_with fail
    refine (sameLedger_at LR.out LY.out true (by simp)).mono ?_
    rintro e w10 ⟨rfl, hb⟩
    have B10 : Hid (Below w.heap.size w w10) := below_on B9.out (Nat.le_refl _) hb
    have L : Hid (Ldg w10 a n cap l) := L.out.below hb
    have P : Hid (RowL w10 pa ls) := P.out.below hb
    have PB : Hid (Blk2 w10 w.heap.size (.int .i64 id) (.slice pa m pc)) := PB.out.below hb
    have LA : Hid (Ldg w10 Aa A.length Ac A) := LA.out.below hb
    have LR : Hid (Ldg w10 Ra R.length Rc R) := LR.out.below hb
    have LX : Hid (Ldg w10 Xa A.length Xc A) := LX.out.below hb
    have LY : Hid (Ldg w10 Ya R.length Yc R) := LY.out.below hb
    clear hb
    go_wp2
    go_ret
    exact ⟨rfl, B10.out⟩
set_option maxRecDepth 100000 in
set_option maxHeartbeats 4000000 in
theorem lt_bad (l : List Lg.Ps) (a : Option Addr) (cap : Nat) (id : Int) (ls : List Lg.Ln) (pa : Option Addr) (pc : Nat) (acc rid ras : Int) (w : World) (hL : Ldg w a l.length cap l) (hpl : ls.length ≤ maxLen ∧ ls.length ≤ pc) (hpr : RowL w pa ls) (h0 : Lg.chk l ≠ 0) :
    Calls Try.prog 3 #[.slice a l.length cap, .agg #[.int .i64 id, .slice pa ls.length pc], .int .i64 acc, .int .i64 rid, .int .i64 ras] w fun e w' => e = .returned (.bool true) ∧ Below w.heap.size w w' := by
  have L : Hid (Ldg w a l.length cap l) := hL
  have P : Hid (RowL w pa ls) := hpr
  have HPL : Hid (ls.length ≤ maxLen ∧ ls.length ≤ pc) := hpl
  have hp1 := Lg.post_len l (id, ls)
  have hr1 := Lg.rev_len l rid ras
  obtain ⟨⟨A, c⟩, hA⟩ : ∃ r, Lg.post l (id, ls) = r := ⟨_, rfl⟩
  obtain ⟨⟨R, d⟩, hR⟩ : ∃ r, Lg.rev l rid ras = r := ⟨_, rfl⟩
  rw [hA] at hp1
  rw [hR] at hr1
  simp only at hp1 hr1
  have HA : Hid (Lg.post l (id, ls) = (A, c)) := hA
  have HR : Hid (Lg.rev l rid ras = (R, d)) := hR
  have HAL : Hid (A.length ≤ maxLen) := Nat.le_trans hp1 mL
  have HRL : Hid (R.length ≤ maxLen) := Nat.le_trans hr1 mL
  obtain ⟨q, hq⟩ : ∃ q, Lg.chk l = q := ⟨_, rfl⟩
  have HV : Hid (Lg.balV l acc = 0 ∧ Lg.balC l acc = q) := by have := Lg.balV_bad (a := acc) h0; rw [hq] at this; exact this
  have HC : Hid (Lg.chk l = q) := hq
  have hq0 : (q == 0) = false := by rw [hq] at h0; simpa using h0
  have hq1 : ¬ q = 0 := by rw [hq] at h0; exact h0
  clear h0 hq
  obtain ⟨n, hn⟩ : ∃ n, l.length = n := ⟨_, rfl⟩
  obtain ⟨m, hm⟩ : ∃ m, ls.length = m := ⟨_, rfl⟩
  have HM : Hid (ls.length = m) := hm
  rw [hn] at L
  rw [hn, hm]
  have B0 : Hid (Below w.heap.size w (w.alloc (.cells #[.int .i64 id, .slice pa m pc] 25))) := below_box w _
  have L : Hid (Ldg (w.alloc (.cells #[.int .i64 id, .slice pa m pc] 25)) a n cap l) := L.out.below B0.out
  have P : Hid (RowL (w.alloc (.cells #[.int .i64 id, .slice pa m pc] 25)) pa ls) := P.out.below B0.out
  have PB : Hid (Blk2 (w.alloc (.cells #[.int .i64 id, .slice pa m pc] 25)) w.heap.size (.int .i64 id) (.slice pa m pc)) := Blk2.new _ _ _ _
  clear hA hR hp1 hr1 hL hpl hpr hn hm
  go_enter Try.func3, Try.ntmps3
  go_wp2_with fail
  refine (lPost_at L.out id ls pa m pc A c HM.out HPL.out P.out HA.out HAL.out).mono ?_
  rintro e w1 ⟨Aa, Ac, rfl, hl, hb⟩
  have B1 : Hid (Below w.heap.size w w1) := below_on B0.out (Nat.le_refl _) hb
  have L : Hid (Ldg w1 a n cap l) := L.out.below hb
  have P : Hid (RowL w1 pa ls) := P.out.below hb
  have PB : Hid (Blk2 w1 w.heap.size (.int .i64 id) (.slice pa m pc)) := PB.out.below hb
  have LA : Hid (Ldg w1 Aa A.length Ac A) := hl
  clear hb hl
  go_wp2_with fail
  refine (lBalance_at L.out acc 0 q HV.out.1 HV.out.2).mono ?_
  rintro e w2 ⟨rfl, hb⟩
  have B2 : Hid (Below w.heap.size w w2) := below_on B1.out (Nat.le_refl _) hb
  have L : Hid (Ldg w2 a n cap l) := L.out.below hb
  have P : Hid (RowL w2 pa ls) := P.out.below hb
  have PB : Hid (Blk2 w2 w.heap.size (.int .i64 id) (.slice pa m pc)) := PB.out.below hb
  have LA : Hid (Ldg w2 Aa A.length Ac A) := LA.out.below hb
  clear hb
  go_wp2_with fail
  refine (lReverse_at L.out rid ras R d HR.out HRL.out).mono ?_
  rintro e w3 ⟨Ra, Rc, rfl, hl, hb⟩
  have B3 : Hid (Below w.heap.size w w3) := below_on B2.out (Nat.le_refl _) hb
  have L : Hid (Ldg w3 a n cap l) := L.out.below hb
  have P : Hid (RowL w3 pa ls) := P.out.below hb
  have PB : Hid (Blk2 w3 w.heap.size (.int .i64 id) (.slice pa m pc)) := PB.out.below hb
  have LA : Hid (Ldg w3 Aa A.length Ac A) := LA.out.below hb
  have LR : Hid (Ldg w3 Ra R.length Rc R) := hl
  clear hb hl
  go_wp2_with fail
  refine (refCheck_at L.out q HC.out).mono ?_
  rintro e w4 ⟨rfl, hb⟩
  have B4 : Hid (Below w.heap.size w w4) := below_on B3.out (Nat.le_refl _) hb
  have L : Hid (Ldg w4 a n cap l) := L.out.below hb
  have P : Hid (RowL w4 pa ls) := P.out.below hb
  have PB : Hid (Blk2 w4 w.heap.size (.int .i64 id) (.slice pa m pc)) := PB.out.below hb
  have LA : Hid (Ldg w4 Aa A.length Ac A) := LA.out.below hb
  have LR : Hid (Ldg w4 Ra R.length Rc R) := LR.out.below hb
  clear hb
  have k0 := PB.out.2.1
  have k1 := PB.out.2.2.1
  go_wp2_with fail
  refine (postOf_at L.out id ls pa m pc A c HM.out HPL.out P.out HA.out HAL.out).mono ?_
  rintro e w5 ⟨Xa, Xc, rfl, hl, hb⟩
  have B5 : Hid (Below w.heap.size w w5) := below_on B4.out (Nat.le_refl _) hb
  have L : Hid (Ldg w5 a n cap l) := L.out.below hb
  have P : Hid (RowL w5 pa ls) := P.out.below hb
  have PB : Hid (Blk2 w5 w.heap.size (.int .i64 id) (.slice pa m pc)) := PB.out.below hb
  have LA : Hid (Ldg w5 Aa A.length Ac A) := LA.out.below hb
  have LR : Hid (Ldg w5 Ra R.length Rc R) := LR.out.below hb
  have LX : Hid (Ldg w5 Xa A.length Xc A) := hl
  clear hb hl
  clear k0 k1
  go_wp2_with fail
  refine (reverseOf_at L.out rid ras R d HR.out HRL.out).mono ?_
  rintro e w6 ⟨Ya, Yc, rfl, hl, hb⟩
  have B6 : Hid (Below w.heap.size w w6) := below_on B5.out (Nat.le_refl _) hb
  have L : Hid (Ldg w6 a n cap l) := L.out.below hb
  have P : Hid (RowL w6 pa ls) := P.out.below hb
  have PB : Hid (Blk2 w6 w.heap.size (.int .i64 id) (.slice pa m pc)) := PB.out.below hb
  have LA : Hid (Ldg w6 Aa A.length Ac A) := LA.out.below hb
  have LR : Hid (Ldg w6 Ra R.length Rc R) := LR.out.below hb
  have LX : Hid (Ldg w6 Xa A.length Xc A) := LX.out.below hb
  have LY : Hid (Ldg w6 Ya R.length Yc R) := hl
  clear hb hl
  go_wp2_with fail
  refine (lbegun_any _).mono ?_
  rintro e w7 ⟨rfl, hb⟩
  have B7 : Hid (Below w.heap.size w w7) := below_on B6.out (Nat.le_refl _) hb
  have L : Hid (Ldg w7 a n cap l) := L.out.below hb
  have P : Hid (RowL w7 pa ls) := P.out.below hb
  have PB : Hid (Blk2 w7 w.heap.size (.int .i64 id) (.slice pa m pc)) := PB.out.below hb
  have LA : Hid (Ldg w7 Aa A.length Ac A) := LA.out.below hb
  have LR : Hid (Ldg w7 Ra R.length Rc R) := LR.out.below hb
  have LX : Hid (Ldg w7 Xa A.length Xc A) := LX.out.below hb
  have LY : Hid (Ldg w7 Ya R.length Yc R) := LY.out.below hb
  clear hb
  go_wp2_with fail
  refine (lCheck_at L.out q HC.out).mono ?_
  rintro e w8 ⟨rfl, hb⟩
  have B8 : Hid (Below w.heap.size w w8) := below_on B7.out (Nat.le_refl _) hb
  have L : Hid (Ldg w8 a n cap l) := L.out.below hb
  have P : Hid (RowL w8 pa ls) := P.out.below hb
  have PB : Hid (Blk2 w8 w.heap.size (.int .i64 id) (.slice pa m pc)) := PB.out.below hb
  have LA : Hid (Ldg w8 Aa A.length Ac A) := LA.out.below hb
  have LR : Hid (Ldg w8 Ra R.length Rc R) := LR.out.below hb
  have LX : Hid (Ldg w8 Xa A.length Xc A) := LX.out.below hb
  have LY : Hid (Ldg w8 Ya R.length Yc R) := LY.out.below hb
  clear hb
  go_wp2_with fail
  refine (sameLedger_at LA.out LX.out true (by simp)).mono ?_
  rintro e w9 ⟨rfl, hb⟩
  have B9 : Hid (Below w.heap.size w w9) := below_on B8.out (Nat.le_refl _) hb
  have L : Hid (Ldg w9 a n cap l) := L.out.below hb
  have P : Hid (RowL w9 pa ls) := P.out.below hb
  have PB : Hid (Blk2 w9 w.heap.size (.int .i64 id) (.slice pa m pc)) := PB.out.below hb
  have LA : Hid (Ldg w9 Aa A.length Ac A) := LA.out.below hb
  have LR : Hid (Ldg w9 Ra R.length Rc R) := LR.out.below hb
  have LX : Hid (Ldg w9 Xa A.length Xc A) := LX.out.below hb
  have LY : Hid (Ldg w9 Ya R.length Yc R) := LY.out.below hb
  clear hb
  go_wp2_with fail
  refine (sameLedger_at LR.out LY.out true (by simp)).mono ?_
  rintro e w10 ⟨rfl, hb⟩
  have B10 : Hid (Below w.heap.size w w10) := below_on B9.out (Nat.le_refl _) hb
  have L : Hid (Ldg w10 a n cap l) := L.out.below hb
  have P : Hid (RowL w10 pa ls) := P.out.below hb
  have PB : Hid (Blk2 w10 w.heap.size (.int .i64 id) (.slice pa m pc)) := PB.out.below hb
  have LA : Hid (Ldg w10 Aa A.length Ac A) := LA.out.below hb
  have LR : Hid (Ldg w10 Ra R.length Rc R) := LR.out.below hb
  have LX : Hid (Ldg w10 Xa A.length Xc A) := LX.out.below hb
  have LY : Hid (Ldg w10 Ya R.length Yc R) := LY.out.below hb
  clear hb
  go_wp2
  go_ret
  exact ⟨rfl, B10.out⟩
theorem ledgerTells_any (l : List Lg.Ps) (a : Option Addr) (cap : Nat) (id : Int) (ls : List Lg.Ln) (pa : Option Addr) (pc : Nat) (acc rid ras : Int) (w : World) (hL : Ldg w a l.length cap l) (hpl : ls.length ≤ maxLen ∧ ls.length ≤ pc) (hpr : RowL w pa ls) :
    Calls Try.prog 3 #[.slice a l.length cap, .agg #[.int .i64 id, .slice pa ls.length pc], .int .i64 acc, .int .i64 rid, .int .i64 ras] w fun e w' => e = .returned (.bool true) ∧ Below w.heap.size w w' := by
  by_cases h : Lg.chk l = 0
  · by_cases ha : acc < 1 ∨ 5 < acc
    · exact lt_out l a cap id ls pa pc acc rid ras w hL hpl hpr h ha
    · exact lt_in l a cap id ls pa pc acc rid ras w hL hpl hpr h (by omega)
  · exact lt_bad l a cap id ls pa pc acc rid ras w hL hpl hpr h
end Go.Proofs.Ytdebhcdmbijanaa
