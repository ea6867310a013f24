/- The walk of RingTells: it answers true, whatever it is handed. -/
import Derived.Test.YtcjpbmfdgheolaaRBeg
import Derived.Test.YtcjpbmfdgheolaaRRa
import Derived.Test.YtcjpbmfdgheolaaRRd
namespace Go.Proofs.Ytcjpbmfdgheolaa
open Go.RowKit

theorem OwnE.len {w : World} {B : Nat} {v : Value} {xs : List Rg.Ep} (h : OwnE w B v xs) : xs.length ≤ maxLen := by
  rcases h.2 with ⟨rfl, h0⟩ | ⟨g, c, cur, rfl, _, _, hc, hm, _⟩
  · omega
  · omega
set_option maxRecDepth 100000 in
set_option maxHeartbeats 4000000 in
theorem ringTells_any (l : List Rg.Ep) (a : Option Addr) (cap : Nat) (A B : Tg.W) (no : Int) (w : World) (hl : l.length ≤ maxLen) (hcap : l.length ≤ cap) (hn : a = none → l = [] ∧ cap = 0) (hr : Row3 w a l) :
    Calls Try.prog 3 #[.slice a l.length cap, .agg #[.int .u64 (wd A), .int .u64 (wd B)], .int .i64 no] w fun e w' => e = .returned (.bool true) ∧ Below w.heap.size w w' := by
  have HH : Hid (l.length ≤ maxLen ∧ l.length ≤ cap ∧ (a = none → l = [] ∧ cap = 0)) := ⟨hl, hcap, hn⟩
  have HB0 : Hid (Below w.heap.size w (w.alloc (.cells #[.int .u64 (wd A), .int .u64 (wd B)] 25))) := below_box w _
  have R0 : Hid (Row3 (w.alloc (.cells #[.int .u64 (wd A), .int .u64 (wd B)] 25)) a l) := hr.below HB0.out
  have hlN : Hid (Rg.chk l = Rg.chk l) := rfl
  clear hl hcap hn hr
  generalize hC : Rg.chk l = C at hlN
  have HC : Hid (Rg.chk l = C) := hC
  clear hC hlN
  go_enter Try.func3, Try.ntmps3
  go_wp2_with fail
  refine (add_any l a cap A B _ HH.out.1 (fun h => (HH.out.2.2 h).1) R0.out).mono ?_; rintro e w1 ⟨v1, rfl, ho1, hb1⟩
  have B1 : Hid (Below w.heap.size w w1) := below_on HB0.out (Nat.le_refl _) hb1
  have R1 : Hid (Row3 w1 a l) := R0.out.below hb1
  obtain ⟨hcc, -⟩ := bcell hb1
  have k0 := hcc w.heap.size 0 (by simp)
  have k1 := hcc w.heap.size 1 (by simp)
  simp at k0 k1
  have hz1 : w.heap.size < w1.heap.size := by have := hb1.size; simp at this; omega
  obtain ⟨a1, c1, hv1, hr1, -, -, -⟩ := OwnE.row' ho1
  have L1 : Hid ((Rg.add l A B).1.length ≤ maxLen) := ho1.len
  have P1 : Hid (Row3 w1 a1 (Rg.add l A B).1) := hr1
  subst hv1
  clear hb1 ho1 hcc hr1 HB0 R0
  go_wp2_with fail
  refine (drop_any l a cap no _ HH.out.1 HH.out.2.1 R1.out).mono ?_; rintro e w2 ⟨v2, rfl, ho2, hb2⟩
  have B2 : Hid (Below w.heap.size w w2) := below_on B1.out (Nat.le_refl _) hb2
  have R2 : Hid (Row3 w2 a l) := R1.out.below hb2
  have P2 : Hid (Row3 w2 a1 (Rg.add l A B).1) := P1.out.below hb2
  have j0 := (hb2.cell (p := ⟨w.heap.size, 0, none⟩) hz1).trans k0
  have j1 := (hb2.cell (p := ⟨w.heap.size, 1, none⟩) hz1).trans k1
  have hz2 : w.heap.size < w2.heap.size := Nat.lt_of_lt_of_le hz1 hb2.size
  obtain ⟨a2, c2, hv2, hr2, -, -, -⟩ := OwnE.row' ho2
  have L2 : Hid ((Rg.drp l no).1.length ≤ maxLen) := ho2.len
  have Q2 : Hid (Row3 w2 a2 (Rg.drp l no).1) := hr2
  subst hv2
  clear hb2 ho2 hr2 B1 R1 P1 k0 k1 hz1
  go_wp2_with fail
  refine (ringAdd_any l a cap A B _ HH.out.1 HH.out.2.2 R2.out).mono ?_; rintro e w3 ⟨v3, rfl, ho3, hb3⟩
  have B3 : Hid (Below w.heap.size w w3) := below_on B2.out (Nat.le_refl _) hb3
  have R3 : Hid (Row3 w3 a l) := R2.out.below hb3
  have P3 : Hid (Row3 w3 a1 (Rg.add l A B).1) := P2.out.below hb3
  have Q3 : Hid (Row3 w3 a2 (Rg.drp l no).1) := Q2.out.below hb3
  obtain ⟨a3, c3, hv3, hr3, -, -, -⟩ := OwnE.row' ho3
  have P3' : Hid (Row3 w3 a3 (Rg.add l A B).1) := hr3
  subst hv3
  clear hb3 ho3 hr3 B2 R2 P2 Q2 j0 j1 hz2
  go_wp2_with fail
  refine (ringDrop_any l a cap no _ HH.out.1 R3.out).mono ?_; rintro e w4 ⟨v4, rfl, ho4, hb4⟩
  have B4 : Hid (Below w.heap.size w w4) := below_on B3.out (Nat.le_refl _) hb4
  have R4 : Hid (Row3 w4 a l) := R3.out.below hb4
  have P4 : Hid (Row3 w4 a1 (Rg.add l A B).1) := P3.out.below hb4
  have P4' : Hid (Row3 w4 a3 (Rg.add l A B).1) := P3'.out.below hb4
  have Q4 : Hid (Row3 w4 a2 (Rg.drp l no).1) := Q3.out.below hb4
  obtain ⟨a4, c4, hv4, hr4, -, -, -⟩ := OwnE.row' ho4
  have Q4' : Hid (Row3 w4 a4 (Rg.drp l no).1) := hr4
  subst hv4
  clear hb4 ho4 hr4 B3 R3 P3 P3' Q3
  go_wp2_with fail
  refine (ringBegun_any _).mono ?_; rintro e w5 ⟨rfl, hb5⟩
  have B5 : Hid (Below w.heap.size w w5) := below_on B4.out (Nat.le_refl _) hb5
  have R5 : Hid (Row3 w5 a l) := R4.out.below hb5
  have P5 : Hid (Row3 w5 a1 (Rg.add l A B).1) := P4.out.below hb5
  have P5' : Hid (Row3 w5 a3 (Rg.add l A B).1) := P4'.out.below hb5
  have Q5 : Hid (Row3 w5 a2 (Rg.drp l no).1) := Q4.out.below hb5
  have Q5' : Hid (Row3 w5 a4 (Rg.drp l no).1) := Q4'.out.below hb5
  clear hb5 B4 R4 P4 P4' Q4 Q4'
  go_wp2_with fail
  refine (check_any l a cap _ HH.out.1 R5.out).mono ?_; rintro e w6 ⟨rfl, hb6⟩
  have B6 : Hid (Below w.heap.size w w6) := below_on B5.out (Nat.le_refl _) hb6
  have R6 : Hid (Row3 w6 a l) := R5.out.below hb6
  have P6 : Hid (Row3 w6 a1 (Rg.add l A B).1) := P5.out.below hb6
  have P6' : Hid (Row3 w6 a3 (Rg.add l A B).1) := P5'.out.below hb6
  have Q6 : Hid (Row3 w6 a2 (Rg.drp l no).1) := Q5.out.below hb6
  have Q6' : Hid (Row3 w6 a4 (Rg.drp l no).1) := Q5'.out.below hb6
  clear hb6 B5 R5 P5 P5' Q5 Q5'
  go_wp2_with fail
  refine (ringCheck_any l a cap _ HH.out.1 R6.out).mono ?_; rintro e w7 ⟨rfl, rfl⟩
  go_wp2_with fail
  refine (sameRing_any _ _ a1 a3 c1 c3 _ L1.out L1.out P6.out P6'.out).mono ?_; rintro e w8 ⟨rfl, hb8⟩
  rw [decide_eq_true rfl]
  have B8 : Hid (Below w.heap.size w w8) := below_on B6.out (Nat.le_refl _) (drewN_below hb8)
  have Q8 : Hid (Row3 w8 a2 (Rg.drp l no).1) := Q6.out.below (drewN_below hb8)
  have Q8' : Hid (Row3 w8 a4 (Rg.drp l no).1) := Q6'.out.below (drewN_below hb8)
  clear hb8 B6 R6 P6 P6' Q6 Q6'
  go_wp2_with fail
  refine (sameRing_any _ _ a2 a4 c2 c4 _ L2.out L2.out Q8.out Q8'.out).mono ?_; rintro e w9 ⟨rfl, hb9⟩
  rw [decide_eq_true rfl]
  have B9 : Hid (Below w.heap.size w w9) := below_on B8.out (Nat.le_refl _) (drewN_below hb9)
  clear hb9 B8 Q8 Q8'
  go_wp2
  go_ret
  exact ⟨rfl, B9.out⟩
end Go.Proofs.Ytcjpbmfdgheolaa
