/- What must be in any case, of rings. -/
import Derived.Test.YtcjpbmfdgheolaaROf
import Derived.Test.YtcjpbmfdgheolaaRDr2
import Derived.Test.YtcjpbmfdgheolaaRSm
namespace Go.Proofs.Ytcjpbmfdgheolaa
open Go.RowKit

namespace Rg
def ks : List Ep := [(3, 1#64, 2#64), (7, 3#64, 4#64)]
def k1 : List Ep := [(3, 1#64, 2#64)]
def k2 : List Ep := [(3, 1#64, 2#64), (4, 9#64, 0#64)]
def wren : List UInt8 := [119, 114, 101, 110]
def wx : List UInt8 := sl 7 3#64 4#64 wren
theorem chk_ks : chk ks = 0 := by decide +kernel
theorem chk_k1 : chk k1 = 0 := by decide +kernel
theorem sea_ks : sea ks wren = (wx, 0) := rfl
theorem wx_len : wx.length = 13 := by unfold wx; rw [sl_length]; rfl
theorem opn_ks : opn ks wx = (wren, 7, 0) := opn_of ks 7 3#64 4#64 wren chk_ks (by decide) (by decide)
theorem opn_k1 : opn k1 wx = ([], 0, 5) := opn_no k1 7 3#64 4#64 wren chk_k1 (by decide) (by decide) (by decide)
theorem drp_ks : drp ks 7 = (k1, 0) := by decide +kernel
theorem add_k1 : add k1 9#64 0#64 = (k2, 0) := by decide +kernel
theorem chk_22 : chk [(2, 0#64, 0#64), (2, 0#64, 0#64)] = 4 := by decide +kernel
end Rg
theorem keys_any (w : World) : Calls Try.prog 24 #[] w fun e w' => ∃ b, e = .returned (.slice (some ⟨b, 0, none⟩) 2 2) ∧ Row3 w' (some ⟨b, 0, none⟩) Rg.ks ∧ Below w.heap.size w w' := by
  have HR : Hid (Row3 (w.alloc (.cells #[.int .i64 3, .int .u64 1, .int .u64 2, .int .i64 7, .int .u64 3, .int .u64 4] 40)) (some ⟨w.heap.size, 0, none⟩) Rg.ks) := Row3.lit w Rg.ks _ rfl (by decide)
  go_enter Try.func24, Try.ntmps24
  go_wp2
  go_ret
  exact ⟨_, rfl, HR.out, below_box w _⟩
theorem OwnE.row' {w : World} {B : Nat} {v : Value} {xs : List Rg.Ep} (h : OwnE w B v xs) : ∃ a cap, v = .slice a xs.length cap ∧ Row3 w a xs ∧ xs.length ≤ cap ∧ (a = none → xs = [] ∧ cap = 0) ∧ (∀ p, a = some p → B ≤ p.block ∧ p.block < w.heap.size) := by
  obtain ⟨a, cap, e, hr⟩ := h.row
  have hlt := World.ownsRow.lt h
  refine ⟨a, cap, e, hr, ?_, fun hn => ?_, fun p hp => ?_⟩
  · rcases h.2 with ⟨rfl, h0⟩ | ⟨g, c, cur, rfl, _, _, hc, _⟩
    · injection e with e1 e2 e3; omega
    · injection e with e1 e2 e3; omega
  · rcases h.2 with ⟨rfl, h0⟩ | ⟨g, c, cur, rfl, _⟩
    · injection e with e1 e2 e3; exact ⟨List.eq_nil_of_length_eq_zero h0, e3.symm⟩
    · subst hn; injection e with e1 e2 e3; cases e1
  · subst hp
    exact hlt p.block (by rw [e]; rfl)
set_option maxRecDepth 100000 in
set_option maxHeartbeats 4000000 in
theorem ringBegun_any (w : World) : Calls Try.prog 12 #[] w fun e w' => e = .returned (.bool true) ∧ Below w.heap.size w w' := by
  have hsea : Rg.seaV Rg.ks Rg.wren = .tuple #[.string (bx Rg.wx), .int .i64 0] := by unfold Rg.seaV; rw [Rg.sea_ks]
  have hop1 : Rg.opnV Rg.ks Rg.wx = .tuple #[.string ⟨#[119, 114, 101, 110]⟩, .int .i64 7, .int .i64 0] := by unfold Rg.opnV; rw [Rg.opn_ks]; rfl
  have hop2 : Rg.opnV Rg.k1 Rg.wx = .tuple #[.string (bx []), .int .i64 0, .int .i64 5] := by unfold Rg.opnV; rw [Rg.opn_k1]
  have hlen : (bx Rg.wx).size = 13 := by rw [bx_size, Rg.wx_len]
  have hwl : Rg.wx.length ≤ 140737488351232 := by rw [Rg.wx_len]; decide
  have HWL : Hid (Rg.wx.length ≤ 140737488351232) := hwl
  generalize Rg.wx = X at *
  have heq : ∀ W, (Op.equalIn 10000 40 (.agg #[.int .i64 4, .int .u64 9, .int .u64 0]) (.agg #[.int .i64 4, .int .u64 9, .int .u64 0])).run Try.prog W = .ok true W := fun W => eqEp 4 4 9#64 9#64 0#64 0#64 W
  have HS : Hid (_) := hsea
  have HO1 : Hid (_) := hop1
  have HO2 : Hid (_) := hop2
  clear hsea hop1 hop2 hwl
  go_enter Try.func12, Try.ntmps12
  go_wp2_with fail
  refine (keys_any _).mono ?_; rintro e w1 ⟨b1, rfl, hr1, hb1⟩
  have B1 : Hid (Below w.heap.size w w1) := hb1
  have R1 : Hid (Row3 w1 (some ⟨b1, 0, none⟩) Rg.ks) := hr1
  clear hb1 hr1
  go_wp2_with fail
  refine (seal_any Rg.ks _ 2 Rg.wren _ (by decide) (by decide) R1.out).mono ?_; rintro e w2 ⟨rfl, hb2⟩
  have B2 : Hid (Below w.heap.size w w2) := below_on B1.out (Nat.le_refl _) hb2
  clear hb2 B1 R1
  rw [HS.out]
  go_wp2_with fail
  refine (keys_any _).mono ?_; rintro e w3 ⟨b3, rfl, hr3, hb3⟩
  have B3 : Hid (Below w.heap.size w w3) := below_on B2.out (Nat.le_refl _) hb3
  have R3 : Hid (Row3 w3 (some ⟨b3, 0, none⟩) Rg.ks) := hr3
  clear hb3 hr3 B2
  go_wp2_with fail
  refine (open_any Rg.ks _ 2 X _ (by decide) HWL.out R3.out).mono ?_; rintro e w4 ⟨rfl, hb4⟩
  have B4 : Hid (Below w.heap.size w w4) := below_on B3.out (Nat.le_refl _) hb4
  clear hb4 B3 R3
  rw [HO1.out]
  go_wp2_with fail
  refine (keys_any _).mono ?_; rintro e w5 ⟨b5, rfl, hr5, hb5⟩
  have B5 : Hid (Below w.heap.size w w5) := below_on B4.out (Nat.le_refl _) hb5
  have R5 : Hid (Row3 w5 (some ⟨b5, 0, none⟩) Rg.ks) := hr5
  clear hb5 hr5 B4
  go_wp2_with fail
  refine (drop_any Rg.ks _ 2 7 _ (by decide) (by decide) R5.out).mono ?_; rintro e w6 ⟨v6, he6, ho6, hb6⟩
  rw [Rg.drp_ks] at he6 ho6
  obtain ⟨a6, c6, hv6, hr6, hc6, hn6, -⟩ := OwnE.row' ho6
  replace hv6 : v6 = .slice a6 1 c6 := hv6
  subst hv6
  subst he6
  have B6 : Hid (Below w.heap.size w w6) := below_on B5.out (Nat.le_refl _) hb6
  have R6 : Hid (Row3 w6 a6 Rg.k1) := hr6
  have N6 : Hid (a6 = none → Rg.k1 = [] ∧ c6 = 0) := hn6
  clear hb6 ho6 hr6 hc6 hn6 B5 R5
  go_wp2_with fail
  refine (open_any Rg.k1 a6 c6 X _ (by decide) HWL.out R6.out).mono ?_; rintro e w7 ⟨rfl, hb7⟩
  have B7 : Hid (Below w.heap.size w w7) := below_on B6.out (Nat.le_refl _) hb7
  have R7 : Hid (Row3 w7 a6 Rg.k1) := R6.out.below hb7
  clear hb7 B6 R6
  rw [HO2.out]
  go_wp2_with fail
  refine (add_any Rg.k1 a6 c6 9#64 0#64 _ (by decide) (fun h => (N6.out h).1) R7.out).mono ?_; rintro e w8 ⟨v8, he8, ho8, hb8⟩
  rw [Rg.add_k1] at he8 ho8
  obtain ⟨a8, c8, hv8, hr8, -, -, -⟩ := OwnE.row' ho8
  replace hv8 : v8 = .slice a8 2 c8 := hv8
  subst hv8
  subst he8
  have B8 : Hid (Below w.heap.size w w8) := below_on B7.out (Nat.le_refl _) hb8
  obtain ⟨b, off, n, A, B, rfl, hbs, hx, d1, d2, d3⟩ := hr8.at (k := 1) (by decide)
  obtain ⟨rfl, rfl, rfl⟩ : n = 4 ∧ A = 9#64 ∧ B = 0#64 := by
    have := Option.some.inj hx
    simp at this
    exact ⟨this.1.symm, this.2.1.symm, this.2.2.symm⟩
  rw [show wd 9#64 = 9 from rfl] at d2
  rw [show wd 0#64 = 0 from rfl] at d3
  clear hb8 ho8 hr8 hx B7 R7
  have hck := fun W => check_any [(2, 0#64, 0#64), (2, 0#64, 0#64)] (some ⟨W.heap.size, 0, none⟩) 2 (W.alloc (.cells #[.int .i64 2, .int .u64 0, .int .u64 0, .int .i64 2, .int .u64 0, .int .u64 0] 40)) (by decide) (Row3.lit W _ _ rfl (by decide))
  rw [Rg.chk_22] at hck
  have HCK : Hid (_) := hck
  clear hck
  go_wp2_with (go_at_call 13; refine (HCK.out w8).mono ?_; rintro e w9 ⟨rfl, hb9⟩; have B9 : Hid (Below w.heap.size w w9) := below_on (B8.out.alloc B8.out.size _) (Nat.le_refl _) hb9; clear hb9)
  go_ret
  exact ⟨rfl, B9.out⟩
end Go.Proofs.Ytcjpbmfdgheolaa
