/- What must be in any case of spelling; a text's great letters as small ones. -/
import Derived.Test.YthfdaaccopgbeaaSRd2
namespace Go.Proofs.Ythfdaaccopgbeaa
open Go.RowKit

theorem wr1 : Sp.wr ⟨#[0, 255, 65]⟩ = ⟨#[48, 51, 90, 77, 50]⟩ ∧ Sp.wc ⟨#[0, 255, 65]⟩ = 0 := by decide +kernel
theorem rd1 : Sp.rd ⟨#[48, 45, 51, 122, 109, 45, 50]⟩ = ⟨#[0, 255, 65]⟩ ∧ Sp.rc ⟨#[48, 45, 51, 122, 109, 45, 50]⟩ = 0 := by decide +kernel
theorem fr1 : Sp.frd ⟨#[111, 51, 122, 105, 45, 103]⟩ = ⟨#[48, 51, 90, 49, 71]⟩ ∧ Sp.rc ⟨#[111, 51, 122, 105, 45, 103]⟩ = 0 := by decide +kernel
theorem rd2 : Sp.rd ⟨#[48, 85]⟩ = ⟨#[]⟩ ∧ Sp.rc ⟨#[48, 85]⟩ = 1 := by decide +kernel
theorem rd3 : Sp.rd ⟨#[48, 48, 48]⟩ = ⟨#[]⟩ ∧ Sp.rc ⟨#[48, 48, 48]⟩ = 1 := by decide +kernel
theorem b1 (w : World) : Calls Try.prog 7 #[.string ⟨#[0, 255, 65]⟩] w fun e w' => e = .returned (.tuple #[.string ⟨#[48, 51, 90, 77, 50]⟩, .int .i64 0]) ∧ Below w.heap.size w w' := by
  have e := pWrite ⟨#[0, 255, 65]⟩ w (by decide)
  rw [wr1.1, wr1.2] at e
  exact e
theorem b2 (w : World) : Calls Try.prog 8 #[.string ⟨#[48, 45, 51, 122, 109, 45, 50]⟩] w fun e w' => e = .returned (.tuple #[.string ⟨#[0, 255, 65]⟩, .int .i64 0]) ∧ Below w.heap.size w w' := by
  have e := pRead ⟨#[48, 45, 51, 122, 109, 45, 50]⟩ w (by decide)
  rw [rd1.1, rd1.2] at e
  exact e
theorem b3 (w : World) : Calls Try.prog 9 #[.string ⟨#[111, 51, 122, 105, 45, 103]⟩] w fun e w' => e = .returned (.tuple #[.string ⟨#[48, 51, 90, 49, 71]⟩, .int .i64 0]) ∧ Below w.heap.size w w' := by
  have e := pFair ⟨#[111, 51, 122, 105, 45, 103]⟩ w (by decide)
  rw [fr1.1, fr1.2] at e
  exact e
theorem b4 (w : World) : Calls Try.prog 8 #[.string ⟨#[48, 85]⟩] w fun e w' => e = .returned (.tuple #[.string ⟨#[]⟩, .int .i64 1]) ∧ Below w.heap.size w w' := by
  have e := pRead ⟨#[48, 85]⟩ w (by decide)
  rw [rd2.1, rd2.2] at e
  exact e
theorem b5 (w : World) : Calls Try.prog 8 #[.string ⟨#[48, 48, 48]⟩] w fun e w' => e = .returned (.tuple #[.string ⟨#[]⟩, .int .i64 1]) ∧ Below w.heap.size w w' := by
  have e := pRead ⟨#[48, 48, 48]⟩ w (by decide)
  rw [rd3.1, rd3.2] at e
  exact e
set_option maxRecDepth 100000 in
set_option maxHeartbeats 4000000 in
theorem begun_any (w : World) : Calls Try.prog 12 #[] w fun e w' => e = .returned (.bool true) ∧ Below w.heap.size w w' := by
  go_enter Try.func12, Try.ntmps12
  go_upto_region 2 with (go_at_call 7; refine (b1 _).mono ?_; rintro e w1 ⟨rfl, h1⟩)
  go_upto_region 3 with (go_at_call 8; refine (b2 _).mono ?_; rintro e w2 ⟨rfl, h2⟩)
  go_upto_region 4 with (go_at_call 9; refine (b3 _).mono ?_; rintro e w3 ⟨rfl, h3⟩)
  go_upto_region 5 with (go_at_call 8; refine (b4 _).mono ?_; rintro e w4 ⟨rfl, h4⟩)
  go_upto_region 6 with (go_at_call 8; refine (b5 _).mono ?_; rintro e w5 ⟨rfl, h5⟩)
  go_wp2
  go_ret
  have s1 := h1.size
  have s2 := h2.size
  have s3 := h3.size
  have s4 := h4.size
  exact ⟨rfl, h1.trans ((h2.mono s1).trans ((h3.mono (by omega)).trans ((h4.mono (by omega)).trans (h5.mono (by omega)))))⟩
/-- a text by its bytes -/
def bx (l : List UInt8) : ByteArray := ⟨l.toArray⟩
theorem bx_size (l : List UInt8) : (bx l).size = l.length := by unfold bx; simp [ByteArray.size]
theorem bx_list (l : List UInt8) : (bx l).data.toList = l := by unfold bx; simp
theorem bx_of (s : ByteArray) : bx s.data.toList = s := by unfold bx; cases s; simp
theorem bx_add (x y : List UInt8) (h : x.length + y.length ≤ 9223372036854775807) (w : World) : (Op.stringOp .add (bx x) (bx y)).run Try.prog w = .ok (.string (bx (x ++ y))) w := by
  have e := run_string_add_sum (P := Try.prog) w (bx x) (bx y) (by rw [bx_size, bx_size]; exact h)
  refine e.trans ?_
  congr 2
set_option maxRecDepth 100000 in
theorem one_any (n : Nat) (hn : n < 256) (w : World) : Calls Try.prog 23 #[.int .i64 (n : Int)] w fun e w' => e = .returned (.string (bx [UInt8.ofNat n])) ∧ Below w.heap.size w w' := by
  have q : (n : Int) % 256 = (n : Int) := by omega
  have hcv := text_ex [n] 1 rfl (some ⟨w.heap.size, 0, none⟩) 1 (w.alloc (.cells #[.int .u8 (n : Int)] 5)) (.inr ⟨_, 0, rfl, by simp, fun i hi => by
    obtain rfl : i = 0 := by simp at hi; exact hi
    simp⟩) (fun h => by cases h)
  have hb : (⟨([n].map UInt8.ofNat).toArray⟩ : ByteArray) = bx [UInt8.ofNat n] := rfl
  rw [hb] at hcv
  clear hb
  go_enter Try.func23, Try.ntmps23
  go_wp2
  go_ret
  exact ⟨rfl, (Below.refl _ w).alloc (Nat.le_refl _) _⟩
theorem small_val (c : UInt8) : (65 ≤ c.toNat ∧ c.toNat ≤ 90 → UInt8.ofNat (c.toNat + 32) = Sp.small c) ∧ (¬ (65 ≤ c.toNat ∧ c.toNat ≤ 90) → UInt8.ofNat c.toNat = Sp.small c) := by
  unfold Sp.small
  constructor
  · intro h; rw [if_pos h]
  · intro h; rw [if_neg h]; simp
set_option maxRecDepth 100000 in
set_option maxHeartbeats 4000000 in
theorem smaller_any (s : ByteArray) (w : World) (hs : s.size ≤ 140737488351240) : Calls Try.prog 13 #[.string s] w fun e w' => e = .returned (.string (bx (s.data.toList.map Sp.small))) ∧ Below w.heap.size w w' := by
  have hsz : (s.size : Int) ≤ 140737488351240 := by omega
  go_enter Try.func13, Try.ntmps13
  go_wp2
  go_loopw [3, 4, 5] (fun a i _ wr => ∃ k : Nat, k ≤ s.size ∧ i = .int .i64 (k : Int) ∧ a = .string (bx ((s.data.toList.take k).map Sp.small)) ∧ Hid (Below w.heap.size w wr)) (fun _ i _ _ => s.size - (intOf i).toNat)
  case atStart => exact ⟨0, Nat.zero_le _, rfl, rfl, Below.refl _ w⟩
  case round =>
    obtain ⟨k, hk, rfl, rfl, HX⟩ := hrel
    by_cases hlt : k < s.size
    · have HT : Hid ((s.data.toList.take (k + 1)).map Sp.small = (s.data.toList.take k).map Sp.small ++ [Sp.small (s[k]'hlt)]) := by show _ = _; rw [take_snoc s k hlt, List.map_append]; rfl
      have hadd := bx_add ((s.data.toList.take k).map Sp.small) [Sp.small (s[k]'hlt)] (by simp; omega)
      rw [← HT.out] at hadd
      obtain ⟨v1, v2⟩ := small_val (s[k]'hlt)
      have hc := (s[k]'hlt).toNat_lt
      have hkz : (k : Int) < (s.size : Int) := by omega
      have hw0 : w.heap.size ≤ wr.heap.size := HX.out.size
      generalize hgen : Sp.small (s[k]'hlt) = d at *
      have Hgen : Hid (Sp.small (s[k]'hlt) = d) := hgen
      clear HT hgen Hgen
      obtain ⟨x2, hx2⟩ : ∃ x2, bx ((s.data.toList.take (k + 1)).map Sp.small) = x2 := ⟨_, rfl⟩
      rw [hx2] at hadd
      have HX2 : Hid (Value.string x2 = .string (bx ((s.data.toList.take (k + 1)).map Sp.small))) := by show _ = _; rw [hx2]
      clear hx2
      generalize bx ((s.data.toList.take k).map Sp.small) = x1 at *
      by_cases h65 : 65 ≤ (s[k]'hlt).toNat ∧ (s[k]'hlt).toNat ≤ 90
      · have hv := v1 h65
        have a1 : (65 : Int) ≤ (((s[k]'hlt).toNat : Nat) : Int) := by omega
        have a2 : (((s[k]'hlt).toNat : Nat) : Int) ≤ 90 := by omega
        have H1 : Hid (∀ wx : World, Calls Try.prog 23 #[.int .i64 ((((s[k]'hlt).toNat : Nat) : Int) + 32)] wx fun e w' => e = .returned (.string (bx [d])) ∧ Below wx.heap.size wx w') := by
          intro wx
          rw [← hv]
          exact one_any ((s[k]'hlt).toNat + 32) (by omega) wx
        clear v1 v2 hv h65
        go_wp2_with (go_at_call 23; refine (H1.out _).mono ?_; rintro e w1 ⟨rfl, hb⟩)
        have HB1 : Hid (Below w.heap.size w w1) := HX.out.trans (hb.mono hw0)
        clear hb
        go_wp2
        go_roundw
        case rel => exact ⟨k + 1, by omega, by go_num, HX2.out, HB1⟩
        case measure => simp [intOf]; omega
      · have hv := v2 h65
        have H1 : Hid (∀ wx : World, Calls Try.prog 23 #[.int .i64 (((s[k]'hlt).toNat : Nat) : Int)] wx fun e w' => e = .returned (.string (bx [d])) ∧ Below wx.heap.size wx w') := by
          intro wx
          rw [← hv]
          exact one_any (s[k]'hlt).toNat (by omega) wx
        clear v1 v2 hv
        by_cases a1 : (65 : Int) ≤ (((s[k]'hlt).toNat : Nat) : Int)
        · have a2 : ¬ (((s[k]'hlt).toNat : Nat) : Int) ≤ 90 := by omega
          clear h65
          go_wp2_with (go_at_call 23; refine (H1.out _).mono ?_; rintro e w1 ⟨rfl, hb⟩)
          have HB1 : Hid (Below w.heap.size w w1) := HX.out.trans (hb.mono hw0)
          clear hb
          go_wp2
          go_roundw
          case rel => exact ⟨k + 1, by omega, by go_num, HX2.out, HB1⟩
          case measure => simp [intOf]; omega
        · clear h65
          go_wp2_with (go_at_call 23; refine (H1.out _).mono ?_; rintro e w1 ⟨rfl, hb⟩)
          have HB1 : Hid (Below w.heap.size w w1) := HX.out.trans (hb.mono hw0)
          clear hb
          go_wp2
          go_roundw
          case rel => exact ⟨k + 1, by omega, by go_num, HX2.out, HB1⟩
          case measure => simp [intOf]; omega
    · have hkz : ¬ (k : Int) < (s.size : Int) := by omega
      have HE : Hid (s.data.toList.take k = s.data.toList) := by show _ = _; apply List.take_of_length_le; rw [list_len]; omega
      rw [HE.out]
      go_wp2
      go_ret
      exact ⟨rfl, HX.out⟩
end Go.Proofs.Ythfdaaccopgbeaa
