/- The walks of the document's rings: the bytes of a word, a text sealed by an epoch. -/
import Derived.Test.YtcjpbmfdgheolaaRSd
namespace Go.Proofs.Ytcjpbmfdgheolaa
open Go.RowKit

set_option maxRecDepth 100000 in
set_option maxHeartbeats 2000000 in
theorem leastFirst_any (x : Tg.W) (w : World) :
    Calls Try.prog 35 #[.int .u64 (wd x)] w fun e w' => e = .returned (.string (bx (Rg.leN x 8))) ∧ Below w.heap.size w w' := by
  have e0 : wd x = ((x.toNat / 256 ^ 0 : Nat) : Int) := by unfold wd; simp
  rw [e0]
  clear e0
  go_enter Try.func35, Try.ntmps35
  go_wp2
  go_loopw [0, 3, 4] (fun nv sv iv wr => ∃ k : Nat, k ≤ 8 ∧ nv = .int .u64 ((x.toNat / 256 ^ k : Nat) : Int) ∧ sv = .string (bx (Rg.leN x k)) ∧ iv = .int .i64 k ∧ Below w.heap.size w wr) (fun _ _ iv _ => 8 - (intOf iv).toNat)
  case atStart => exact ⟨0, by omega, rfl, rfl, rfl, Below.refl _ _⟩
  case round =>
    obtain ⟨k, hk, rfl, rfl, rfl, hb⟩ := hrel
    have HB : Hid (Below w.heap.size w wr) := hb
    clear hb
    by_cases hlt : k < 8
    · have hlt' : (k : Int) < 8 := by omega
      have hN : x.toNat / 256 ^ k < 18446744073709551616 := Nat.lt_of_le_of_lt (Nat.div_le_self _ _) x.isLt
      have HD : Hid (x.toNat / 256 ^ (k + 1) = x.toNat / 256 ^ k / 256) := by show _ = _; rw [Nat.pow_succ, Nat.div_div_eq_div_mul]
      have HL : Hid (Rg.leN x (k + 1) = Rg.leN x k ++ [UInt8.ofNat (x.toNat / 256 ^ k % 256)]) := rfl
      have hlen := Rg.leN_length x k
      have hadd := fun y W => bx_add (Rg.leN x k) [y] (by rw [hlen]; simp; omega) W
      generalize x.toNat / 256 ^ k = N at *
      generalize Rg.leN x k = F at *
      have h1 : ∀ W, Calls Try.prog 34 #[.int .i64 ((N : Int) % 256)] W fun e w' => e = .returned (.string (bx [UInt8.ofNat (N % 256)])) ∧ Below W.heap.size W w' := fun W => by
        have := one_any (N % 256) (Nat.mod_lt _ (by decide)) W
        rw [show (((N % 256 : Nat)) : Int) = (N : Int) % 256 by omega] at this
        exact this
      have hr0 : (0 : Int) ≤ (N : Int) := by omega
      have hr1 : (N : Int) < 18446744073709551616 := by omega
      go_wp2_with fail
      refine (h1 _).mono ?_; rintro e w3 ⟨rfl, hb3⟩
      have HB3 : Hid (Below w.heap.size w w3) := below_on HB.out (Nat.le_refl _) hb3
      clear hb3 h1
      have hq : IntKind.u64.wrap ((N : Int).tdiv 256) = ((N / 256 : Nat) : Int) := by rw [IntKind.wrap_u64, Int.tdiv_eq_ediv_of_nonneg hr0]; omega
      go_wp2
      go_roundw
      case rel => exact ⟨k + 1, by omega, by rw [HD.out, Int.natCast_ediv]; rfl, by rw [HL.out], by go_num, HB3.out⟩
      case measure => simp [intOf]; omega
    · obtain rfl : k = 8 := by omega
      go_wp2
      go_ret
      exact ⟨rfl, HB.out⟩
set_option maxRecDepth 100000 in
set_option maxHeartbeats 2000000 in
theorem sealedBy_any (no : Nat) (A B : Tg.W) (s : List UInt8) (w : World) (hno : no < 256) (hs : s.length ≤ 111) :
    Calls Try.prog 27 #[.agg #[.int .i64 (no : Int), .int .u64 (wd A), .int .u64 (wd B)], .string (bx s)] w fun e w' => e = .returned (.string (bx (Rg.sl no A B s))) ∧ Below w.heap.size w w' := by
  have HB0 : Hid (Below w.heap.size w (w.alloc (.cells #[.int .i64 (no : Int), .int .u64 (wd A), .int .u64 (wd B)] 40))) := below_box w _
  have h1 := fun W => one_any no hno W
  have hadd := bx_add [UInt8.ofNat no] s (by simp; omega)
  have HU : Hid (Rg.sl no A B s = [UInt8.ofNat no] ++ s ++ Rg.leN (Tg.of A B ([UInt8.ofNat no] ++ s)) 8) := rfl
  have hul : ([UInt8.ofNat no] ++ s).length ≤ 112 := by simp; omega
  generalize [UInt8.ofNat no] ++ s = U at *
  generalize [UInt8.ofNat no] = V at *
  have hof := fun W => tagOf_any A B (bx U) W (by rw [bx_size]; omega)
  rw [bx_list] at hof
  generalize Tg.of A B U = T at *
  have HOF : Hid (_) := hof
  have hadd2 := bx_add U (Rg.leN T 8) (by rw [Rg.leN_length]; omega)
  have H1 : Hid (_) := h1
  clear hof h1
  go_enter Try.func27, Try.ntmps27
  go_wp2_with fail
  refine (H1.out _).mono ?_; rintro e w1 ⟨rfl, hb1⟩
  obtain ⟨hcc, -⟩ := bcell hb1
  have k1 := hcc w.heap.size 1 (by simp)
  have k2 := hcc w.heap.size 2 (by simp)
  simp at k1 k2
  have hz1 : w.heap.size < w1.heap.size := by have := hb1.size; simp at this; omega
  have B1 : Hid (Below w.heap.size w w1) := below_on HB0.out (Nat.le_refl _) hb1
  clear hb1 HB0 hcc H1
  go_wp2_with fail
  refine (HOF.out _).mono ?_; rintro e w2 ⟨rfl, hb2⟩
  have B2 : Hid (Below w.heap.size w w2) := below_on B1.out (Nat.le_refl _) hb2
  clear hb2 B1 hadd HOF
  go_wp2_with fail
  refine (leastFirst_any T _).mono ?_; rintro e w3 ⟨rfl, hb3⟩
  have B3 : Hid (Below w.heap.size w w3) := below_on B2.out (Nat.le_refl _) hb3
  clear hb3 B2
  go_wp2
  go_ret
  exact ⟨ret_bx HU.out.symm, B3.out⟩
end Go.Proofs.Ytcjpbmfdgheolaa
