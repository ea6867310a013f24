/- The walks of package tag: a text's words. -/
import Derived.Test.YtcjpbmfdgheolaaGRow
namespace Go.Proofs.Ytcjpbmfdgheolaa
open Go.RowKit

theorem byte_at (s : ByteArray) (k : Nat) (h : k < s.size) : (s.data.toList.getD k 0) = s[k] := by
  rw [List.getD_eq_getElem?_getD, Array.getElem?_toList, Array.getElem?_eq_getElem (by simpa using h)]; rfl
theorem len_list (s : ByteArray) : s.data.toList.length = s.size := by rw [Array.length_toList]; rfl
theorem shift_num (c : Nat) (r : Nat) (hc : c < 256) (hr : r < 8) : IntKind.u64.wrap ((c : Int) * 2 ^ (8 * r)) = ((c * 256 ^ r : Nat) : Int) := by
  have e : (256 : Nat) ^ r = 2 ^ (8 * r) := by rw [Nat.pow_mul]
  have h1 : c * 2 ^ (8 * r) < 18446744073709551616 := by
    have a : 2 ^ (8 * r) ≤ 2 ^ 56 := Nat.pow_le_pow_right (by decide) (by omega)
    have b : c * 2 ^ (8 * r) ≤ 255 * 2 ^ 56 := Nat.mul_le_mul (by omega) a
    exact Nat.lt_of_le_of_lt b (by decide)
  rw [IntKind.wrap_u64, e, show ((c : Int) * 2 ^ (8 * r)) = ((c * 2 ^ (8 * r) : Nat) : Int) by rw [Int.natCast_mul, Int.natCast_pow]; rfl]
  generalize c * 2 ^ (8 * r) = X at *
  omega
theorem shift_byte (c : Nat) (r : Nat) (hc : c < 256) (hr : r < 8) : Op.shift .shl .u64 (c : Int) .i64 ((8 * r : Nat) : Int) = pure (.int .u64 ((c * 256 ^ r : Nat) : Int)) := by
  rw [shift_shl_any _ _ _ _ (by omega), Int.toNat_natCast]
  rw [show min (8 * r) IntKind.u64.bits = 8 * r from Nat.min_eq_left (by show 8 * r ≤ 64; omega)]
  rw [shift_num c r hc hr]
theorem or_part (P c r : Nat) (hP : P < 256 ^ r) (hc : c < 256) (hr : r < 8) : bits .or .u64 (P : Int) ((c * 256 ^ r : Nat) : Int) = ((P + c * 256 ^ r : Nat) : Int) := by
  have e : (256 : Nat) ^ r = 2 ^ (8 * r) := by rw [Nat.pow_mul]
  have a : 256 ^ r ≤ 256 ^ 7 := Nat.pow_le_pow_right (by decide) (by omega)
  have b : c * 256 ^ r ≤ 255 * 256 ^ 7 := Nat.mul_le_mul (by omega) a
  have d : (255 : Nat) * 256 ^ 7 < 18446744073709551616 := by decide
  have f : (256 : Nat) ^ 7 < 18446744073709551616 := by decide
  rw [bits_or_u64_nat _ _ (by omega) (by omega)]
  have := nat_join (8 * r) (c * 256 ^ r) P (by rw [e]; exact Nat.mul_mod_left _ _) (by rw [← e]; exact hP)
  rw [Nat.or_comm, this, Nat.add_comm]
theorem part_min (l : List UInt8) (k : Nat) : Tg.part l (k / 8) (min 8 (k - 8 * (k / 8))) = Tg.part l (k / 8) (k % 8) := by
  congr 1; omega
/-- the words behind one byte more -/
theorem part_next (l : List UInt8) (k j : Nat) : (if j = k / 8 then Tg.part l (k / 8) (k % 8) + (l.getD k 0).toNat * 256 ^ (k % 8) else Tg.part l j (min 8 (k - 8 * j))) = Tg.part l j (min 8 (k + 1 - 8 * j)) := by
  by_cases c : j = k / 8
  · subst c
    rw [if_pos rfl, show min 8 (k + 1 - 8 * (k / 8)) = k % 8 + 1 by omega]
    show _ = Tg.part l (k / 8) (k % 8) + (l.getD (8 * (k / 8) + k % 8) 0).toNat * 256 ^ (k % 8)
    rw [show 8 * (k / 8) + k % 8 = k by omega]
  · rw [if_neg c]
    congr 1
    omega
theorem part_last (l : List UInt8) (j : Nat) (h : j < l.length / 8 + 1) : (if j = l.length / 8 then Tg.part l (l.length / 8) (l.length % 8) + l.length % 256 * 256 ^ 7 else Tg.part l j (min 8 (l.length - 8 * j))) = Tg.wn l j := by
  unfold Tg.wn
  by_cases c : j = l.length / 8
  · subst c
    rw [if_pos rfl, if_neg (by omega)]
    unfold Tg.lst
    rw [Tg.part_zero l (l.length / 8) (l.length % 8) 7 (by omega) (by omega)]
  · rw [if_neg c, if_pos (by omega)]
    congr 1
    omega
set_option maxRecDepth 100000 in
set_option maxHeartbeats 2000000 in
theorem words_any (s : ByteArray) (w : World) (hs : s.size ≤ 140737488351232) :
    Calls Try.prog 38 #[.string s] w fun e w' => ∃ a cap, e = .returned (.slice a (Tg.words s.data.toList).length cap) ∧ RowN w' w.heap.size a (Tg.words s.data.toList) ∧ Below w.heap.size w w' := by
  rw [Tg.words_length, len_list]
  have hlen := len_list s
  have Hlen : Hid (s.data.toList.length = s.size) := hlen
  clear hlen
  obtain ⟨Q, hQ⟩ : ∃ Q, s.size / 8 = Q := ⟨_, rfl⟩
  have HQ : Hid (s.size / 8 = Q) := hQ
  have hQz : (s.size : Int) / 8 = (Q : Int) := by omega
  have hQ8 : 8 * Q ≤ s.size := by omega
  have hmk := make_words (Q + 1) (by omega)
  have hcast : ((Q + 1 : Nat) : Int) = (Q : Int) + 1 := by omega
  rw [hcast] at hmk
  rw [hQ]
  clear hcast hQ
  go_enter Try.func38, Try.ntmps38
  go_wp2
  go_loopw [4, 12] (fun _ iv wr => ∃ k : Nat, k ≤ s.size ∧ iv = .int .i64 k ∧ BlkU wr w.heap.size (Q + 1) (fun j => Tg.part s.data.toList j (min 8 (k - 8 * j))) ∧ Below w.heap.size w wr) (fun _ iv _ => s.size - (intOf iv).toNat)
  case atStart => exact ⟨0, Nat.zero_le _, rfl, (BlkU.made w (Q + 1)).congr (fun i _ => by simp [Tg.part]), below_box _ _⟩
  case round =>
    obtain ⟨k, hk, rfl, R, Bw⟩ := hrel
    have HR : Hid (BlkU wr w.heap.size (Q + 1) (fun j => Tg.part s.data.toList j (min 8 (k - 8 * j)))) := R
    have HB : Hid (Below w.heap.size w wr) := Bw
    clear Bw
    by_cases hlt : k < s.size
    · have hjQ : k / 8 < Q + 1 := by have := HQ.out; omega
      have c1 := R.cell hjQ
      have f1 := R.frozen (k / 8)
      rw [part_min] at c1
      have hby := byte_at s k hlt
      have hP : Tg.part s.data.toList (k / 8) (k % 8) < 256 ^ (k % 8) := Tg.part_lt _ _ _
      have hc : s[k].toNat < 256 := UInt8.toNat_lt _
      have hsh := shift_byte s[k].toNat (k % 8) hc (by omega)
      have hsn := shift_num s[k].toNat (k % 8) hc (by omega)
      have hor := or_part _ s[k].toNat (k % 8) hP hc (by omega)
      have hq64 : 8 * (k % 8) ≤ 64 := by omega
      have HN : Hid (∀ Y, Y = Tg.part s.data.toList (k / 8) (k % 8) + s[k].toNat * 256 ^ (k % 8) → ∀ j, j < Q + 1 → (if j = k / 8 then Y else Tg.part s.data.toList j (min 8 (k - 8 * j))) = Tg.part s.data.toList j (min 8 (k + 1 - 8 * j))) := by
        intro Y hY j _
        rw [← part_next s.data.toList k j, hby, hY]
      have e1 : (k : Int) / 8 = ((k / 8 : Nat) : Int) := by omega
      have e2 : (k : Int) % 8 * 8 = ((8 * (k % 8) : Nat) : Int) := by omega
      have hjz : ((k / 8 : Nat) : Int) < (Q : Int) + 1 := by omega
      have hkz : (k : Int) < (s.size : Int) := by omega
      clear hP hby R
      generalize Tg.part s.data.toList (k / 8) (k % 8) + s[k].toNat * 256 ^ (k % 8) = Y at hor HN
      generalize Tg.part s.data.toList (k / 8) (k % 8) = P at c1 hor
      generalize s[k].toNat * 256 ^ (k % 8) = X at hsh hor hsn
      generalize k / 8 = j at e1 hjz c1 f1 HN
      generalize 8 * (k % 8) = q at e2 hsh hsn hq64
      clear hjQ
      go_upto_region 5 with fail
      go_big_region
      go_wp2
      go_roundw
      case rel => exact ⟨k + 1, by omega, by go_num, BlkU.drew ((HR.out.set _ _).congr (HN.out _ rfl)), (HB.out.setCell (p := ⟨w.heap.size, _, none⟩) (Nat.le_refl _) _).drew⟩
      case measure => simp [intOf]; omega
    · obtain rfl : k = s.size := by omega
      have hjQ : s.size / 8 < Q + 1 := by have := HQ.out; omega
      have c1 := R.cell hjQ
      have f1 := R.frozen (s.size / 8)
      rw [part_min] at c1
      have hP : Tg.part s.data.toList (s.size / 8) (s.size % 8) < 256 ^ 7 := Nat.lt_of_lt_of_le (Tg.part_lt _ _ _) (Nat.pow_le_pow_right (by decide) (by omega))
      have hor := or_part _ (s.size % 256) 7 hP (Nat.mod_lt _ (by decide)) (by decide)
      have hsh : Op.shift .shl .u64 ((s.size % 256 : Nat) : Int) .u64 56 = pure (.int .u64 ((s.size % 256 * 256 ^ 7 : Nat) : Int)) := by
        have := shift_byte (s.size % 256) 7 (Nat.mod_lt _ (by decide)) (by decide)
        rw [shift_shl_any _ _ _ _ (by omega)] at this ⊢
        exact this
      have HN : Hid (∀ Y, Y = Tg.part s.data.toList (s.size / 8) (s.size % 8) + s.size % 256 * 256 ^ 7 → ∀ j, j < Q + 1 → (if j = s.size / 8 then Y else Tg.part s.data.toList j (min 8 (s.size - 8 * j))) = Tg.wn s.data.toList j) := by
        intro Y hY j hj
        have := part_last s.data.toList j (by rw [Hlen.out, HQ.out]; exact hj)
        rw [Hlen.out] at this
        rw [← this, hY]
      have e3 : (s.size : Int) % 256 = ((s.size % 256 : Nat) : Int) := by omega
      have hT : s.size % 256 < 256 := Nat.mod_lt _ (by decide)
      clear hP R
      generalize Tg.part s.data.toList (s.size / 8) (s.size % 8) + s.size % 256 * 256 ^ 7 = Y at hor HN
      generalize Tg.part s.data.toList (s.size / 8) (s.size % 8) = P at c1 hor
      generalize s.size % 256 * 256 ^ 7 = X at hsh hor
      generalize s.size % 256 = T at e3 hsh hT
      rw [HQ.out] at c1 f1
      have HN' : Hid (∀ j, j < Q + 1 → (if j = Q then Y else Tg.part s.data.toList j (min 8 (s.size - 8 * j))) = Tg.wn s.data.toList j) := by
        have := HN.out _ rfl
        rw [HQ.out] at this
        exact this
      clear HN hjQ
      go_wp2
      go_ret
      refine ⟨_, _, rfl, ?_, HB.out.setCell (p := ⟨w.heap.size, _, none⟩) (Nat.le_refl _) _⟩
      refine ⟨BlkU.words ?_, fun p hp => by cases hp; exact Nat.le_refl _⟩
      rw [Hlen.out, HQ.out]
      exact (HR.out.set Q Y).congr HN'.out
end Go.Proofs.Ytcjpbmfdgheolaa
