/- The walks of the document's own tags: a text's words. -/
import Derived.Test.YtcjpbmfdgheolaaGWds
namespace Go.Proofs.Ytcjpbmfdgheolaa
open Go.RowKit

/-- the first j words, as the document's own loop makes them -/
def fst8 (l : List UInt8) (j : Nat) : List Tg.W := (List.range j).map (fun i => BitVec.ofNat 64 (Tg.part l i 8))
theorem fst8_succ (l : List UInt8) (j : Nat) : fst8 l (j + 1) = fst8 l j ++ [BitVec.ofNat 64 (Tg.part l j 8)] := by
  unfold fst8; rw [List.range_succ, List.map_append]; rfl
theorem fst8_length (l : List UInt8) (j : Nat) : (fst8 l j).length = j := by simp [fst8]
theorem words_fst8 (l : List UInt8) : Tg.words l = fst8 l (l.length / 8) ++ [BitVec.ofNat 64 (Tg.lst l)] := by
  unfold Tg.words fst8
  rw [List.range_succ, List.map_append]
  congr 1
  · apply List.map_congr_left
    intro i hi
    rw [List.mem_range] at hi
    unfold Tg.wn
    rw [if_pos hi]
  · show [BitVec.ofNat 64 (Tg.wn l (l.length / 8))] = _
    unfold Tg.wn
    rw [if_neg (Nat.lt_irrefl _)]
theorem horner (l : List UInt8) (j K n T : Nat) (h : Tg.part l j (K + 1) + n * 256 ^ (K + 1) = T) : Tg.part l j K + (n * 256 + (l.getD (8 * j + K) 0).toNat) * 256 ^ K = T := by
  rw [← h]
  show _ = Tg.part l j K + (l.getD (8 * j + K) 0).toNat * 256 ^ K + n * (256 ^ K * 256)
  generalize 256 ^ K = P
  rw [Nat.add_mul, Nat.mul_assoc n 256 P, Nat.mul_comm 256 P]
  omega
theorem horner_lt (p K n T : Nat) (h : p + n * 256 ^ K = T) (hT : T < 18446744073709551616) : n < 18446744073709551616 := by
  have : n ≤ n * 256 ^ K := Nat.le_mul_of_pos_right _ (Nat.pow_pos (by decide))
  omega
set_option maxRecDepth 100000 in
set_option maxHeartbeats 4000000 in
theorem wordsOf_any (s : ByteArray) (w : World) (hs : s.size ≤ 140737488351232) :
    Calls Try.prog 42 #[.string s] w fun e w' => ∃ a cap, e = .returned (.slice a (Tg.words s.data.toList).length cap) ∧ RowN w' w.heap.size a (Tg.words s.data.toList) ∧ Below w.heap.size w w' := by
  obtain ⟨i0, hi, hz0, hz1, hz2⟩ := info_parts infoU
  have HI : Hid (Try.prog.info? 23 = some i0 ∧ i0.zero = some (.int .u64 0) ∧ i0.size = 1 ∧ i0.bytes = 8) := ⟨hi, hz0, hz1, hz2⟩
  clear hi hz0 hz1 hz2
  have Hlen : Hid (s.data.toList.length = s.size) := len_list s
  go_enter Try.func42, Try.ntmps42
  go_wp2
  go_loopw [3, 4, 5, 6] (fun ov fv _ _ wr => ∃ j F : Nat, F = 8 * j ∧ F ≤ s.size ∧ fv = .int .i64 F ∧ OwnU wr w.heap.size ov (fst8 s.data.toList j) ∧ Below w.heap.size w wr) (fun _ fv _ _ _ => s.size + 8 - (intOf fv).toNat)
  case atStart => exact ⟨0, 0, rfl, Nat.zero_le _, rfl, OwnU.nil _ _, Below.refl _ _⟩
  case round =>
    obtain ⟨j, F, hF, hFn, rfl, hown, hnx⟩ := hrel
    have HF : Hid (F = 8 * j) := hF
    have hsz : w.heap.size ≤ wr.heap.size := hnx.size
    have HO : Hid (OwnU wr w.heap.size u3 (fst8 s.data.toList j)) := hown
    have HX : Hid (Below w.heap.size w wr) := hnx
    clear hF hown hnx
    have T8 := Tg.part8_lt s.data.toList j
    by_cases hlt : F + 8 ≤ s.size
    · have hltz : (F : Int) + 8 ≤ (s.size : Int) := by omega
      go_wp2
      go_loop [5, 6] (fun nv kv => ∃ K n : Nat, K ≤ 8 ∧ kv = .int .i64 ((K : Int) - 1) ∧ nv = .int .u64 n ∧ Hid (Tg.part s.data.toList j K + n * 256 ^ K = Tg.part s.data.toList j 8)) (fun _ kv => (intOf kv + 1).toNat)
      case atStart => exact ⟨8, 0, Nat.le_refl _, rfl, rfl, by show _ = _; omega⟩
      case round =>
        obtain ⟨K, n, hK, rfl, rfl, HE⟩ := hrel
        match K, hK, HE with
        | 0, _, HE =>
          have HV : Hid (n = Tg.part s.data.toList j 8) := by
            have := HE.out
            rw [← this]
            show n = Tg.part s.data.toList j 0 + n * 1
            rw [Nat.mul_one]; exact (Nat.zero_add n).symm
          have hn : n < 18446744073709551616 := by rw [HV.out]; exact T8
          clear HE T8
          go_wp2_with (at_builtin; refine wpList_append_own _ rfl (.tmp 30) (.tmp 32) 64 rfl w.heap.size 23 i0 (.int .u64 0) 1 8 Try.underlying64 HI.out.1 HI.out.2.1 HI.out.2.2.1 HI.out.2.2.2 rfl (by decide) _ _ _ rfl (World.ownsRow.alloc HO.out _) ⟨wr.heap.size, 0, none⟩ 1 1 [.int .u64 (n : Int)] rfl rfl (cellU_new _ _ _) (oneU _) (by rw [fst8_length]; unfold maxLen; have := HF.out; omega) (by rw [fst8_length]; have := HF.out; omega) (by first | omega | (simp; omega)) ?_; intro v1 w1 own1 grow1 _)
          rw [← wd_of n hn] at own1
          have R := OwnU.keep hsz HO.out HX.out own1 grow1
          have HR : Hid (OwnU w1 w.heap.size v1 (fst8 s.data.toList j ++ [BitVec.ofNat 64 n]) ∧ Below w.heap.size w w1) := R
          clear R own1 grow1
          go_wp2
          go_roundw
          case rel => exact ⟨j + 1, F + 8, by rw [HF.out]; omega, hlt, by go_num, by rw [fst8_succ, ← HV.out]; exact HR.out.1, HR.out.2⟩
          case measure => simp [intOf] <;> omega
        | K + 1, hK, HE =>
          obtain ⟨p, hp⟩ : ∃ p, F + K = p := ⟨_, rfl⟩
          have hplt : p < s.size := by omega
          have hpz : (F : Int) + (K : Int) = (p : Int) := by omega
          have HE2 := horner s.data.toList j K n _ HE.out
          rw [← HF.out, hp, byte_at s p hplt] at HE2
          have hn2 := horner_lt _ _ _ _ HE2 T8
          have hcc : (((K + 1 : Nat) : Int) - 1) = (K : Int) := by omega
          rw [hcc]
          have HE3 : Hid (Tg.part s.data.toList j K + (n * 256 + s[p].toNat) * 256 ^ K = Tg.part s.data.toList j 8) := HE2
          have hn3 : (n : Int) * 256 + (s[p].toNat : Int) < 18446744073709551616 := by omega
          have hn4 : (n : Int) * 256 < 18446744073709551616 := by omega
          have hc0 : (0 : Int) ≤ (s[p].toNat : Int) := by omega
          have hpi : (p : Int) < (s.size : Int) := by omega
          clear HE2 HE hcc T8 hn2 hp hlt hltz
          go_wp2
          go_round
          case rel => exact ⟨K, n * 256 + s[p].toNat, by omega, rfl, by go_num, HE3.out⟩
          case measure => simp [intOf] <;> omega
    · have hltz : ¬ (F : Int) + 8 ≤ (s.size : Int) := by omega
      have HJ : Hid (s.size / 8 = j) := by show _ = _; have := HF.out; omega
      have HT : Hid (Tg.words s.data.toList = fst8 s.data.toList j ++ [BitVec.ofNat 64 (Tg.lst s.data.toList)]) := by
        show _ = _
        rw [words_fst8, Hlen.out, HJ.out]
      have HL : Hid (Tg.lst s.data.toList = Tg.part s.data.toList j 7 + s.size % 256 * 256 ^ 7) := by
        show _ = _
        unfold Tg.lst
        rw [Hlen.out, HJ.out]
      have hl64 := Tg.lst_lt s.data.toList
      go_wp2
      go_loop [7, 9] (fun nv kv => ∃ K n : Nat, K ≤ 7 ∧ kv = .int .i64 ((K : Int) - 1) ∧ nv = .int .u64 n ∧ Hid (Tg.part s.data.toList j K + n * 256 ^ K = Tg.lst s.data.toList)) (fun _ kv => (intOf kv + 1).toNat)
      case atStart => exact ⟨7, s.size % 256, Nat.le_refl _, rfl, by go_num, HL.out.symm⟩
      case round =>
        obtain ⟨K, n, hK, rfl, rfl, HE⟩ := hrel
        match K, hK, HE with
        | 0, _, HE =>
          have HV : Hid (n = Tg.lst s.data.toList) := by
            have := HE.out
            rw [← this]
            show n = Tg.part s.data.toList j 0 + n * 1
            rw [Nat.mul_one]; exact (Nat.zero_add n).symm
          have hn : n < 18446744073709551616 := by rw [HV.out]; exact hl64
          clear HE hl64 T8
          go_wp2_with (at_builtin; refine wpList_append_own _ rfl (.tmp 61) (.tmp 63) 64 rfl w.heap.size 23 i0 (.int .u64 0) 1 8 Try.underlying64 HI.out.1 HI.out.2.1 HI.out.2.2.1 HI.out.2.2.2 rfl (by decide) _ _ _ rfl (World.ownsRow.alloc HO.out _) ⟨wr.heap.size, 0, none⟩ 1 1 [.int .u64 (n : Int)] rfl rfl (cellU_new _ _ _) (oneU _) (by rw [fst8_length]; unfold maxLen; have := HF.out; omega) (by rw [fst8_length]; have := HF.out; omega) (by first | omega | (simp; omega)) ?_; intro v1 w1 own1 grow1 _)
          rw [← wd_of n hn] at own1
          have R := OwnU.keep hsz HO.out HX.out own1 grow1
          rw [HV.out, ← HT.out] at R
          obtain ⟨R1, R2⟩ := R
          obtain ⟨a, cap, rfl, hr⟩ := R1.row
          have HR : Hid (RowN w1 w.heap.size a (Tg.words s.data.toList) ∧ Below w.heap.size w w1) := ⟨hr, R2⟩
          clear R1 R2 hr own1 grow1
          go_wp2
          go_ret
          exact ⟨_, ⟨_, rfl⟩, HR.out.1, HR.out.2⟩
        | K + 1, hK, HE =>
          have HE2 := horner s.data.toList j K n _ HE.out
          have hn2 := horner_lt _ _ _ _ HE2 hl64
          have hcc : (((K + 1 : Nat) : Int) - 1) = (K : Int) := by omega
          rw [hcc]
          have hleft : (s.size : Int) % 8 = ((s.size - F : Nat) : Int) := by have := HF.out; omega
          by_cases hKl : K < s.size - F
          · obtain ⟨p, hp⟩ : ∃ p, F + K = p := ⟨_, rfl⟩
            have hplt : p < s.size := by omega
            rw [← HF.out, hp, byte_at s p hplt] at HE2 hn2
            have HE3 : Hid (Tg.part s.data.toList j K + (n * 256 + s[p].toNat) * 256 ^ K = Tg.lst s.data.toList) := HE2
            have hn3 : (n : Int) * 256 + (s[p].toNat : Int) < 18446744073709551616 := by omega
            have hn4 : (n : Int) * 256 < 18446744073709551616 := by omega
            have hc0 : (0 : Int) ≤ (s[p].toNat : Int) := by omega
            have hidx : (s.size : Int) - (s.size : Int) % 8 + (K : Int) = (p : Int) := by omega
            have hKz : (K : Int) < (s.size : Int) % 8 := by omega
            have hpi : (p : Int) < (s.size : Int) := by omega
            clear HE2 HE hcc hleft T8 hn2 hp hlt hltz hKl hl64
            go_wp2
            go_round
            case rel => exact ⟨K, n * 256 + s[p].toNat, by omega, rfl, by go_num, HE3.out⟩
            case measure => simp [intOf] <;> omega
          · have hby : s.data.toList.getD (8 * j + K) 0 = 0 := by
              rw [List.getD_eq_getElem?_getD, List.getElem?_eq_none (by rw [Hlen.out, ← HF.out]; omega)]; rfl
            rw [hby] at HE2 hn2
            have HE3 : Hid (Tg.part s.data.toList j K + (n * 256) * 256 ^ K = Tg.lst s.data.toList) := HE2
            have hn4 : (n : Int) * 256 < 18446744073709551616 := by have : n * 256 + 0 < 18446744073709551616 := hn2; omega
            have hKz : ¬ (K : Int) < (s.size : Int) % 8 := by omega
            clear HE2 HE hby hcc hleft T8 hn2
            go_wp2
            go_round
            case rel => exact ⟨K, n * 256, by omega, rfl, by go_num, HE3.out⟩
            case measure => simp [intOf] <;> omega
end Go.Proofs.Ytcjpbmfdgheolaa
