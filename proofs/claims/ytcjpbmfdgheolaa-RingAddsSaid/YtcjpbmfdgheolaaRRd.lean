/- The walks of the document's rings: an epoch less; are two rings one. -/
import Derived.Test.YtcjpbmfdgheolaaRDr2
namespace Go.Proofs.Ytcjpbmfdgheolaa
open Go.RowKit

def Rg.fil (no : Int) (l : List Rg.Ep) : List Rg.Ep := l.filter (fun e => !decide (e.1 = no))
theorem Rg.fil_snoc_eq (no : Int) (l : List Rg.Ep) (k : Nat) (A B : Tg.W) (h : l[k]? = some (no, A, B)) : Rg.fil no (l.take (k + 1)) = Rg.fil no (l.take k) := by
  obtain ⟨hk, he⟩ := List.getElem?_eq_some_iff.1 h
  unfold Rg.fil
  rw [List.take_succ_eq_append_getElem hk, List.filter_append, he]
  simp
theorem Rg.fil_snoc_ne (no n : Int) (l : List Rg.Ep) (k : Nat) (A B : Tg.W) (h : l[k]? = some (n, A, B)) (hn : n ≠ no) : Rg.fil no (l.take (k + 1)) = Rg.fil no (l.take k) ++ [(n, A, B)] := by
  obtain ⟨hk, he⟩ := List.getElem?_eq_some_iff.1 h
  unfold Rg.fil
  rw [List.take_succ_eq_append_getElem hk, List.filter_append, he]
  simp [hn]
theorem Rg.fil_len (no : Int) (l : List Rg.Ep) (k : Nat) : (Rg.fil no (l.take k)).length ≤ k := Nat.le_trans (List.length_filter_le _ _) (List.length_take_le _ _)
theorem fil_end {w wr w1 : World} {l : List Rg.Ep} {n : Int} {A B : Tg.W} {v v' : Value} (hO : OwnE wr w.heap.size v l) (hB : Below w.heap.size w wr)
    (hown : w1.ownsRow w.heap.size 40 3 v' (l.length + 1) (fl3 l ++ [.int .i64 n, .int .u64 (wd A), .int .u64 (wd B)]))
    (hgrow : (wr.alloc (.cells #[.int .i64 n, .int .u64 (wd A), .int .u64 (wd B)] 40)).grownBy w1 v.ownBlock) : OwnE w1 w.heap.size v' (l ++ [(n, A, B)]) ∧ Below w.heap.size w w1 :=
  OwnE.join (ys := [(n, A, B)]) (hB.alloc hB.size _).size (World.ownsRow.alloc hO _) (hB.alloc hB.size _) hown hgrow
set_option maxRecDepth 100000 in
set_option maxHeartbeats 2000000 in
theorem ringDrop_any (l : List Rg.Ep) (a : Option Addr) (cap : Nat) (no : Int) (w : World) (hl : l.length ≤ maxLen) (hr : Row3 w a l) :
    Calls Try.prog 11 #[.slice a l.length cap, .int .i64 no] w (drpPost w l no) := by
  have HR : Hid (Row3 w a l) := hr
  have hck := ringCheck_any l a cap w hl hr
  have hko := keyOf_any l a cap no w hl hr
  clear hr
  by_cases hc : Rg.chk l = 0
  · have HCZ : Hid (Rg.chk l = 0) := hc
    have h8 : l.length ≤ 8 := ((Rg.chk_iff l).1 hc).1
    rw [hc] at hck
    cases hf : Rg.find no l with
    | none =>
      have HE : Hid (Rg.drp l no = ([], 5)) := by show _ = _; unfold Rg.drp; rw [if_neg (by rw [HCZ.out]; omega), hf]
      have hkv : keyVal no l = .tuple #[.agg #[.int .u64 0, .int .u64 0], .bool false] := by unfold keyVal; rw [hf]
      rw [hkv] at hko
      clear hkv hf hc
      go_enter Try.func11, Try.ntmps11
      go_wp2_with fail
      refine hck.mono ?_; rintro e w1 ⟨rfl, rfl⟩
      clear hck
      go_wp2_with fail
      refine hko.mono ?_; rintro e w2 ⟨rfl, hb2⟩
      have HB2 : Hid (Below w1.heap.size w1 (w2.alloc (.cells #[.int .u64 0, .int .u64 0] 25))) := below_on hb2 (Nat.le_refl _) (below_box w2 _)
      clear hb2 hko
      go_wp2
      go_ret2
      exact drpPost.bad HE.out HB2.out
    | some p =>
      obtain ⟨k, K⟩ := p
      have HE : Hid (Rg.drp l no = (Rg.fil no l, 0)) := by
        show _ = _
        unfold Rg.drp
        rw [if_neg (by rw [HCZ.out]; omega), hf]
        have := Rg.filter_is l 0 no k K ((Rg.chk_iff l).1 hc).2 hf
        unfold Rg.fil
        rw [this]
      have hkv : keyVal no l = .tuple #[.agg #[.int .u64 (wd K.1), .int .u64 (wd K.2)], .bool true] := by unfold keyVal; rw [hf]
      rw [hkv] at hko
      clear hkv hf hc
      obtain ⟨i0, hi, hz0, hz1', hz2⟩ := info_ep
      have HI : Hid (Try.prog.info? 40 = some i0 ∧ i0.zero = some (.agg #[.int .i64 0, .int .u64 0, .int .u64 0]) ∧ i0.size = 3 ∧ i0.bytes = 24) := ⟨hi, hz0, hz1', hz2⟩
      clear hi hz0 hz1' hz2
      go_enter Try.func11, Try.ntmps11
      go_wp2_with fail
      refine hck.mono ?_; rintro e w1 ⟨rfl, rfl⟩
      clear hck
      go_wp2_with fail
      refine hko.mono ?_; rintro e w2 ⟨rfl, hb2⟩
      have HB2 : Hid (Below w1.heap.size w1 (w2.alloc (.cells #[.int .u64 (wd K.1), .int .u64 (wd K.2)] 25))) := below_on hb2 (Nat.le_refl _) (below_box w2 _)
      clear hb2 hko
      go_wp2
      go_loopw [9, 10] (fun v iv wr => ∃ k : Nat, k ≤ l.length ∧ iv = .int .i64 k ∧ OwnE wr w1.heap.size v (Rg.fil no (l.take k)) ∧ Below w1.heap.size w1 wr) (fun _ iv _ => l.length - (intOf iv).toNat)
      case atStart => exact ⟨0, Nat.zero_le _, rfl, OwnE.nil _ _, HB2.out⟩
      case round =>
        obtain ⟨k, hk, rfl, hO, hB⟩ := hrel
        have HB : Hid (Below w1.heap.size w1 wr) := hB
        by_cases hlt : k < l.length
        · have hlt' : (k : Int) < (l.length : Int) := by omega
          obtain ⟨b, off, n, A, B, rfl, hbs, hx, c1, c2, c3⟩ := (HR.out.below hB).at hlt
          have HX : Hid (l[k]? = some (n, A, B)) := hx
          have hfl := Rg.fil_len no l k
          clear hB hx
          by_cases hn : n = no
          · subst hn
            have HN : Hid (Rg.fil n (l.take (k + 1)) = Rg.fil n (l.take k)) := Rg.fil_snoc_eq n l k A B HX.out
            have HO : Hid (OwnE wr w1.heap.size _ (Rg.fil n (l.take k))) := hO
            clear hO
            go_wp2
            go_roundw
            case rel => exact ⟨k + 1, by omega, by go_num, by rw [HN.out]; exact HO.out, HB.out⟩
            case measure => simp [intOf]; omega
          · have hn' : (n != no) = true := by simpa using hn
            have HN : Hid (Rg.fil no (l.take (k + 1)) = Rg.fil no (l.take k) ++ [(n, A, B)]) := Rg.fil_snoc_ne no n l k A B HX.out hn
            clear hn
            generalize Rg.fil no (l.take k) = F at *
            go_wp2_with (at_builtin; refine wpList_append_own _ rfl _ _ 22 rfl w1.heap.size 40 i0 _ 3 24 Try.underlying22 HI.out.1 HI.out.2.1 HI.out.2.2.1 HI.out.2.2.2 rfl (by omega) _ _ _ rfl (World.ownsRow.alloc hO _) ⟨wr.heap.size, 0, none⟩ 1 1 [.int .i64 n, .int .u64 (wd A), .int .u64 (wd B)] rfl rfl (cell3_new wr _ _ _ _) (by simp [Value.oneCell']) (by unfold maxLen; omega) (by omega) (HB.out.alloc HB.out.size _).size ?_; intro v' w3 hown hgrow hnil)
            have HQ : Hid (OwnE w3 w1.heap.size v' (F ++ [(n, A, B)]) ∧ Below w1.heap.size w1 w3) := fil_end hO HB.out hown hgrow
            clear hown hgrow hnil hO
            go_wp2
            go_roundw
            case rel => exact ⟨k + 1, by omega, by go_num, by rw [HN.out]; exact HQ.out.1, HQ.out.2⟩
            case measure => simp [intOf]; omega
        · obtain rfl : k = l.length := by omega
          rw [List.take_of_length_le (Nat.le_refl _)] at hO
          have HO : Hid (OwnE wr w1.heap.size u9 (Rg.fil no l)) := hO
          clear hO hB
          go_wp2
          go_ret2
          exact drpPost.good HE.out HO.out HB.out
  · have HE : Hid (Rg.drp l no = ([], Rg.chk l)) := by show _ = _; unfold Rg.drp; rw [if_pos hc]
    clear hko
    generalize Rg.chk l = C at *
    have hc' : (C != 0) = true := by simpa using hc
    go_enter Try.func11, Try.ntmps11
    go_wp2_with fail
    refine hck.mono ?_; rintro e w1 ⟨rfl, rfl⟩
    clear hck
    go_wp2
    go_ret2
    exact drpPost.bad HE.out (Below.refl _ _)
end Go.Proofs.Ytcjpbmfdgheolaa
