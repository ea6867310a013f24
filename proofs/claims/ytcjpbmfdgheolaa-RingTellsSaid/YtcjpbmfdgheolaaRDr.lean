/- The walks of rings of keys: room for so many, two slices joined, an epoch less. -/
import Derived.Test.YtcjpbmfdgheolaaRAd
import Derived.Lib.AppendZeros
import Derived.Test.YtcjpbmfdgheolaaAppAll
namespace Go.Proofs.Ytcjpbmfdgheolaa
open Go.RowKit

set_option maxRecDepth 100000 in
set_option maxHeartbeats 1000000 in
theorem grow_any (n : Nat) (w : World) (hn : n ≤ 100) :
    Calls Try.prog 30 #[.slice none 0 0, .int .i64 (n : Int)] w fun e w' => ∃ v, e = .returned v ∧ OwnE w' w.heap.size v [] ∧ Below w.heap.size w w' := by
  obtain ⟨i0, hi, hz0, hz1, hz2⟩ := info_ep
  by_cases h0 : n = 0
  · subst h0
    clear hi hz0 hz1 hz2
    go_enter Try.func30, Try.ntmps30
    go_wp2
    go_ret
    exact ⟨_, rfl, OwnE.nil _ _, Below.refl _ _⟩
  · have hpos : (0 : Int) < (n : Int) := by omega
    have happ := Lib.run_append_nil_zeros (P := Try.prog) w 22 3 22 40 i0 _ .i64 .i64 Try.underlying22 Try.underlying3 hi hz0 n (by omega) (by omega) (by omega) (by rw [hz2]; omega)
    have hcg := grownCap_ge w n 0 40
    have hcm := grownCap_le_maxLen w n 0 40 (by unfold maxLen; omega)
    generalize grownCap w n 0 40 = c at *
    have hZs : (Builtin.zeroCells (Value.agg #[.int .i64 0, .int .u64 0, .int .u64 0]).cells n ++ Builtin.zeroCells (Value.agg #[.int .i64 0, .int .u64 0, .int .u64 0]).cells (c - n)).size = c * 3 := by
      rw [Array.size_append, size_zeroCells, size_zeroCells]; simp [Value.cells]; omega
    generalize (Builtin.zeroCells (Value.agg #[.int .i64 0, .int .u64 0, .int .u64 0]).cells n ++ Builtin.zeroCells (Value.agg #[.int .i64 0, .int .u64 0, .int .u64 0]).cells (c - n)) = Z at *
    have HO : Hid (OwnE (w.drew.alloc (.cells Z 40)) w.heap.size (.slice (some ⟨w.heap.size, 0, none⟩) 0 c) []) := World.ownsRow_made (base := w.heap.size) (e := 40) (size := 3) w.drew Z c (Nat.le_refl _) hcm hZs
    have HB : Hid (Below w.heap.size w (w.drew.alloc (.cells Z 40))) := (Below.refl _ w).drew.alloc (Nat.le_refl _) _
    have hsl : (0 : Int) ≤ (c : Int) := by omega
    clear hi hz0 hz1 hz2 hZs hcm
    go_enter Try.func30, Try.ntmps30
    go_wp2_with (at_builtin; refine Lib.wpList_append_run _ rfl _ _ _ _ rfl _ _ rfl rfl _ _ happ ?_)
    go_ret
    exact ⟨_, rfl, HO.out, HB.out⟩
theorem con_end {w wr w1 : World} {B nx ny : Nat} {v v' : Value} {x y : List Rg.Ep} (hx : x.length = nx) (hy : y.length = ny) (hO : OwnE wr B v x) (hB : Below B w wr) (hown : w1.ownsRow B 40 3 v' (nx + ny) (fl3 x ++ fl3 y)) (hgrow : wr.grownBy w1 v.ownBlock) (hb : B ≤ wr.heap.size) :
    OwnE w1 B v' (x ++ y) ∧ Below B w w1 := by
  subst hx hy
  exact OwnE.join hb hO hB hown hgrow
set_option maxRecDepth 100000 in
set_option maxHeartbeats 2000000 in
theorem concat_any (l1 l2 : List Rg.Ep) (a1 a2 : Option Addr) (n1 n2 c1 c2 b : Nat) (w : World) (hl1 : l1.length = n1) (hl2 : l2.length = n2) (h1 : n1 ≤ 8) (h2 : n2 ≤ 8) (r1 : Row3 w a1 l1) (r2 : Row3 w a2 l2)
    (z1 : a1 = none → n1 = 0 ∧ c1 = 0) (z2 : a2 = none → n2 = 0 ∧ c2 = 0) (hb : b < w.heap.size) (k1 : w.cell? ⟨b, 0, none⟩ = some (.slice a1 n1 c1)) (k2 : w.cell? ⟨b, 1, none⟩ = some (.slice a2 n2 c2)) :
    Calls Try.prog 23 #[.slice (some ⟨b, 0, none⟩) 2 2] w fun e w' => ∃ v, e = .returned v ∧ OwnE w' w.heap.size v (l1 ++ l2) ∧ Below w.heap.size w w' := by
  obtain ⟨i0, hi, hz0, hz1', hz2⟩ := info_ep
  have HI : Hid (Try.prog.info? 40 = some i0 ∧ i0.zero = some (.agg #[.int .i64 0, .int .u64 0, .int .u64 0]) ∧ i0.size = 3 ∧ i0.bytes = 24) := ⟨hi, hz0, hz1', hz2⟩
  have HL : Hid (l1.length = n1 ∧ l2.length = n2) := ⟨hl1, hl2⟩
  have HR : Hid (Row3 w a1 l1 ∧ Row3 w a2 l2) := ⟨r1, r2⟩
  have HZ : Hid ((a1 = none → n1 = 0 ∧ c1 = 0) ∧ (a2 = none → n2 = 0 ∧ c2 = 0)) := ⟨z1, z2⟩
  have HK : Hid (w.cell? ⟨b, 0, none⟩ = some (.slice a1 n1 c1) ∧ w.cell? ⟨b, 1, none⟩ = some (.slice a2 n2 c2)) := ⟨k1, k2⟩
  clear hi hz0 hz1' hz2 hl1 hl2 r1 r2 z1 z2
  go_enter Try.func23, Try.ntmps23
  go_wp2
  go_loop [3, 5, 11] (fun s _ i => (s = .int .i64 0 ∧ i = .int .i64 0) ∨ (s = .int .i64 (n1 : Int) ∧ i = .int .i64 1) ∨ (s = .int .i64 ((n1 + n2 : Nat) : Int) ∧ i = .int .i64 2)) (fun _ _ i => 2 - (intOf i).toNat)
  case atStart => exact .inl ⟨rfl, rfl⟩
  case round =>
    rcases hrel with ⟨rfl, rfl⟩ | ⟨rfl, rfl⟩ | ⟨rfl, rfl⟩
    · go_wp2
      go_round
      case rel => exact .inr (.inl ⟨by first | rfl | go_num, by go_num⟩)
      case measure => simp [intOf]
    · go_wp2
      go_round
      case rel => exact .inr (.inr ⟨by first | rfl | go_num, by go_num⟩)
      case measure => simp [intOf]
    · have hg := grow_any (n1 + n2) w (by omega)
      go_wp2_with (go_at_call 30; refine hg.mono ?_; rintro e w2 ⟨v, rfl, ho, hb2⟩)
      have kk1 := (hb2.cell (p := ⟨b, 0, none⟩) hb).trans k1
      have kk2 := (hb2.cell (p := ⟨b, 1, none⟩) hb).trans k2
      have HB2 : Hid (Below w.heap.size w w2) := hb2
      have HO : Hid (OwnE w2 w.heap.size v []) := ho
      clear hb2 ho k1 k2
      go_loopw [6, 8, 27] (fun vv _ iv wr => (vv = v ∧ iv = .int .i64 0 ∧ OwnE wr w.heap.size vv [] ∧ Below w.heap.size w wr) ∨ (iv = .int .i64 1 ∧ OwnE wr w.heap.size vv l1 ∧ Below w.heap.size w wr) ∨ (iv = .int .i64 2 ∧ OwnE wr w.heap.size vv (l1 ++ l2) ∧ Below w.heap.size w wr)) (fun _ _ iv _ => 2 - (intOf iv).toNat)
      case atStart => exact .inl ⟨rfl, rfl, HO.out, HB2.out⟩
      case round =>
        rename_i vq _ _
        clear HO HB2 kk1 kk2
        rcases hrel with ⟨rfl, rfl, hO, hB⟩ | ⟨rfl, hO, hB⟩ | ⟨rfl, hO, hB⟩
        · have ho := hO
          have HB : Hid (Below w.heap.size w wr) := hB
          have kk1 := (hB.cell (p := ⟨b, 0, none⟩) hb).trans HK.out.1
          have kk2 := (hB.cell (p := ⟨b, 1, none⟩) hb).trans HK.out.2
          have RR := (HR.out.1.below hB).news
          have HRR : Hid (_) := RR
          clear RR hB hO
          go_wp2_with (at_builtin; go_loud (refine wpList_append_all _ rfl _ _ 22 rfl w.heap.size 40 i0 _ 3 24 Try.underlying22 HI.out.1 HI.out.2.1 HI.out.2.2.1 HI.out.2.2.2 rfl (by omega) _ 0 (fl3 []) rfl (by have := ho; unfold OwnE at this; first | exact this | (rw [HL.out.1] at this; exact this)) a1 n1 c1 (fl3 l1) rfl HZ.out.1 (by rw [fl3_len, HL.out.1]) HRR.out (fl3_one _) (by unfold maxLen; omega) (by omega) HB.out.size ?_; intro v' w3 hown hgrow))
          have Q := con_end (x := []) (y := l1) (by first | rfl | exact HL.out.1) HL.out.1 ho HB.out hown hgrow HB.out.size
          have HQ : Hid (_) := Q
          clear Q hown hgrow ho
          go_wp2
          go_roundw
          case rel => exact .inr (.inl ⟨by go_num, HQ.out.1, HQ.out.2⟩)
          case measure => simp [intOf]
        · have ho := hO
          have HB : Hid (Below w.heap.size w wr) := hB
          have kk1 := (hB.cell (p := ⟨b, 0, none⟩) hb).trans HK.out.1
          have kk2 := (hB.cell (p := ⟨b, 1, none⟩) hb).trans HK.out.2
          have RR := (HR.out.2.below hB).news
          have HRR : Hid (_) := RR
          clear RR hB hO
          go_wp2_with (at_builtin; go_loud (refine wpList_append_all _ rfl _ _ 22 rfl w.heap.size 40 i0 _ 3 24 Try.underlying22 HI.out.1 HI.out.2.1 HI.out.2.2.1 HI.out.2.2.2 rfl (by omega) _ n1 (fl3 l1) rfl (by have := ho; unfold OwnE at this; first | exact this | (rw [HL.out.1] at this; exact this)) a2 n2 c2 (fl3 l2) rfl HZ.out.2 (by rw [fl3_len, HL.out.2]) HRR.out (fl3_one _) (by unfold maxLen; omega) (by omega) HB.out.size ?_; intro v' w3 hown hgrow))
          have Q := con_end (x := l1) (y := l2) (by first | rfl | exact HL.out.1) HL.out.2 ho HB.out hown hgrow HB.out.size
          have HQ : Hid (_) := Q
          clear Q hown hgrow ho
          go_wp2
          go_roundw
          case rel => exact .inr (.inr ⟨by go_num, HQ.out.1, HQ.out.2⟩)
          case measure => simp [intOf]
        · have HO : Hid (OwnE wr w.heap.size _ (l1 ++ l2)) := hO
          have HB : Hid (Below w.heap.size w wr) := hB
          clear hO hB
          go_wp2
          go_ret
          exact ⟨_, rfl, HO.out, HB.out⟩
end Go.Proofs.Ytcjpbmfdgheolaa
