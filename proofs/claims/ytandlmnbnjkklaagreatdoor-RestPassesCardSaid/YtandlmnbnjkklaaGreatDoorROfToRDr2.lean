/- The walks of the document's rings: a text opened. The walks of rings of keys: room for so many, two slices joined, an epoch less. The walk of rings of keys: an epoch less. -/
import Derived.Test.YtandlmnbnjkklaaGreatDoorROp
import Derived.Test.YtandlmnbnjkklaaGreatDoorRAd
import Derived.Lib.AppendZeros
import Derived.Test.YtandlmnbnjkklaaGreatDoorBaseToAppAll
namespace Go.Proofs.YtandlmnbnjkklaaGreatDoor
open Go.RowKit

end Go.Proofs.YtandlmnbnjkklaaGreatDoor
namespace Go.Proofs.YtandlmnbnjkklaaGreatDoor
open Go.RowKit

set_option maxRecDepth 100000 in
set_option maxHeartbeats 1000000 in
theorem grow_any (n : Nat) (w : World) (hn : n ≤ 100) :
    Calls Tryz.prog 81 #[.slice none 0 0, .int .i64 (n : Int)] w fun e w' => ∃ v, e = .returned v ∧ OwnE w' w.heap.size v [] ∧ Below w.heap.size w w' := by
  obtain ⟨i0, hi, hz0, hz1, hz2⟩ := info_ep
  by_cases h0 : n = 0
  · subst h0
    clear hi hz0 hz1 hz2
    go_enter Tryz.func81, Tryz.ntmps81
    go_wp2
    go_ret
    exact ⟨_, rfl, OwnE.nil _ _, Below.refl _ _⟩
  · have hpos : (0 : Int) < (n : Int) := by omega
    have happ := Lib.run_append_nil_zeros (P := Tryz.prog) w 27 3 27 52 i0 _ .i64 .i64 Tryz.underlying27 Tryz.underlying3 hi hz0 n (by omega) (by omega) (by omega) (by rw [hz2]; omega)
    have hcg := grownCap_ge w n 0 52
    have hcm := grownCap_le_maxLen w n 0 52 (by unfold maxLen; omega)
    generalize grownCap w n 0 52 = c at *
    have hZs : (Builtin.zeroCells (Value.agg #[.int .i64 0, .int .u64 0, .int .u64 0]).cells n ++ Builtin.zeroCells (Value.agg #[.int .i64 0, .int .u64 0, .int .u64 0]).cells (c - n)).size = c * 3 := by
      rw [Array.size_append, size_zeroCells, size_zeroCells]; simp [Value.cells]; omega
    generalize (Builtin.zeroCells (Value.agg #[.int .i64 0, .int .u64 0, .int .u64 0]).cells n ++ Builtin.zeroCells (Value.agg #[.int .i64 0, .int .u64 0, .int .u64 0]).cells (c - n)) = Z at *
    have HO : Hid (OwnE (w.drew.alloc (.cells Z 52)) w.heap.size (.slice (some ⟨w.heap.size, 0, none⟩) 0 c) []) := World.ownsRow_made (base := w.heap.size) (e := 52) (size := 3) w.drew Z c (Nat.le_refl _) hcm hZs
    have HB : Hid (Below w.heap.size w (w.drew.alloc (.cells Z 52))) := (Below.refl _ w).drew.alloc (Nat.le_refl _) _
    have hsl : (0 : Int) ≤ (c : Int) := by omega
    clear hi hz0 hz1 hz2 hZs hcm
    go_enter Tryz.func81, Tryz.ntmps81
    go_wp2_with (at_builtin; refine Lib.wpList_append_run _ rfl _ _ _ _ rfl _ _ rfl rfl _ _ happ ?_)
    go_ret
    exact ⟨_, rfl, HO.out, HB.out⟩
theorem con_end {w wr w1 : World} {B nx ny : Nat} {v v' : Value} {x y : List Rg.Ep} (hx : x.length = nx) (hy : y.length = ny) (hO : OwnE wr B v x) (hB : Below B w wr) (hown : w1.ownsRow B 52 3 v' (nx + ny) (fl3 x ++ fl3 y)) (hgrow : wr.grownBy w1 v.ownBlock) (hb : B ≤ wr.heap.size) :
    OwnE w1 B v' (x ++ y) ∧ Below B w w1 := by
  subst hx hy
  exact OwnE.join hb hO hB hown hgrow
set_option maxRecDepth 100000 in
set_option maxHeartbeats 2000000 in
theorem concat_any (l1 l2 : List Rg.Ep) (a1 a2 : Option Addr) (n1 n2 c1 c2 b : Nat) (w : World) (hl1 : l1.length = n1) (hl2 : l2.length = n2) (h1 : n1 ≤ 8) (h2 : n2 ≤ 8) (r1 : Row3 w a1 l1) (r2 : Row3 w a2 l2)
    (z1 : a1 = none → n1 = 0 ∧ c1 = 0) (z2 : a2 = none → n2 = 0 ∧ c2 = 0) (hb : b < w.heap.size) (k1 : w.cell? ⟨b, 0, none⟩ = some (.slice a1 n1 c1)) (k2 : w.cell? ⟨b, 1, none⟩ = some (.slice a2 n2 c2)) :
    Calls Tryz.prog 65 #[.slice (some ⟨b, 0, none⟩) 2 2] w fun e w' => ∃ v, e = .returned v ∧ OwnE w' w.heap.size v (l1 ++ l2) ∧ Below w.heap.size w w' := by
  obtain ⟨i0, hi, hz0, hz1', hz2⟩ := info_ep
  have HI : Hid (Tryz.prog.info? 52 = some i0 ∧ i0.zero = some (.agg #[.int .i64 0, .int .u64 0, .int .u64 0]) ∧ i0.size = 3 ∧ i0.bytes = 24) := ⟨hi, hz0, hz1', hz2⟩
  have HL : Hid (l1.length = n1 ∧ l2.length = n2) := ⟨hl1, hl2⟩
  have HR : Hid (Row3 w a1 l1 ∧ Row3 w a2 l2) := ⟨r1, r2⟩
  have HZ : Hid ((a1 = none → n1 = 0 ∧ c1 = 0) ∧ (a2 = none → n2 = 0 ∧ c2 = 0)) := ⟨z1, z2⟩
  have HK : Hid (w.cell? ⟨b, 0, none⟩ = some (.slice a1 n1 c1) ∧ w.cell? ⟨b, 1, none⟩ = some (.slice a2 n2 c2)) := ⟨k1, k2⟩
  clear hi hz0 hz1' hz2 hl1 hl2 r1 r2 z1 z2
  go_enter Tryz.func65, Tryz.ntmps65
  go_wp2
  go_loop [3, 5, 11] (fun s _ i => (s = .int .i64 0 ∧ i = .int .i64 0) ∨ (s = .int .i64 (n1 : Int) ∧ i = .int .i64 1) ∨ (s = .int .i64 ((n1 + n2 : Nat) : Int) ∧ i = .int .i64 2)) (fun _ _ i => 2 - (intOf i).toNat)
  case atStart => exact .inl ⟨rfl, rfl⟩
  case round =>
    rcases hrel with ⟨rfl, rfl⟩ | ⟨rfl, rfl⟩ | ⟨rfl, rfl⟩
    · go_wp2
      go_round
      case rel => exact .inr (.inl ⟨by first | rfl | go_num, by go_num⟩)
      case measure => simp [intOf]
    · go_wp2
      go_round
      case rel => exact .inr (.inr ⟨by first | rfl | go_num, by go_num⟩)
      case measure => simp [intOf]
    · have hg := grow_any (n1 + n2) w (by omega)
      go_wp2_with (go_at_call 81; refine hg.mono ?_; rintro e w2 ⟨v, rfl, ho, hb2⟩)
      have kk1 := (hb2.cell (p := ⟨b, 0, none⟩) hb).trans k1
      have kk2 := (hb2.cell (p := ⟨b, 1, none⟩) hb).trans k2
      have HB2 : Hid (Below w.heap.size w w2) := hb2
      have HO : Hid (OwnE w2 w.heap.size v []) := ho
      clear hb2 ho k1 k2
      go_loopw [6, 8, 27] (fun vv _ iv wr => (vv = v ∧ iv = .int .i64 0 ∧ OwnE wr w.heap.size vv [] ∧ Below w.heap.size w wr) ∨ (iv = .int .i64 1 ∧ OwnE wr w.heap.size vv l1 ∧ Below w.heap.size w wr) ∨ (iv = .int .i64 2 ∧ OwnE wr w.heap.size vv (l1 ++ l2) ∧ Below w.heap.size w wr)) (fun _ _ iv _ => 2 - (intOf iv).toNat)
      case atStart => exact .inl ⟨rfl, rfl, HO.out, HB2.out⟩
      case round =>
        rename_i vq _ _
        clear HO HB2 kk1 kk2
        rcases hrel with ⟨rfl, rfl, hO, hB⟩ | ⟨rfl, hO, hB⟩ | ⟨rfl, hO, hB⟩
        · have ho := hO
          have HB : Hid (Below w.heap.size w wr) := hB
          have kk1 := (hB.cell (p := ⟨b, 0, none⟩) hb).trans HK.out.1
          have kk2 := (hB.cell (p := ⟨b, 1, none⟩) hb).trans HK.out.2
          have RR := (HR.out.1.below hB).news
          have HRR : Hid (_) := RR
          clear RR hB hO
          go_wp2_with (at_builtin; go_loud (refine wpList_append_all _ rfl _ _ 27 rfl w.heap.size 52 i0 _ 3 24 Tryz.underlying27 HI.out.1 HI.out.2.1 HI.out.2.2.1 HI.out.2.2.2 rfl (by omega) _ 0 (fl3 []) rfl (by have := ho; unfold OwnE at this; first | exact this | (rw [HL.out.1] at this; exact this)) a1 n1 c1 (fl3 l1) rfl HZ.out.1 (by rw [fl3_len, HL.out.1]) HRR.out (fl3_one _) (by unfold maxLen; omega) (by omega) HB.out.size ?_; intro v' w3 hown hgrow))
          have Q := con_end (x := []) (y := l1) (by first | rfl | exact HL.out.1) HL.out.1 ho HB.out hown hgrow HB.out.size
          have HQ : Hid (_) := Q
          clear Q hown hgrow ho
          go_wp2
          go_roundw
          case rel => exact .inr (.inl ⟨by go_num, HQ.out.1, HQ.out.2⟩)
          case measure => simp [intOf]
        · have ho := hO
          have HB : Hid (Below w.heap.size w wr) := hB
          have kk1 := (hB.cell (p := ⟨b, 0, none⟩) hb).trans HK.out.1
          have kk2 := (hB.cell (p := ⟨b, 1, none⟩) hb).trans HK.out.2
          have RR := (HR.out.2.below hB).news
          have HRR : Hid (_) := RR
          clear RR hB hO
          go_wp2_with (at_builtin; go_loud (refine wpList_append_all _ rfl _ _ 27 rfl w.heap.size 52 i0 _ 3 24 Tryz.underlying27 HI.out.1 HI.out.2.1 HI.out.2.2.1 HI.out.2.2.2 rfl (by omega) _ n1 (fl3 l1) rfl (by have := ho; unfold OwnE at this; first | exact this | (rw [HL.out.1] at this; exact this)) a2 n2 c2 (fl3 l2) rfl HZ.out.2 (by rw [fl3_len, HL.out.2]) HRR.out (fl3_one _) (by unfold maxLen; omega) (by omega) HB.out.size ?_; intro v' w3 hown hgrow))
          have Q := con_end (x := l1) (y := l2) (by first | rfl | exact HL.out.1) HL.out.2 ho HB.out hown hgrow HB.out.size
          have HQ : Hid (_) := Q
          clear Q hown hgrow ho
          go_wp2
          go_roundw
          case rel => exact .inr (.inr ⟨by go_num, HQ.out.1, HQ.out.2⟩)
          case measure => simp [intOf]
        · have HO : Hid (OwnE wr w.heap.size _ (l1 ++ l2)) := hO
          have HB : Hid (Below w.heap.size w wr) := hB
          clear hO hB
          go_wp2
          go_ret
          exact ⟨_, rfl, HO.out, HB.out⟩
end Go.Proofs.YtandlmnbnjkklaaGreatDoor
namespace Go.Proofs.YtandlmnbnjkklaaGreatDoor
open Go.RowKit

theorem elem_ep : Tryz.prog.elem 27 = 52 := by kernel_rfl
theorem from_ep (b off n cap k : Nat) (h : k + 1 ≤ n) (hc : n ≤ cap) : ∃ o2 : Nat, (n = k + 1 ∨ o2 = off + (k + 1) * 3) ∧ ∀ wx, (Instr.slice 27 (.slice (some ⟨b, off, none⟩) n cap) (some (.int .i64 ((k : Int) + 1))) none none).run Tryz.prog wx = .ok (.slice (some ⟨b, o2, none⟩) (n - (k + 1)) (cap - (k + 1))) wx := by
  have ht : Tryz.prog.underlying 27 = some (.slice (Tryz.prog.elem 27)) := by kernel_rfl
  by_cases e : cap = k + 1
  · refine ⟨off, .inl (by omega), fun wx => ?_⟩
    rw [run_slice_l wx _ _ n cap ht .i64 _ (by omega) (by omega), elem_ep, Tryz.sizeOf52]
    simp [sliced, e, Result.andThen, show ((k : Int) + 1).toNat = k + 1 by omega]
  · refine ⟨off + (k + 1) * 3, .inr rfl, fun wx => ?_⟩
    rw [run_slice_l wx _ _ n cap ht .i64 _ (by omega) (by omega), elem_ep, Tryz.sizeOf52]
    simp [sliced, e, Result.andThen, show ((k : Int) + 1).toNat = k + 1 by omega, Addr.add]
theorem upto_ep (b off n cap k : Nat) (h : k ≤ cap) (wx : World) : (Instr.slice 27 (.slice (some ⟨b, off, none⟩) n cap) none (some (.int .i64 (k : Int))) none).run Tryz.prog wx = .ok (.slice (some ⟨b, off, none⟩) k cap) wx := by
  have ht : Tryz.prog.underlying 27 = some (.slice (Tryz.prog.elem 27)) := by kernel_rfl
  rw [run_slice_h wx _ _ n cap ht .i64 _ (by omega) (by omega), elem_ep, Tryz.sizeOf52]
  simp [sliced, Result.andThen, Addr.add]
/-- what a drop answers -/
def drpPost (w : World) (l : List Rg.Ep) (no : Int) (e : Ending) (w' : World) : Prop := ∃ v, e = .returned (.tuple #[v, .int .i64 (Rg.drp l no).2]) ∧ OwnE w' w.heap.size v (Rg.drp l no).1 ∧ Below w.heap.size w w'
theorem drpPost.bad {w w' : World} {l : List Rg.Ep} {no c : Int} (h : Rg.drp l no = ([], c)) (hb : Below w.heap.size w w') : drpPost w l no (.returned (.tuple #[.slice none 0 0, .int .i64 c])) w' := ⟨_, by rw [h], by rw [h]; exact OwnE.nil _ _, hb⟩
theorem drpPost.good {w w' : World} {l l' : List Rg.Ep} {no : Int} {v : Value} (h : Rg.drp l no = (l', 0)) (ho : OwnE w' w.heap.size v l') (hb : Below w.heap.size w w') : drpPost w l no (.returned (.tuple #[v, .int .i64 0])) w' := ⟨v, by rw [h], by rw [h]; exact ho, hb⟩
theorem drp_take {w : World} {b off k : Nat} {l : List Rg.Ep} (h : Row3 w (some ⟨b, off, none⟩) l) (hk : k ≤ l.length) : Row3 w (some ⟨b, off, none⟩) (l.take k) := by
  have := h.part 0 k (by omega)
  simpa using this
theorem drp_drop {w : World} {b off o2 k : Nat} {l : List Rg.Ep} (h : Row3 w (some ⟨b, off, none⟩) l) (ho : l.length = k + 1 ∨ o2 = off + (k + 1) * 3) : Row3 w (some ⟨b, o2, none⟩) (l.drop (k + 1)) := by
  by_cases c : l.length ≤ k + 1
  · exact .inl (List.drop_eq_nil_of_le c)
  · obtain rfl : o2 = off + (k + 1) * 3 := by omega
    have := h.part (k + 1) (l.length - (k + 1)) (by omega)
    rw [List.take_of_length_le (by simp)] at this
    exact this
theorem drp_end {w w2 W w4 : World} {v : Value} {l : List Rg.Ep} (h1 : Below w.heap.size w w2) (h2 : Below w2.heap.size w2 W) (hO : OwnE w4 W.heap.size v l) (hb : Below W.heap.size W w4) : OwnE w4 w.heap.size v l ∧ Below w.heap.size w w4 := by
  have hW := below_on h1 (Nat.le_refl _) h2
  exact ⟨hO.weak hW.size, below_on hW (Nat.le_refl _) hb⟩
set_option maxRecDepth 100000 in
set_option maxHeartbeats 2000000 in
theorem drop_any (l : List Rg.Ep) (a : Option Addr) (cap : Nat) (no : Int) (w : World) (hl : l.length ≤ maxLen) (hcap : l.length ≤ cap) (hr : Row3 w a l) :
    Calls Tryz.prog 43 #[.slice a l.length cap, .int .i64 no] w (drpPost w l no) := by
  have HR : Hid (Row3 w a l) := hr
  have hck := check_any l a cap w hl hr
  have hpl := fun W (hb : Below w.heap.size w W) => place_any l a cap no W hl (hr.below hb)
  clear hr
  by_cases hc : Rg.chk l = 0
  · have HCZ : Hid (Rg.chk l = 0) := hc
    have h8 : l.length ≤ 8 := ((Rg.chk_iff l).1 hc).1
    rw [hc] at hck
    clear hc hl
    cases hf : Rg.find no l with
    | none =>
      have HE : Hid (Rg.drp l no = ([], 5)) := by show _ = _; unfold Rg.drp; rw [if_neg (by rw [HCZ.out]; omega), hf]
      have hpl' := fun W hb => Rg.plc_none hf ▸ hpl W hb
      clear hpl
      go_enter Tryz.func43, Tryz.ntmps43
      go_wp2_with fail
      refine hck.mono ?_; rintro e w1 ⟨rfl, hb1⟩
      have HB1 : Hid (Below w.heap.size w w1) := hb1
      clear hb1 hck
      go_wp2_with fail
      refine (hpl' _ HB1.out).mono ?_; rintro e w2 ⟨rfl, hb2⟩
      have HB2 : Hid (Below w.heap.size w w2) := below_on HB1.out (Nat.le_refl _) hb2
      clear hb2 hpl'
      go_wp2
      go_ret2
      exact drpPost.bad HE.out HB2.out
    | some p =>
      obtain ⟨k, K⟩ := p
      obtain ⟨hk, hx, -⟩ := Rg.find_some l no k K hf
      have HE : Hid (Rg.drp l no = (l.take k ++ l.drop (k + 1), 0)) := by show _ = _; unfold Rg.drp; rw [if_neg (by rw [HCZ.out]; omega), hf]
      have hpl' := fun W hb => Rg.plc_some hf ▸ hpl W hb
      obtain ⟨b, off, -, -, -, rfl, hbs, -, -, -, -⟩ := HR.out.at hk
      obtain ⟨n, hLn⟩ : ∃ n, l.length = n := ⟨_, rfl⟩
      have HLn : Hid (l.length = n) := hLn
      rw [hLn] at hck h8 hk hcap hpl' ⊢
      clear hpl hf hx hLn
      have u1 := upto_ep b off n cap k (by omega)
      obtain ⟨o2, ho2, u2⟩ := from_ep b off n cap k (by omega) hcap
      have HO2 : Hid (n = k + 1 ∨ o2 = off + (k + 1) * 3) := ho2
      have hk0 : (0 : Int) ≤ (k : Int) := by omega
      have hwk : IntKind.i64.wrap ((k : Int) + 1) = (k : Int) + 1 := by rw [IntKind.wrap_i64]; omega
      clear ho2
      go_enter Tryz.func43, Tryz.ntmps43
      go_wp2_with fail
      refine hck.mono ?_; rintro e w1 ⟨rfl, hb1⟩
      have HB1 : Hid (Below w.heap.size w w1) := hb1
      clear hb1 hck
      go_wp2_with fail
      refine (hpl' _ HB1.out).mono ?_; rintro e w2 ⟨rfl, hb2⟩
      have HB2 : Hid (Below w.heap.size w w2) := below_on HB1.out (Nat.le_refl _) hb2
      clear hb2 hpl'
      go_wp2
      have HR2 : Hid (Row3 w2 (some ⟨b, off, none⟩) l) := HR.out.below HB2.out
      have HT : Hid (Row3 w2 (some ⟨b, off, none⟩) (l.take k)) := drp_take HR2.out (by rw [HLn.out]; omega)
      have HD : Hid (Row3 w2 (some ⟨b, o2, none⟩) (l.drop (k + 1))) := drp_drop HR2.out (by rw [HLn.out]; exact HO2.out)
      go_region_held3 (fun w' => True) (trivial)
        ((go_at_call 65; refine (concat_any (l.take k) (l.drop (k + 1)) (some ⟨b, off, none⟩) (some ⟨b, o2, none⟩) k (n - (k + 1)) cap (cap - (k + 1)) w2.heap.size _ (by rw [List.length_take, HLn.out]; omega) (by rw [List.length_drop, HLn.out]) (by omega) (by omega) (HT.out.below (by first | exact below_box w2 _ | exact (below_box w2 _).drew)) (HD.out.below (by first | exact below_box w2 _ | exact (below_box w2 _).drew)) (by simp) (by simp) (by simp) (by simp) (by simp)).mono ?_; rintro e w4 ⟨v, rfl, hO, hb4⟩))
      all_goals
        have HQ : Hid (OwnE w4 w.heap.size v (l.take k ++ l.drop (k + 1)) ∧ Below w.heap.size w w4) := drp_end HB2.out (by first | exact below_box w2 _ | exact (below_box w2 _).drew) hO hb4
        clear hO hb4
        go_wp2
        go_ret2
        exact drpPost.good HE.out HQ.out.1 HQ.out.2
  · have HE : Hid (Rg.drp l no = ([], Rg.chk l)) := by show _ = _; unfold Rg.drp; rw [if_pos hc]
    clear hpl
    generalize Rg.chk l = C at *
    have hc' : (C != 0) = true := by simpa using hc
    go_enter Tryz.func43, Tryz.ntmps43
    go_wp2_with fail
    refine hck.mono ?_; rintro e w1 ⟨rfl, hb1⟩
    have HB1 : Hid (Below w.heap.size w w1) := hb1
    clear hb1 hck
    go_wp2
    go_ret2
    exact drpPost.bad HE.out HB1.out
end Go.Proofs.YtandlmnbnjkklaaGreatDoor
