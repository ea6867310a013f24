/- The walks of package spell: the numbers of a text's letters; what letters spell; the fair spelling. -/
import Derived.Test.YthfdaaccopgbeaaSIdx
import Derived.Laws.BytesArg
namespace Go.Proofs.Ythfdaaccopgbeaa
open Go.RowKit

theorem OwnB.iter {w : World} {t : TypeId} {B : Nat} {v : Value} {xs : List Nat} (h : OwnB w t B v xs) {k : Nat} {s : ByteArray} {pos : Nat} (hk : w.heap[k]? = some (.stringIter s pos)) (pos' : Nat) : OwnB (w.iterAt k s pos') t B v xs := by
  obtain ⟨h1, h2⟩ := h
  refine ⟨h1, ?_⟩
  rcases h2 with h2 | ⟨g, cap, cur, rfl, b, c, d⟩
  · exact .inl h2
  · refine .inr ⟨g, cap, cur, rfl, b, (Lib.iterAt_other w k g s pos' ?_).trans c, d⟩
    intro e1
    rw [e1, hk] at c
    cases c
theorem OwnB.keep2 {w wr w1 : World} {t : TypeId} {B B' : Nat} {v v' : Value} {xs : List Nat} {x : Nat} {o : Obj} (hBB : B ≤ B') (hB : B ≤ wr.heap.size) (hown : OwnB wr t B' v xs) (hnx : Below B w wr)
    (hown' : w1.ownsRow B' t 1 v' (xs.length + 1) (cbs xs ++ [.int .u8 (x : Int)])) (hgrow : (wr.alloc o).grownBy w1 v.ownBlock) :
    OwnB w1 t B' v' (xs ++ [x]) ∧ Below B w w1 ∧ ∀ k ob, k < B' → wr.heap[k]? = some ob → w1.heap[k]? = some ob := by
  refine ⟨by unfold OwnB; rw [cbs_append, List.length_append]; exact hown', (hnx.alloc hB o).grown hgrow (by simp; omega) (fun j hj => by have := (World.ownsRow.lt hown j hj).1; omega), fun k ob hk hob => ?_⟩
  have hlt : k < wr.heap.size := (Array.getElem?_eq_some_iff.1 hob).1
  rw [hgrow.block k (by simp; omega) (fun e => by have := (World.ownsRow.lt hown k e.symm).1; omega), Lib.alloc_old wr _ k hlt]
  exact hob
theorem next_low (wr : World) (k : Nat) (s : ByteArray) (pos : Nat) (hk : wr.heap[k]? = some (.stringIter s pos)) (h : pos < s.size) (ha : (s[pos]'h).toNat < 128) :
    ∃ W1, (∀ ty, (Instr.next (.pointer (some ⟨k, 0, none⟩)) true ty).run Try.prog wr = .ok (.tuple #[.bool true, .int .i64 (pos : Int), .int .i32 (((s[pos]'h).toNat : Nat) : Int)]) W1) ∧ W1.heap[k]? = some (.stringIter s (pos + 1)) ∧ W1.heap.size = wr.heap.size ∧ (∀ B a, B ≤ k → Below B a wr → Below B a W1) ∧ ∀ t B v xs, OwnB wr t B v xs → OwnB W1 t B v xs :=
  ⟨wr.iterAt k s (pos + 1), fun ty => Lib.run_next_ascii_at wr k s pos ty hk h ha, Lib.iterAt_heap wr k s pos _ hk, Lib.iterAt_size _ _ _ _, fun _ _ hB hb => Lib.below_iterAt hb hB s _, fun _ _ _ _ ho => ho.iter hk _⟩
theorem next_high (wr : World) (k : Nat) (s : ByteArray) (pos : Nat) (hk : wr.heap[k]? = some (.stringIter s pos)) (h : pos < s.size) (ha : 128 ≤ (s[pos]'h).toNat) :
    ∃ W1 r, (∀ ty, (Instr.next (.pointer (some ⟨k, 0, none⟩)) true ty).run Try.prog wr = .ok (.tuple #[.bool true, .int .i64 (pos : Int), .int .i32 ((r : Nat) : Int)]) W1) ∧ 128 ≤ r ∧ r ≤ 2147483647 ∧ (∀ B a, B ≤ k → Below B a wr → Below B a W1) :=
  ⟨wr.iterAt k s (pos + (Utf8.decode s pos).2), (Utf8.decode s pos).1, fun ty => Lib.run_next_any_at wr k s pos ty hk h, (decode_high s pos h ha).1, decode_le s pos, fun _ _ hB hb => Lib.below_iterAt hb hB s _⟩
theorem next_end (wr : World) (k : Nat) (s : ByteArray) (pos : Nat) (hk : wr.heap[k]? = some (.stringIter s pos)) (h : ¬ pos < s.size) :
    ∀ ty, (Instr.next (.pointer (some ⟨k, 0, none⟩)) true ty).run Try.prog wr = .ok (.tuple #[.bool false]) wr :=
  fun ty => Lib.run_next_end_at wr k s pos ty hk h
namespace Sp
theorem keep_snoc (l : List UInt8) (c : UInt8) : keep (l ++ [c]) = keep l ++ (if lt c < 32 then [lt c] else []) := by
  unfold keep
  rw [List.map_append, List.filter_append]
  congr 1
  simp only [List.map_cons, List.map_nil, List.filter_cons, List.filter_nil]
  by_cases h : lt c < 32 <;> simp [h]
theorem bad_snoc (l : List UInt8) (c : UInt8) : bad (l ++ [c]) = (bad l || (lt c == 33)) := by
  unfold bad
  rw [List.any_append]
  simp
theorem bad_take (l : List UInt8) (k : Nat) (h : bad (l.take k) = true) : bad l = true := by
  unfold bad at *
  rw [← List.take_append_drop k l, List.any_append, h]
  rfl
def rd (s : ByteArray) : ByteArray := ⟨(rdl s.data.toList).toArray⟩
def rc (s : ByteArray) : Int := rdc s.data.toList
end Sp
theorem take_snoc (s : ByteArray) (k : Nat) (h : k < s.size) : s.data.toList.take (k + 1) = s.data.toList.take k ++ [s[k]] := by
  rw [List.take_succ_eq_append_getElem (by simpa using h)]; rfl
theorem idx_of (c : UInt8) (h : c.toNat < 128) (w : World) :
    Calls Try.prog 26 #[.string letB, .int .i32 (((Sp.fair c).toNat : Nat) : Int)] w fun e w' => e = .returned (.int .i64 (Lib.indexByte letB.data.toList (Sp.fair c))) ∧ w' = w := by
  have e := idx_low letB (Sp.fair c).toNat (fair_lt c h) w
  simpa using e
/-- the answer of fivesOf -/
def FvIs (s : ByteArray) (B : Nat) (w : World) (v : Value) (c : Int) : Prop :=
  (Sp.bad s.data.toList = true ∧ v = .slice none 0 0 ∧ c = 1) ∨ (Sp.bad s.data.toList = false ∧ OwnB w 34 B v (Sp.keep s.data.toList) ∧ c = 0)
set_option maxRecDepth 100000 in
set_option maxHeartbeats 4000000 in
theorem fives_any (s : ByteArray) (w : World) (hs : s.size ≤ 140737488351240) :
    Calls Try.prog 18 #[.string s] w fun e w' => ∃ v c, e = .returned (.tuple #[v, .int .i64 c]) ∧ FvIs s w.heap.size w' v c ∧ Below w.heap.size w w' := by
  obtain ⟨i0, hi, hz0, hz1, hz2⟩ := info_parts infoF
  have HI : Hid (Try.prog.info? 34 = some i0 ∧ i0.zero = some (.int .u8 0) ∧ i0.size = 1 ∧ i0.bytes = 1) := ⟨hi, hz0, hz1, hz2⟩
  clear hi hz0 hz1 hz2
  go_enter Try.func18, Try.ntmps18
  go_wp2
  go_loopw [4, 6, 7] (fun ov _ _ wr => ∃ pos : Nat, pos ≤ s.size ∧ Hid (Sp.bad (s.data.toList.take pos) = false) ∧ Hid (wr.heap[w.heap.size]? = some (.stringIter s pos)) ∧ Hid (OwnB wr 34 (w.heap.size + 1) ov (Sp.keep (s.data.toList.take pos))) ∧ Hid (Below w.heap.size w wr)) (fun _ _ _ wr => s.size - wr.iterPos w.heap.size)
  case atStart => exact ⟨0, Nat.zero_le _, (rfl : Sp.bad (s.data.toList.take 0) = false), World.iter_heap w s 0, OwnB.nil _ _ _, (Below.refl _ w).alloc (Nat.le_refl _) _⟩
  case round =>
    obtain ⟨pos, hpos, HBad, HIt, HO, HX⟩ := hrel
    have HM : Hid (s.size - wr.iterPos w.heap.size = s.size - pos) := by show _ = _; unfold World.iterPos; rw [HIt.out]
    by_cases hp : pos < s.size
    · have HT := take_snoc s pos hp
      have HK := Sp.keep_snoc (s.data.toList.take pos) (s[pos]'hp)
      have HBd := Sp.bad_snoc (s.data.toList.take pos) (s[pos]'hp)
      rw [← HT] at HK HBd
      rw [HBad.out, Bool.false_or] at HBd
      clear HT
      by_cases h128 : (s[pos]'hp).toNat < 128
      · obtain ⟨W1, hnx, hit, hsz1, hbel, hown⟩ := next_low wr w.heap.size s pos HIt.out hp h128
        generalize s[pos]'hp = c at *
        have HO1 : Hid (OwnB W1 34 (w.heap.size + 1) u4 (Sp.keep (s.data.toList.take pos))) := hown _ _ _ _ HO.out
        have HX1 : Hid (Below w.heap.size w W1) := hbel _ _ (Nat.le_refl _) HX.out
        have HIt1 : Hid (W1.heap[w.heap.size]? = some (.stringIter s (pos + 1))) := hit
        have hW1 : w.heap.size + 1 ≤ W1.heap.size := (Array.getElem?_eq_some_iff.1 hit).1
        clear hown hbel hit hsz1 HO HX HIt
        by_cases h45 : c.toNat = 45
        · have hl : Sp.lt c = 32 := lt_45 c h45
          rw [hl] at HK HBd
          rw [if_neg (by decide), List.append_nil] at HK
          rw [← HK] at HO1
          have HB2 : Hid (Sp.bad (s.data.toList.take (pos + 1)) = false) := HBd
          clear HK HBd HBad
          rw [h45] at hnx
          go_wp2
          go_roundw
          case rel => exact ⟨pos + 1, by omega, HB2, HIt1, HO1, HX1⟩
          case measure => rw [HM.out]; unfold World.iterPos; rw [HIt1.out]; show s.size - (pos + 1) < _; omega
        · have h45z : ¬ ((c.toNat : Nat) : Int) = 45 := by omega
          have hv := idx_val c h45
          have hcall := idx_of c h128
          rw [hv] at hcall
          by_cases h32 : Sp.lt c < 32
          · rw [if_pos h32] at HK hcall
            have HB2 : Hid (Sp.bad (s.data.toList.take (pos + 1)) = false) := by show _ = _; rw [HBd]; simp; omega
            have hkl : (Sp.keep (s.data.toList.take pos)).length ≤ s.size := Nat.le_trans (Sp.keep_length _) (by rw [List.length_take]; omega)
            have HK2 : Hid (Sp.keep (s.data.toList.take (pos + 1)) = Sp.keep (s.data.toList.take pos) ++ [Sp.lt c]) := HK
            have HF := fair_low c h128
            have HFa : Hid (∀ wx, Calls Try.prog 27 #[.int .i32 ((c.toNat : Nat) : Int)] wx fun e w' => e = .returned (.int .i32 (((Sp.fair c).toNat : Nat) : Int)) ∧ w' = wx) := HF
            have HCa : Hid (∀ wx, Calls Try.prog 26 #[.string letB, .int .i32 (((Sp.fair c).toNat : Nat) : Int)] wx fun e w' => e = .returned (.int .i64 ((Sp.lt c : Nat) : Int)) ∧ w' = wx) := hcall
            clear HK HBd HBad hv hcall HF
            generalize Sp.lt c = n at *
            generalize Sp.keep (s.data.toList.take pos) = ks at *
            have hn0 : ¬ ((n : Nat) : Int) < 0 := by omega
            have q1 : ((n : Nat) : Int) % 256 = (n : Int) := by omega
            have hsw : w.heap.size ≤ W1.heap.size := by omega
            go_wp2_with (first
              | (go_at_call 27; refine (HFa.out _).mono ?_; rintro e w1 ⟨rfl, hw1⟩; rw [hw1]; clear hw1)
              | (go_at_call 26; refine (HCa.out _).mono ?_; rintro e w1 ⟨rfl, hw1⟩; rw [hw1]; clear hw1)
              | (at_builtin; refine wpList_append_own _ rfl (.tmp 20) (.tmp 23) 30 rfl (w.heap.size + 1) 34 i0 (.int .u8 0) 1 1 Try.underlying30 HI.out.1 HI.out.2.1 HI.out.2.2.1 HI.out.2.2.2 rfl (by decide) _ _ _ rfl (World.ownsRow.alloc HO1.out _) ⟨W1.heap.size, 0, none⟩ 1 1 [.int .u8 (n : Int)] rfl rfl (cellB_new _ _ _) (oneB _) (by unfold maxLen; omega) (by omega) (by first | omega | (simp; omega)) ?_; intro v1 w1 own1 grow1 _))
            obtain ⟨ho, hb, hkeep⟩ := OwnB.keep2 (Nat.le_succ _) hsw HO1.out HX1.out own1 grow1
            have HIt2 : Hid (w1.heap[w.heap.size]? = some (.stringIter s (pos + 1))) := hkeep _ _ (by omega) HIt1.out
            have HO2 : Hid (OwnB w1 34 (w.heap.size + 1) v1 (ks ++ [n])) := ho
            have HX2 : Hid (Below w.heap.size w w1) := hb
            clear ho hb hkeep own1 grow1
            go_wp2
            go_roundw
            case rel => exact ⟨pos + 1, by omega, HB2, HIt2, by rw [HK2.out]; exact HO2, HX2⟩
            case measure => rw [HM.out]; unfold World.iterPos; rw [HIt2.out]; show s.size - (pos + 1) < _; omega
          · rw [if_neg h32] at hcall
            have h33 : Sp.lt c = 33 := by rcases lt_or c with h | h | h <;> omega
            rw [h33] at HBd
            have HB2 : Hid (Sp.bad s.data.toList = true) := Sp.bad_take _ _ HBd
            have HF := fair_low c h128
            have HFa : Hid (∀ wx, Calls Try.prog 27 #[.int .i32 ((c.toNat : Nat) : Int)] wx fun e w' => e = .returned (.int .i32 (((Sp.fair c).toNat : Nat) : Int)) ∧ w' = wx) := HF
            have HCa : Hid (∀ wx, Calls Try.prog 26 #[.string letB, .int .i32 (((Sp.fair c).toNat : Nat) : Int)] wx fun e w' => e = .returned (.int .i64 (-1)) ∧ w' = wx) := hcall
            clear HK HBd HBad hv hcall HF h33 h32
            go_wp2_with (first
              | (go_at_call 27; refine (HFa.out _).mono ?_; rintro e w1 ⟨rfl, hw1⟩; rw [hw1]; clear hw1)
              | (go_at_call 26; refine (HCa.out _).mono ?_; rintro e w1 ⟨rfl, hw1⟩; rw [hw1]; clear hw1))
            go_ret2
            exact ⟨_, _, rfl, Or.inl ⟨HB2.out, rfl, rfl⟩, HX1.out⟩
      · have h128' : 128 ≤ (s[pos]'hp).toNat := by omega
        obtain ⟨W1, r, hnx, hr1, hr2, hbel⟩ := next_high wr w.heap.size s pos HIt.out hp h128'
        rw [lt_high _ h128'] at HBd
        have HB2 : Hid (Sp.bad s.data.toList = true) := Sp.bad_take _ _ HBd
        have HX1 : Hid (Below w.heap.size w W1) := hbel _ _ (Nat.le_refl _) HX.out
        have hw0 : w.heap.size ≤ W1.heap.size := HX1.out.size
        clear hbel HK HBd HBad h128 h128' HIt HO HX
        have h45z : ¬ ((r : Nat) : Int) = 45 := by omega
        have HFa : Hid (∀ wx, Calls Try.prog 27 #[.int .i32 ((r : Nat) : Int)] wx fun e w' => e = .returned (.int .i32 ((r : Nat) : Int)) ∧ w' = wx) := fair_high r hr1
        have HCa : Hid (∀ wx : World, Calls Try.prog 26 #[.string letB, .int .i32 ((r : Nat) : Int)] wx fun e w' => e = .returned (.int .i64 (-1)) ∧ Below wx.heap.size wx w') := fun wx => idx_high letB let_ascii (by decide) (by decide) r hr1 hr2 wx
        go_wp2_with (first
          | (go_at_call 27; refine (HFa.out _).mono ?_; rintro e w1 ⟨rfl, hw1⟩; rw [hw1]; clear hw1)
          | (go_at_call 26; refine (HCa.out _).mono ?_; rintro e w1 ⟨rfl, hb1⟩))
        go_ret2
        exact ⟨_, _, rfl, Or.inl ⟨HB2.out, rfl, rfl⟩, HX1.out.trans (hb1.mono hw0)⟩
    · have hnx := next_end wr w.heap.size s pos HIt.out hp
      have HE : Hid (s.data.toList.take pos = s.data.toList) := by show _ = _; apply List.take_of_length_le; rw [list_len]; omega
      rw [HE.out] at HO HBad
      clear HIt HM
      go_wp2
      go_ret2
      exact ⟨_, _, rfl, Or.inr ⟨HBad.out, HO.out.weak (Nat.le_succ _), rfl⟩, HX.out⟩
end Go.Proofs.Ythfdaaccopgbeaa
