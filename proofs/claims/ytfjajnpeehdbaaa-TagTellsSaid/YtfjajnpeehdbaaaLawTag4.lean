/- The walk of TagTells: it answers true, whatever it is handed. -/
import Derived.Test.YtfjajnpeehdbaaaLawTag1
namespace Go.Proofs.Ytfjajnpeehdbaaa
open Go.RowKit Go.BigFrame Go.Sort

/-- what lies there while the law asks: the four words, the key -/
structure TT (w : World) (v : Tg.V) (A B : Tg.W) (W : World) : Prop where
  own : Own4 W w.heap.size v
  lt : w.heap.size + 1 < W.heap.size
  k0 : W.cell? ⟨w.heap.size + 1, 0, none⟩ = some (.int .u64 (wd A))
  k1 : W.cell? ⟨w.heap.size + 1, 1, none⟩ = some (.int .u64 (wd B))
  below : Below w.heap.size w W
theorem TT.on {w W W' : World} {v : Tg.V} {A B : Tg.W} (h : TT w v A B W) (hb : Below W.heap.size W W') : TT w v A B W' :=
  ⟨h.own.below hb, Nat.lt_of_lt_of_le h.lt hb.size, (hb.cell (p := ⟨w.heap.size + 1, 0, none⟩) h.lt).trans h.k0, (hb.cell (p := ⟨w.heap.size + 1, 1, none⟩) h.lt).trans h.k1, below_on h.below (Nat.le_refl _) hb⟩
theorem TT.S {w W : World} {v : Tg.V} {A B : Tg.W} (h : Hid (TT w v A B W)) : W.cell? ⟨w.heap.size, 0, none⟩ = some (.int .u64 (wd v.1)) ∧ W.cell? ⟨w.heap.size, 1, none⟩ = some (.int .u64 (wd v.2.1)) ∧ W.cell? ⟨w.heap.size, 2, none⟩ = some (.int .u64 (wd v.2.2.1)) ∧ W.cell? ⟨w.heap.size, 3, none⟩ = some (.int .u64 (wd v.2.2.2)) ∧ W.cell? ⟨w.heap.size + 1, 0, none⟩ = some (.int .u64 (wd A)) ∧ W.cell? ⟨w.heap.size + 1, 1, none⟩ = some (.int .u64 (wd B)) ∧ Hid (TT w v A B W) :=
  ⟨h.out.own.cells.1, h.out.own.cells.2.1, h.out.own.cells.2.2.1, h.out.own.cells.2.2.2, h.out.k0, h.out.k1, h⟩
section
variable {w W : World} {v : Tg.V} {A B : Tg.W}
theorem tt_of {f : Nat} {args : Array Value} {x : Value} (h : Hid (TT w v A B W)) (c : Calls Try.prog f args W fun e w' => e = .returned x ∧ Below W.heap.size W w') :
    Calls Try.prog f args W fun e w' => e = .returned x ∧ Hid (TT w v A B w') := c.mono fun _ _ g => ⟨g.1, h.out.on g.2⟩
theorem tt_words (s : ByteArray) (N : Nat) (hN : Hid ((Tg.words s.data.toList).length = N)) (hs : s.size ≤ 140737488351232) (h : Hid (TT w v A B W)) :
    Calls Try.prog 12 #[.string s] W fun e w' => ∃ a cap, e = .returned (.slice a N cap) ∧ Hid (TT w v A B w') ∧ Hid (RowU w' a (Tg.words s.data.toList)) := by
  refine (words_any s W hs).mono ?_
  rintro e w' ⟨a, cap, rfl, hr, hb⟩
  exact ⟨a, cap, by rw [hN.out], h.out.on hb, hr.1⟩
theorem tt_wordsOf (s : ByteArray) (N : Nat) (a : Option Addr) (hN : Hid ((Tg.words s.data.toList).length = N)) (hs : s.size ≤ 140737488351232) (h : Hid (TT w v A B W)) (r : Hid (RowU W a (Tg.words s.data.toList))) :
    Calls Try.prog 13 #[.string s] W fun e w' => ∃ c cap, e = .returned (.slice c N cap) ∧ Hid (TT w v A B w') ∧ Hid (RowU w' a (Tg.words s.data.toList) ∧ RowU w' c (Tg.words s.data.toList)) := by
  refine (wordsOf_any s W hs).mono ?_
  rintro e w' ⟨c, cap, rfl, hr, hb⟩
  exact ⟨c, cap, by rw [hN.out], h.out.on hb, r.out.below hb, hr.1⟩
theorem tt_same (s : ByteArray) (N : Nat) (a c : Option Addr) (ca cc : Nat) (hN : Hid ((Tg.words s.data.toList).length = N)) (hs : s.size ≤ 140737488351232) (h : Hid (TT w v A B W)) (r : Hid (RowU W a (Tg.words s.data.toList) ∧ RowU W c (Tg.words s.data.toList))) :
    Calls Try.prog 11 #[.slice a N ca, .slice c N cc] W fun e w' => e = .returned (.bool true) ∧ Hid (TT w v A B w') := by
  have := sameWords_any (Tg.words s.data.toList) (Tg.words s.data.toList) a c ca cc W (by rw [Tg.words_length, len_list]; unfold maxLen; omega) r.out.1 r.out.2
  rw [hN.out] at this
  exact this.mono fun _ _ g => ⟨g.1.trans (ret_bool (by simp)), h.out.on g.2⟩
end
set_option maxRecDepth 100000 in
set_option maxHeartbeats 4000000 in
theorem tagTells_any (v : Tg.V) (m A B : Tg.W) (s : ByteArray) (w : World) (hs : s.size ≤ 140737488351232) :
    Calls Try.prog 3 #[v4 v, .int .u64 (wd m), .agg #[.int .u64 (wd A), .int .u64 (wd B)], .string s] w fun e w' => e = .returned (.bool true) ∧ Below w.heap.size w w' := by
  have heq : ∀ (u : Tg.V) (W : World), (Op.equalIn 10000 23 (v4 u) (v4 u)).run Try.prog W = .ok true W := fun u W => by rw [eqV]; simp
  have T0 : Hid (TT w v A B ((w.alloc (.cells #[.int .u64 (wd v.1), .int .u64 (wd v.2.1), .int .u64 (wd v.2.2.1), .int .u64 (wd v.2.2.2)] 23)).alloc (.cells #[.int .u64 (wd A), .int .u64 (wd B)] 25)).drew) := by
    refine ⟨((Own4.new w _ _ _ _).alloc _).below (Below.refl _ _).drew, by simp, by simp, by simp, ((below_box w _).alloc (by simp) _).drew⟩
  obtain ⟨N, HN⟩ : ∃ N, Hid ((Tg.words s.data.toList).length = N) := ⟨_, rfl⟩
  go_enter Try.func3, Try.ntmps3
  go_upto_region 1 with fail
  go_region_held3 (fun w' => w'.cell? ⟨w.heap.size, 0, none⟩ = some (.int .u64 (wd v.1)) ∧ w'.cell? ⟨w.heap.size, 1, none⟩ = some (.int .u64 (wd v.2.1)) ∧ w'.cell? ⟨w.heap.size, 2, none⟩ = some (.int .u64 (wd v.2.2.1)) ∧ w'.cell? ⟨w.heap.size, 3, none⟩ = some (.int .u64 (wd v.2.2.2)) ∧ w'.cell? ⟨w.heap.size + 1, 0, none⟩ = some (.int .u64 (wd A)) ∧ w'.cell? ⟨w.heap.size + 1, 1, none⟩ = some (.int .u64 (wd B)) ∧ Hid (TT w v A B w'))
    (exact TT.S (by assumption))
    (first
      | (go_at_call 8; refine (tt_of (w := w) (v := v) (A := A) (B := B) (by assumption) (gbegun_any _)).mono ?_; rintro e wx ⟨rfl, Tx⟩)
      | (go_at_call 9; refine (tt_of (w := w) (v := v) (A := A) (B := B) (by assumption) (round_v v _)).mono ?_; rintro e wx ⟨rfl, Tx⟩)
      | (go_at_call 10; refine (tt_of (w := w) (v := v) (A := A) (B := B) (by assumption) (roundOf_v v _)).mono ?_; rintro e wx ⟨rfl, Tx⟩)
      | (go_at_call 12; refine (tt_words (w := w) (v := v) (A := A) (B := B) s N HN hs (by assumption)).mono ?_; rintro e wx ⟨a1, c1, rfl, Tx, Rx⟩)
      | (go_at_call 13; refine (tt_wordsOf (w := w) (v := v) (A := A) (B := B) s N _ HN hs (by assumption) (by assumption)).mono ?_; rintro e wx ⟨a2, c2, rfl, Tx, Rx2⟩)
      | (go_at_call 11; refine (tt_same (w := w) (v := v) (A := A) (B := B) s N _ _ _ _ HN hs (by assumption) (by assumption)).mono ?_; rintro e wx ⟨rfl, Tx⟩)
      | (go_at_call 14; refine (tt_of (w := w) (v := v) (A := A) (B := B) (by assumption) (start_any A B _)).mono ?_; rintro e wx ⟨rfl, Tx⟩)
      | (go_at_call 15; refine (tt_of (w := w) (v := v) (A := A) (B := B) (by assumption) (startOf_any A B _)).mono ?_; rintro e wx ⟨rfl, Tx⟩)
      | (go_at_call 16; refine (tt_of (w := w) (v := v) (A := A) (B := B) (by assumption) (take_v v m _)).mono ?_; rintro e wx ⟨rfl, Tx⟩)
      | (go_at_call 17; refine (tt_of (w := w) (v := v) (A := A) (B := B) (by assumption) (takenOf_v v m _)).mono ?_; rintro e wx ⟨rfl, Tx⟩)
      | (go_at_call 18; refine (tt_of (w := w) (v := v) (A := A) (B := B) (by assumption) (finish_v v _)).mono ?_; rintro e wx ⟨rfl, Tx⟩)
      | (go_at_call 19; refine (tt_of (w := w) (v := v) (A := A) (B := B) (by assumption) (finishOf_v v _)).mono ?_; rintro e wx ⟨rfl, Tx⟩)
      | (go_at_call 20; refine (tt_of (w := w) (v := v) (A := A) (B := B) (by assumption) (of_any A B s _ hs)).mono ?_; rintro e wx ⟨rfl, Tx⟩)
      | (go_at_call 21; refine (tt_of (w := w) (v := v) (A := A) (B := B) (by assumption) (tagOf_any A B s _ hs)).mono ?_; rintro e wx ⟨rfl, Tx⟩))
  have Bz : Hid (Below w.heap.size w _) := Tx.out.below
  go_wp2_with fail
  go_ret
  exact ⟨rfl, Bz.out⟩
end Go.Proofs.Ytfjajnpeehdbaaa
