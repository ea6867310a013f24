/- The document's word that turns a posting round. -/
import Derived.Test.YtdebhcdmbijanaaLgW3
import Derived.Test.YtdebhcdmbijanaaOrd
import Derived.Deep.OwnRows
namespace Go.Proofs.Ytdebhcdmbijanaa
open Go.RowKit Go.BigFrame

theorem infoL : ∃ i : TypeInfo, Try.prog.info? 44 = some i ∧ i.zero = some (.agg #[.int .i64 0, .int .i64 0]) ∧ i.size = 2 ∧ i.bytes = 16 := by
  have h := infoLn
  cases hq : Try.prog.info? 44 with
  | none => simp [hq] at h
  | some i => simp [hq] at h; exact ⟨i, rfl, h.1, h.2.1, h.2.2⟩
/-- a block of two cells that may be written -/
def Blk2 (w : World) (b : Nat) (x y : Value) : Prop := b < w.heap.size ∧ w.cell? ⟨b, 0, none⟩ = some x ∧ w.cell? ⟨b, 1, none⟩ = some y ∧ w.frozen? ⟨b, 0, none⟩ = false ∧ w.frozen? ⟨b, 1, none⟩ = false
theorem Blk2.new (w : World) (x y : Value) (t : TypeId) : Blk2 (w.alloc (.cells #[x, y] t)) w.heap.size x y :=
  ⟨by simp, by simp, by simp, by simp, by simp⟩
theorem Blk2.of_block {w w' : World} {b : Nat} {x y : Value} (h : Blk2 w b x y) (hs : w.heap.size ≤ w'.heap.size) (e : w'.heap[b]? = w.heap[b]?) : Blk2 w' b x y :=
  ⟨Nat.lt_of_lt_of_le h.1 hs, (World.cell?_of_block (w := w) (a := ⟨b, 0, none⟩) e).trans h.2.1, (World.cell?_of_block (w := w) (a := ⟨b, 1, none⟩) e).trans h.2.2.1,
    (World.frozen?_of_block (w := w) (a := ⟨b, 0, none⟩) e).trans h.2.2.2.1, (World.frozen?_of_block (w := w) (a := ⟨b, 1, none⟩) e).trans h.2.2.2.2⟩
theorem Blk2.below {w w' : World} {b : Nat} {x y : Value} (h : Blk2 w b x y) (hb : Below w.heap.size w w') : Blk2 w' b x y := h.of_block hb.size (hb.block b h.1)
theorem Blk2.alloc {w : World} {b : Nat} {x y : Value} (h : Blk2 w b x y) (o : Obj) : Blk2 (w.alloc o) b x y := h.below (below_box w o)
theorem Blk2.grown {w w' : World} {b : Nat} {x y : Value} {row : Option Nat} (h : Blk2 w b x y) (hg : w.grownBy w' row) (hr : row ≠ some b) : Blk2 w' b x y := h.of_block hg.size (hg.block b h.1 (fun e => hr e.symm))
theorem Blk2.other {w : World} {b : Nat} {x y : Value} (h : Blk2 w b x y) {p : Addr} (hp : p.block ≠ b) (v : Value) : Blk2 (w.setCell p v) b x y :=
  h.of_block (by rw [Deep.nblk_setCell]; exact Nat.le_refl _) (Deep.blk_setCell_other _ _ _ _ (fun e => hp e.symm))
theorem Blk2.set1 {w : World} {b : Nat} {x y : Value} (h : Blk2 w b x y) (v : Value) : Blk2 (w.setCell ⟨b, 1, none⟩ v) b x v := by
  obtain ⟨h0, h1, h2, h3, h4⟩ := h
  refine ⟨by rw [Deep.nblk_setCell]; exact h0, ?_, ?_, ?_, ?_⟩
  · exact (World.cell?_setCell_other _ _ _ _ (fun e => by cases e)).trans h1
  · exact World.cell?_setCell_same _ _ _ h2
  · rw [World.frozen?_setCell]; exact h3
  · rw [World.frozen?_setCell]; exact h4
theorem OwnL.alloc {w : World} {B : Nat} {v : Value} {xs : List Lg.Ln} (h : OwnL w B v xs) (o : Obj) : OwnL (w.alloc o) B v xs := World.ownsRow.alloc h o
/-- what the turning keeps -/
structure TInv (w : World) (id as' : Int) (la : Option Addr) (lc n : Nat) (wr : World) (v : Value) (xs : List Lg.Ln) : Prop where
  box : Blk2 wr w.heap.size (.int .i64 id) (.slice la n lc)
  res : Blk2 wr (w.heap.size + 1) (.int .i64 0) (.slice none 0 0)
  out : Blk2 wr (w.heap.size + 1 + 1) (.int .i64 as') v
  own : OwnL wr (w.heap.size + 3) v xs
  below : Below w.heap.size w wr
theorem TInv.lt {w : World} {id as' : Int} {la : Option Addr} {lc n : Nat} {wr : World} {v : Value} {xs : List Lg.Ln} (h : TInv w id as' la lc n wr v xs) : w.heap.size + 3 ≤ wr.heap.size := h.out.1
theorem TInv.start (w : World) (id as' : Int) (la : Option Addr) (lc n : Nat) (t1 t2 t3 : TypeId) :
    TInv w id as' la lc n (((w.alloc (.cells #[.int .i64 id, .slice la n lc] t1)).alloc (.cells #[.int .i64 0, .slice none 0 0] t2)).alloc (.cells #[.int .i64 as', .slice none 0 0] t3)) (.slice none 0 0) [] := by
  have h1 := Blk2.new w (.int .i64 id) (.slice la n lc) t1
  have h2 := Blk2.new (w.alloc (.cells #[.int .i64 id, .slice la n lc] t1)) (.int .i64 0) (.slice none 0 0) t2
  have h3 := Blk2.new ((w.alloc (.cells #[.int .i64 id, .slice la n lc] t1)).alloc (.cells #[.int .i64 0, .slice none 0 0] t2)) (.int .i64 as') (.slice none 0 0) t3
  rw [World.size_alloc] at h2
  rw [World.size_alloc, World.size_alloc] at h3
  exact ⟨(h1.alloc _).alloc _, h2.alloc _, h3, OwnL.nil _ _, ((below_box w _).alloc (by simp) _).alloc (by simp; omega) _⟩
/-- behind one round -/
theorem TInv.step {w : World} {id as' : Int} {la : Option Addr} {lc n : Nat} {W X w1 : World} {v v1 : Value} {xs : List Lg.Ln} {x y : Int} (h : TInv w id as' la lc n W v xs) (hX : Below W.heap.size W X)
    (hown : w1.ownsRow (w.heap.size + 3) 44 2 v1 (xs.length + 1) (flatL xs ++ [.int .i64 x, .int .i64 y])) (hgrow : X.grownBy w1 v.ownBlock) :
    TInv w id as' la lc n (w1.setCell ⟨w.heap.size + 1 + 1, 1, none⟩ v1) v1 (xs ++ [(x, y)]) := by
  have hlt := fun j hj => (World.ownsRow.lt h.own j hj).1
  have hbX := below_on h.below (Nat.le_refl _) hX
  have hne : ∀ k, k < w.heap.size + 3 → v.ownBlock ≠ some k := fun k hk e => by have := hlt k e; omega
  have o1 : OwnL w1 (w.heap.size + 3) v1 (xs ++ [(x, y)]) := by unfold OwnL; rw [flatL_append, List.length_append]; exact hown
  refine ⟨?_, ?_, ?_, ?_, ?_⟩
  · exact ((h.box.below hX).grown hgrow (hne _ (by omega))).other (by show _ ≠ _; simp only; omega) _
  · exact ((h.res.below hX).grown hgrow (hne _ (by omega))).other (by show _ ≠ _; simp only; omega) _
  · exact ((h.out.below hX).grown hgrow (hne _ (by omega))).set1 _
  · have hv := World.ownsRow.lt o1
    obtain ⟨k1, k2⟩ := o1
    refine ⟨k1, ?_⟩
    rcases k2 with k2 | ⟨g, cap, cur, rfl, b, c, d⟩
    · exact .inl k2
    · exact .inr ⟨g, cap, cur, rfl, b, by rw [Deep.blk_setCell_other _ _ _ _ (show g ≠ w.heap.size + 1 + 1 by omega)]; exact c, d⟩
  · exact (hbX.grown hgrow hbX.size (fun k hk => by have := hlt k hk; omega)).setCell (show w.heap.size ≤ w.heap.size + 1 + 1 by omega) _
/-- what the round's region keeps -/
theorem TInv.S {w : World} {id as' p q : Int} {b off cap n k : Nat} {W w1 : World} {v : Value} {xs : List Lg.Ln} {row : Option Nat} (h : TInv w id as' (some ⟨b, off, none⟩) cap n W v xs) (hb : b < w.heap.size)
    (c1 : W.cell? ⟨b, off + k * 2, none⟩ = some (.int .i64 p)) (c2 : W.cell? ⟨b, off + k * 2 + 1, none⟩ = some (.int .i64 q)) (hrow : ∀ j, row = some j → w.heap.size + 3 ≤ j) {X : World} (hX : Below W.heap.size W X) (hg : X.grownBy w1 row) :
    w1.cell? ⟨w.heap.size, 1, none⟩ = some (.slice (some ⟨b, off, none⟩) n cap) ∧ w1.cell? ⟨b, off + k * 2, none⟩ = some (.int .i64 p) ∧ w1.cell? ⟨b, off + k * 2 + 1, none⟩ = some (.int .i64 q) ∧
      (w1.cell? ⟨w.heap.size + 1 + 1, 1, none⟩).isSome = true ∧ w1.frozen? ⟨w.heap.size + 1 + 1, 1, none⟩ = false := by
  have hlt := h.lt
  have hne : ∀ k, k < w.heap.size + 3 → row ≠ some k := fun k hk e => by have := hrow k e; omega
  have bx := (h.box.below hX).grown hg (hne _ (by omega))
  have ot := (h.out.below hX).grown hg (hne _ (by omega))
  have eb : w1.heap[b]? = W.heap[b]? := (hg.block b (by have := hX.size; omega) (fun e => hne b (by omega) e.symm)).trans (hX.block b (by omega))
  refine ⟨bx.2.2.1, (World.cell?_of_block (w := W) (a := ⟨b, _, none⟩) eb).trans c1, (World.cell?_of_block (w := W) (a := ⟨b, _, none⟩) eb).trans c2, by rw [ot.2.2.1]; rfl, ot.2.2.2.2⟩
theorem TInv.S3 {w w1 : World} {p q : Int} {b off cap n k : Nat} {u : Value} (hb : b < w.heap.size) (h : w1.cell? ⟨w.heap.size, 1, none⟩ = some (.slice (some ⟨b, off, none⟩) n cap) ∧ w1.cell? ⟨b, off + k * 2, none⟩ = some (.int .i64 p) ∧ w1.cell? ⟨b, off + k * 2 + 1, none⟩ = some (.int .i64 q) ∧
      (w1.cell? ⟨w.heap.size + 1 + 1, 1, none⟩).isSome = true ∧ w1.frozen? ⟨w.heap.size + 1 + 1, 1, none⟩ = false) :
    (w1.setCell ⟨w.heap.size + 1 + 1, 1, none⟩ u).cell? ⟨w.heap.size, 1, none⟩ = some (.slice (some ⟨b, off, none⟩) n cap) ∧ (w1.setCell ⟨w.heap.size + 1 + 1, 1, none⟩ u).cell? ⟨b, off + k * 2, none⟩ = some (.int .i64 p) ∧ (w1.setCell ⟨w.heap.size + 1 + 1, 1, none⟩ u).cell? ⟨b, off + k * 2 + 1, none⟩ = some (.int .i64 q) ∧
      ((w1.setCell ⟨w.heap.size + 1 + 1, 1, none⟩ u).cell? ⟨w.heap.size + 1 + 1, 1, none⟩).isSome = true ∧ (w1.setCell ⟨w.heap.size + 1 + 1, 1, none⟩ u).frozen? ⟨w.heap.size + 1 + 1, 1, none⟩ = false := by
  obtain ⟨h1, h2, h3, h4, h5⟩ := h
  obtain ⟨x, hx⟩ := Option.isSome_iff_exists.1 h4
  refine ⟨?_, ?_, ?_, ?_, ?_⟩
  · rw [World.cell?_setCell_far _ _ _ _ (by show w.heap.size + 1 + 1 ≠ w.heap.size; omega)]; exact h1
  · rw [World.cell?_setCell_far _ _ _ _ (by show w.heap.size + 1 + 1 ≠ b; omega)]; exact h2
  · rw [World.cell?_setCell_far _ _ _ _ (by show w.heap.size + 1 + 1 ≠ b; omega)]; exact h3
  · rw [World.cell?_setCell_same _ _ _ hx]; rfl
  · rw [World.frozen?_setCell]; exact h5
theorem TInv.S2 {w : World} {id as' : Int} {la : Option Addr} {lc n : Nat} {W w1 : World} {v : Value} {xs : List Lg.Ln} {row : Option Nat} (h : TInv w id as' la lc n W v xs)
    (hrow : ∀ j, row = some j → w.heap.size + 3 ≤ j) {X : World} (hX : Below W.heap.size W X) (hg : X.grownBy w1 row) : w1.cell? ⟨w.heap.size + 1 + 1, 1, none⟩ = some v ∧ w1.frozen? ⟨w.heap.size + 1 + 1, 1, none⟩ = false := by
  have ot := (h.out.below hX).grown hg (fun e => by have := hrow _ e; omega)
  exact ⟨ot.2.2.1, ot.2.2.2.2⟩
namespace Lg
theorem neg_take (l : List Ln) (k : Nat) (x : Ln) (h : l[k]? = some x) : neg (l.take (k + 1)) = neg (l.take k) ++ [(x.1, 0 - x.2)] := by
  rw [take_snoc l k x h]; unfold neg; rw [List.map_append]; rfl
theorem neg_len (l : List Ln) : (neg l).length = l.length := by unfold neg; simp
end Lg
/-- a posting turned round -/
def turnPost (w : World) (as' : Int) (ls : List Lg.Ln) (e : Ending) (w' : World) : Prop := ∃ v, e = .returned (.agg #[.int .i64 as', v]) ∧ OwnL w' w.heap.size v (Lg.neg ls) ∧ Below w.heap.size w w'
set_option maxRecDepth 100000 in
set_option maxHeartbeats 4000000 in
theorem turned_any (id as' : Int) (ls : List Lg.Ln) (a : Option Addr) (cap : Nat) (w : World) (h6 : ls.length ≤ 6) (hq : ∀ x ∈ ls, -1099511627776 ≤ x.2 ∧ x.2 ≤ 1099511627776) (hr : RowL w a ls) :
    Calls Try.prog 26 #[.agg #[.int .i64 id, .slice a ls.length cap], .int .i64 as'] w (turnPost w as' ls) := by
  have R : Hid (RowL w a ls) := hr
  have HQ : Hid (∀ x ∈ ls, -1099511627776 ≤ x.2 ∧ x.2 ≤ 1099511627776) := hq
  obtain ⟨n, hn⟩ : ∃ n, ls.length = n := ⟨_, rfl⟩
  have HN : Hid (ls.length = n) := hn
  rw [hn] at h6 ⊢
  obtain ⟨i0, hi0, hi1, hi2, hi3⟩ := infoL
  have HI : Hid (Try.prog.info? 44 = some i0 ∧ i0.zero = some (.agg #[.int .i64 0, .int .i64 0]) ∧ i0.size = 2 ∧ i0.bytes = 16) := ⟨hi0, hi1, hi2, hi3⟩
  have HST : Hid (TInv w id as' a cap n (((w.alloc (.cells #[.int .i64 id, .slice a n cap] 25)).alloc (.cells #[.int .i64 0, .slice none 0 0] 25)).alloc (.cells #[.int .i64 as', .slice none 0 0] 25)) (.slice none 0 0) []) := TInv.start w id as' a cap n _ _ _
  clear hr hq hn hi0 hi1 hi2 hi3
  go_enter Try.func26, Try.ntmps26
  go_wp2
  generalize (((w.alloc (.cells #[.int .i64 id, .slice a n cap] 25)).alloc (.cells #[.int .i64 0, .slice none 0 0] 25)).alloc (.cells #[.int .i64 as', .slice none 0 0] 25)) = W0 at *
  go_loopw [6] (fun iv wr => ∃ (k : Nat) (v : Value), k ≤ n ∧ iv = .int .i64 k ∧ TInv w id as' a cap n wr v (Lg.neg (ls.take k))) (fun iv _ => n - (intOf iv).toNat)
  case atStart => exact ⟨0, _, Nat.zero_le _, rfl, HST.out⟩
  case round =>
    obtain ⟨k, v, hk, rfl, hinv⟩ := hrel
    have HJ : Hid (TInv w id as' a cap n wr v (Lg.neg (ls.take k))) := hinv
    have hsz := hinv.lt
    have b1 := hinv.box.2.2.1
    have o1 := hinv.out.2.2.1
    have o2 := hinv.out.2.2.2.2
    have HBO : Hid (wr.cell? ⟨w.heap.size + 1 + 1, 0, none⟩ = some (.int .i64 as')) := hinv.out.2.1
    clear hinv
    by_cases hlt : k < n
    · have hlt' : (k : Int) < (n : Int) := by omega
      obtain ⟨b, off, p, q, hae, hb, hx, -, -⟩ := R.out.lies (k := k) (by rw [HN.out]; exact hlt)
      subst hae
      obtain ⟨b', off', p', q', e', -, hx', c1, c2⟩ := (R.out.below HJ.out.below).lies (k := k) (by rw [HN.out]; exact hlt)
      obtain ⟨rfl, rfl⟩ : b = b' ∧ off = off' := by simpa using e'
      obtain ⟨rfl, rfl⟩ : p' = p ∧ q' = q := by have := hx'.symm.trans hx; simpa using this
      clear e' hx'
      have hqq := HQ.out (p', q') (List.mem_of_getElem? hx)
      have q1 := hqq.1
      have q2 := hqq.2
      simp only at q1 q2
      have HNG : Hid (_) := Lg.neg_take ls k (p', q') hx
      have HNL : Hid ((Lg.neg (ls.take k)).length = k) := by show _ = _; rw [Lg.neg_len, List.length_take, HN.out]; omega
      generalize Lg.neg (ls.take k) = xs at *
      have hrow : ∀ j, v.ownBlock = some j → w.heap.size + 3 ≤ j := fun j hj => (World.ownsRow.lt HJ.out.own j hj).1
      have HRW : Hid (∀ j, v.ownBlock = some j → w.heap.size + 3 ≤ j) := hrow
      have HC1 : Hid (wr.cell? ⟨b, off + k * 2, none⟩ = some (.int .i64 p') ∧ wr.cell? ⟨b, off + k * 2 + 1, none⟩ = some (.int .i64 q')) := ⟨c1, c2⟩
      have hnb : ¬ (w.heap.size + 1 + 1 = b) := by omega
      have ho1 : (wr.cell? ⟨w.heap.size + 1 + 1, 1, none⟩).isSome = true := by rw [o1]; rfl
      have hw : IntKind.i64.wrap (-q') = -q' := by rw [IntKind.wrap_i64]; omega
      have o3 : (wr.alloc (.cells #[.int .i64 p', .int .i64 (-q')] 44)).cell? ⟨w.heap.size + 1 + 1, 1, none⟩ = some v := (TInv.S2 (row := none) HJ.out (fun j h => by cases h) (below_box wr _) (World.grownBy.refl _ _)).1
      clear hqq hx hrow
      go_wp2
      refine wp_region_noPanic ?_
      refine ord_region (S := fun w' => w'.cell? ⟨w.heap.size, 1, none⟩ = some (.slice (some ⟨b, off, none⟩) n cap) ∧ w'.cell? ⟨b, off + k * 2, none⟩ = some (.int .i64 p') ∧ w'.cell? ⟨b, off + k * 2 + 1, none⟩ = some (.int .i64 q') ∧ (w'.cell? ⟨w.heap.size + 1 + 1, 1, none⟩).isSome = true ∧ w'.frozen? ⟨w.heap.size + 1 + 1, 1, none⟩ = false) (by kernel_rfl) (TInv.S (row := none) HJ.out hb HC1.out.1 HC1.out.2 (fun j h => by cases h) (Below.refl _ wr).drew (World.grownBy.refl _ _)) ?_
      intro hS0
      refine ord_take (i := 0) (d := some 16) (v := ?v0) rfl rfl (by kernel_rfl) (by kernel_rfl) (by kernel_rfl) (fun _ _ _ h => h) (by rfl) ?hy0 (by assumption) ?rest0
      case hy0 => (intro w' hSw; (try dsimp only at hSw); go_simp; try with_reducible rfl)
      case rest0 =>
      simp only [Act.put, List.setIfInBounds_toArray, List.set_cons_zero, List.set_cons_succ]
      refine ord_take (i := 2) (d := some 18) (v := ?v2) rfl rfl (by kernel_rfl) (by kernel_rfl) (by kernel_rfl) (fun _ _ _ h => h) (by rfl) ?hy2 (by assumption) ?rest2
      case hy2 => (intro w' hSw; (try dsimp only at hSw); go_simp; try with_reducible rfl)
      case rest2 =>
      simp only [Act.put, List.setIfInBounds_toArray, List.set_cons_zero, List.set_cons_succ]
      refine ord_take (i := 3) (d := some 19) (v := ?v3) rfl rfl (by kernel_rfl) (by kernel_rfl) (by kernel_rfl) (fun _ _ _ h => h) (by rfl) ?hy3 (by assumption) ?rest3
      case hy3 => (intro w' hSw; (try dsimp only at hSw); go_simp; try with_reducible rfl)
      case rest3 =>
      simp only [Act.put, List.setIfInBounds_toArray, List.set_cons_zero, List.set_cons_succ]
      refine ord_take (i := 4) (d := some 20) (v := ?v4) rfl rfl (by kernel_rfl) (by kernel_rfl) (by kernel_rfl) (fun _ _ _ h => h) (by rfl) ?hy4 (by assumption) ?rest4
      case hy4 => (intro w' hSw; (try dsimp only at hSw); go_simp; try with_reducible rfl)
      case rest4 =>
      simp only [Act.put, List.setIfInBounds_toArray, List.set_cons_zero, List.set_cons_succ]
      refine ord_take (i := 5) (d := some 21) (v := ?v5) rfl rfl (by kernel_rfl) (by kernel_rfl) (by kernel_rfl) (fun _ _ _ h => h) (by rfl) ?hy5 (by assumption) ?rest5
      case hy5 => (intro w' hSw; (try dsimp only at hSw); go_simp; try with_reducible rfl)
      case rest5 =>
      simp only [Act.put, List.setIfInBounds_toArray, List.set_cons_zero, List.set_cons_succ]
      refine ord_take (i := 6) (d := some 22) (v := ?v6) rfl rfl (by kernel_rfl) (by kernel_rfl) (by kernel_rfl) (fun _ _ _ h => h) (by rfl) ?hy6 (by assumption) ?rest6
      case hy6 => (intro w' hSw; (try dsimp only at hSw); go_simp; try with_reducible rfl)
      case rest6 =>
      simp only [Act.put, List.setIfInBounds_toArray, List.set_cons_zero, List.set_cons_succ]
      refine ord_take (i := 7) (d := some 23) (v := ?v7) rfl rfl (by kernel_rfl) (by kernel_rfl) (by kernel_rfl) (fun _ _ _ h => h) (by rfl) ?hy7 (by assumption) ?rest7
      case hy7 => (intro w' hSw; (try dsimp only at hSw); go_simp; try with_reducible rfl)
      case rest7 =>
      simp only [Act.put, List.setIfInBounds_toArray, List.set_cons_zero, List.set_cons_succ]
      refine ord_take (i := 8) (d := some 24) (v := ?v8) rfl rfl (by kernel_rfl) (by kernel_rfl) (by kernel_rfl) (fun _ _ _ h => h) (by rfl) ?hy8 (by assumption) ?rest8
      case hy8 => (intro w' hSw; (try dsimp only at hSw); go_simp; try with_reducible rfl)
      case rest8 =>
      simp only [Act.put, List.setIfInBounds_toArray, List.set_cons_zero, List.set_cons_succ]
      refine ord_take (i := 9) (d := some 25) (v := ?v9) rfl rfl (by kernel_rfl) (by kernel_rfl) (by kernel_rfl) (fun _ _ _ h => h) (by rfl) ?hy9 (by assumption) ?rest9
      case hy9 => (intro w' hSw; (try dsimp only at hSw); go_simp; try with_reducible rfl)
      case rest9 =>
      simp only [Act.put, List.setIfInBounds_toArray, List.set_cons_zero, List.set_cons_succ]
      refine ord_take (i := 10) (d := some 26) (v := ?v10) rfl rfl (by kernel_rfl) (by kernel_rfl) (by kernel_rfl) (fun _ _ _ h => h) (by rfl) ?hy10 (by assumption) ?rest10
      case hy10 => (intro w' hSw; (try dsimp only at hSw); go_simp; try with_reducible rfl)
      case rest10 =>
      simp only [Act.put, List.setIfInBounds_toArray, List.set_cons_zero, List.set_cons_succ]
      refine ord_take (i := 11) (d := some 27) (v := ?v11) rfl rfl (by kernel_rfl) (by kernel_rfl) (by kernel_rfl) (fun _ _ _ h => h) (by rfl) ?hy11 (by assumption) ?rest11
      case hy11 => (intro w' hSw; (try dsimp only at hSw); go_simp; try with_reducible rfl)
      case rest11 =>
      simp only [Act.put, List.setIfInBounds_toArray, List.set_cons_zero, List.set_cons_succ]
      refine ord_take (i := 12) (d := some 28) (v := ?v12) rfl rfl (by kernel_rfl) (by kernel_rfl) (by kernel_rfl) (fun _ _ _ h => h) (by rfl) ?hy12 (by assumption) ?rest12
      case hy12 => (intro w' hSw; (try dsimp only at hSw); go_simp; try with_reducible rfl)
      case rest12 =>
      simp only [Act.put, List.setIfInBounds_toArray, List.set_cons_zero, List.set_cons_succ]
      refine ord_take (i := 13) (d := some 29) (v := ?v13) rfl rfl (by kernel_rfl) (by kernel_rfl) (by kernel_rfl) (fun _ _ _ h => h) (by rfl) ?hy13 (by assumption) ?rest13
      case hy13 => (intro w' hSw; (try dsimp only at hSw); go_simp; try with_reducible rfl)
      case rest13 =>
      simp only [Act.put, List.setIfInBounds_toArray, List.set_cons_zero, List.set_cons_succ]
      refine ord_take (i := 14) (d := some 30) (v := ?v14) rfl rfl (by kernel_rfl) (by kernel_rfl) (by kernel_rfl) (fun _ _ _ h => h) (by rfl) ?hy14 (by assumption) ?rest14
      case hy14 => (intro w' hSw; (try dsimp only at hSw); go_simp; try with_reducible rfl)
      case rest14 =>
      simp only [Act.put, List.setIfInBounds_toArray, List.set_cons_zero, List.set_cons_succ]
      refine ord_take (i := 15) (d := some 31) (v := ?v15) rfl rfl (by kernel_rfl) (by kernel_rfl) (by kernel_rfl) (fun _ _ _ h => h) (by rfl) ?hy15 (by assumption) ?rest15
      case hy15 => (intro w' hSw; (try dsimp only at hSw); go_simp; try with_reducible rfl)
      case rest15 =>
      simp only [Act.put, List.setIfInBounds_toArray, List.set_cons_zero, List.set_cons_succ]
      refine ord_two (i := 1) (j := 16) rfl rfl (by kernel_rfl) (by rfl) (by rfl) ?_ ?_
      · refine ord_value (d := some 17) (v := v) (w' := wr.drew) rfl (by go_simp; try with_reducible rfl) ?_
        refine ⟨hS0, ?_⟩
        (try simp only [Act.put]); (repeat first | simp only [List.setIfInBounds_toArray] | simp only [List.set_cons_zero] | simp only [List.set_cons_succ])
        refine ord_only (i := 16) rfl (by kernel_rfl) (by rfl) ?_
        refine ord_value (d := some 32) (v := .slice (some ⟨wr.heap.size, 0, none⟩) 1 1) (w' := (wr.alloc (.cells #[.int .i64 p', .int .i64 (-q')] 44)).drew) rfl (by go_simp; try with_reducible rfl) ?_
        refine ⟨TInv.S (row := none) HJ.out hb HC1.out.1 HC1.out.2 (fun j h => by cases h) (below_box wr _).drew (World.grownBy.refl _ _), ?_⟩
        (try simp only [Act.put]); (repeat first | simp only [List.setIfInBounds_toArray] | simp only [List.set_cons_zero] | simp only [List.set_cons_succ])
        refine ord_only (i := 17) rfl (by kernel_rfl) (by rfl) ?_
        refine wp_append_lies _ (.tmp 17) (.tmp 32) 23 rfl (w.heap.size + 3) 44 i0 _ 2 16 Try.underlying23 HI.out.1 HI.out.2.1 HI.out.2.2.1 HI.out.2.2.2 rfl (by omega) v xs.length (flatL xs) (by rfl) (World.ownsRow.drew (World.ownsRow.alloc HJ.out.own _)) ⟨wr.heap.size, 0, none⟩ 1 1 [.int .i64 p', .int .i64 (-q')] (by rfl) (by rfl) (World.news_of_block (heap_alloc_new wr _)) (oneL _ _) (by omega) (by unfold maxLen; have := HNL.out; omega) (by have := HNL.out; omega) (by first | omega | (simp <;> omega)) _ rfl ?_
        intro g1 k1 w1 hown hgrow hat hlt1
        have HSS := TInv.S HJ.out hb HC1.out.1 HC1.out.2 HRW.out (below_box wr _).drew hgrow
        have t2 := TInv.S2 HJ.out HRW.out (below_box wr _).drew hgrow
        have t3 := t2.1
        have t4 := t2.2
        have HST1 : Hid (_) := TInv.step HJ.out (below_box wr _).drew hown hgrow
        have HSS3 : Hid (_) := TInv.S3 (u := .slice (some ⟨g1, 0, none⟩) (xs.length + 1) k1) hb HSS
        clear hown hgrow hat hlt1 t2
        refine ⟨HSS, ?_⟩
        (try simp only [Act.put]); (repeat first | simp only [List.setIfInBounds_toArray] | simp only [List.set_cons_zero] | simp only [List.set_cons_succ])
        refine ord_only (i := 18) rfl (by kernel_rfl) (by rfl) ?_
        refine ord_value (d := some 34) (v := .pointer (some ⟨w.heap.size + 1 + 1, 1, none⟩)) (w' := w1) rfl (by go_simp; try with_reducible rfl) ?_
        refine ⟨HSS, ?_⟩
        (try simp only [Act.put]); (repeat first | simp only [List.setIfInBounds_toArray] | simp only [List.set_cons_zero] | simp only [List.set_cons_succ])
        refine ord_only (i := 19) rfl (by kernel_rfl) (by rfl) ?_
        refine ord_skip (d := none) (w' := w1.setCell ⟨w.heap.size + 1 + 1, 1, none⟩ (.slice (some ⟨g1, 0, none⟩) (xs.length + 1) k1)) rfl (by go_simp; try with_reducible rfl) ?_
        refine ⟨HSS3.out, ?_⟩
        refine wpAnyH_done (by kernel_rfl) ?_ _
        refine NoPanic.normal ?_
        have HN2 : Hid (TInv w id as' (some ⟨b, off, none⟩) cap n (w1.setCell ⟨w.heap.size + 1 + 1, 1, none⟩ (.slice (some ⟨g1, 0, none⟩) (xs.length + 1) k1)) (.slice (some ⟨g1, 0, none⟩) (xs.length + 1) k1) (Lg.neg (ls.take (k + 1)))) := by
          have := HST1.out
          rw [← Int.zero_sub, ← HNG.out] at this
          exact this
        clear c1 c2 o1 o2 o3 t3 t4 HSS HSS3
        go_wp2
        go_roundw
        case rel => exact ⟨k + 1, _, by omega, by go_num, HN2.out⟩
        case measure => simp [intOf]; omega
      · refine ord_value (d := some 32) (v := .slice (some ⟨wr.heap.size, 0, none⟩) 1 1) (w' := (wr.alloc (.cells #[.int .i64 p', .int .i64 (-q')] 44)).drew) rfl (by go_simp; try with_reducible rfl) ?_
        refine ⟨TInv.S (row := none) HJ.out hb HC1.out.1 HC1.out.2 (fun j h => by cases h) (below_box wr _).drew (World.grownBy.refl _ _), ?_⟩
        (try simp only [Act.put]); (repeat first | simp only [List.setIfInBounds_toArray] | simp only [List.set_cons_zero] | simp only [List.set_cons_succ])
        refine ord_only (i := 1) rfl (by kernel_rfl) (by rfl) ?_
        refine ord_value (d := some 17) (v := v) (w' := (wr.alloc (.cells #[.int .i64 p', .int .i64 (-q')] 44)).drew) rfl (by go_simp; try with_reducible rfl) ?_
        refine ⟨TInv.S (row := none) HJ.out hb HC1.out.1 HC1.out.2 (fun j h => by cases h) (below_box wr _).drew (World.grownBy.refl _ _), ?_⟩
        (try simp only [Act.put]); (repeat first | simp only [List.setIfInBounds_toArray] | simp only [List.set_cons_zero] | simp only [List.set_cons_succ])
        refine ord_only (i := 17) rfl (by kernel_rfl) (by rfl) ?_
        refine wp_append_lies _ (.tmp 17) (.tmp 32) 23 rfl (w.heap.size + 3) 44 i0 _ 2 16 Try.underlying23 HI.out.1 HI.out.2.1 HI.out.2.2.1 HI.out.2.2.2 rfl (by omega) v xs.length (flatL xs) (by rfl) (World.ownsRow.drew (World.ownsRow.alloc HJ.out.own _)) ⟨wr.heap.size, 0, none⟩ 1 1 [.int .i64 p', .int .i64 (-q')] (by rfl) (by rfl) (World.news_of_block (heap_alloc_new wr _)) (oneL _ _) (by omega) (by unfold maxLen; have := HNL.out; omega) (by have := HNL.out; omega) (by first | omega | (simp <;> omega)) _ rfl ?_
        intro g1 k1 w1 hown hgrow hat hlt1
        have HSS := TInv.S HJ.out hb HC1.out.1 HC1.out.2 HRW.out (below_box wr _).drew hgrow
        have t2 := TInv.S2 HJ.out HRW.out (below_box wr _).drew hgrow
        have t3 := t2.1
        have t4 := t2.2
        have HST1 : Hid (_) := TInv.step HJ.out (below_box wr _).drew hown hgrow
        have HSS3 : Hid (_) := TInv.S3 (u := .slice (some ⟨g1, 0, none⟩) (xs.length + 1) k1) hb HSS
        clear hown hgrow hat hlt1 t2
        refine ⟨HSS, ?_⟩
        (try simp only [Act.put]); (repeat first | simp only [List.setIfInBounds_toArray] | simp only [List.set_cons_zero] | simp only [List.set_cons_succ])
        refine ord_only (i := 18) rfl (by kernel_rfl) (by rfl) ?_
        refine ord_value (d := some 34) (v := .pointer (some ⟨w.heap.size + 1 + 1, 1, none⟩)) (w' := w1) rfl (by go_simp; try with_reducible rfl) ?_
        refine ⟨HSS, ?_⟩
        (try simp only [Act.put]); (repeat first | simp only [List.setIfInBounds_toArray] | simp only [List.set_cons_zero] | simp only [List.set_cons_succ])
        refine ord_only (i := 19) rfl (by kernel_rfl) (by rfl) ?_
        refine ord_skip (d := none) (w' := w1.setCell ⟨w.heap.size + 1 + 1, 1, none⟩ (.slice (some ⟨g1, 0, none⟩) (xs.length + 1) k1)) rfl (by go_simp; try with_reducible rfl) ?_
        refine ⟨HSS3.out, ?_⟩
        refine wpAnyH_done (by kernel_rfl) ?_ _
        refine NoPanic.normal ?_
        have HN2 : Hid (TInv w id as' (some ⟨b, off, none⟩) cap n (w1.setCell ⟨w.heap.size + 1 + 1, 1, none⟩ (.slice (some ⟨g1, 0, none⟩) (xs.length + 1) k1)) (.slice (some ⟨g1, 0, none⟩) (xs.length + 1) k1) (Lg.neg (ls.take (k + 1)))) := by
          have := HST1.out
          rw [← Int.zero_sub, ← HNG.out] at this
          exact this
        clear c1 c2 o1 o2 o3 t3 t4 HSS HSS3
        go_wp2
        go_roundw
        case rel => exact ⟨k + 1, _, by omega, by go_num, HN2.out⟩
        case measure => simp [intOf]; omega
    · obtain rfl : k = n := by omega
      have HTK : Hid (ls.take k = ls) := by show _ = _; rw [List.take_of_length_le (by rw [HN.out]; exact Nat.le_refl _)]
      have HE : Hid (TInv w id as' a cap k wr v (Lg.neg ls)) := by have := HJ.out; rw [HTK.out] at this; exact this
      obtain ⟨va, vn, vc, hvv⟩ : ∃ va vn vc, v = .slice va vn vc := by
        rcases OwnL.form HE.out.own with ⟨hv, _⟩ | ⟨g, cp, hv, _, _⟩
        · exact ⟨_, _, _, hv⟩
        · exact ⟨_, _, _, hv⟩
      subst hvv
      have o0 := HBO.out
      obtain ⟨b0, r0, r1, r2, r3⟩ := HJ.out.res
      have e0 : (wr.setCell ⟨w.heap.size + 1, 0, none⟩ (.int .i64 as')).cell? ⟨w.heap.size + 1, 1, none⟩ = some (.slice none 0 0) := (World.cell?_setCell_other _ _ _ _ (by intro e; cases e)).trans r1
      have e1 : (wr.setCell ⟨w.heap.size + 1, 0, none⟩ (.int .i64 as')).frozen? ⟨w.heap.size + 1, 1, none⟩ = false := by rw [World.frozen?_setCell]; exact r3
      have HB : Hid (Below w.heap.size w ((wr.setCell ⟨w.heap.size + 1, 0, none⟩ (.int .i64 as')).setCell ⟨w.heap.size + 1, 1, none⟩ (.slice va vn vc))) := (HJ.out.below.setCell (show w.heap.size ≤ w.heap.size + 1 by omega) _).setCell (show w.heap.size ≤ w.heap.size + 1 by omega) _
      have HO : Hid (OwnL ((wr.setCell ⟨w.heap.size + 1, 0, none⟩ (.int .i64 as')).setCell ⟨w.heap.size + 1, 1, none⟩ (.slice va vn vc)) w.heap.size (.slice va vn vc) (Lg.neg ls)) := by
        obtain ⟨k1, k2⟩ := HE.out.own
        refine ⟨k1, ?_⟩
        rcases k2 with k2 | ⟨g, cap', cur, e, hb, hc, hd⟩
        · exact .inl k2
        · exact .inr ⟨g, cap', cur, e, by omega, by rw [Deep.blk_setCell_other _ _ _ _ (show g ≠ w.heap.size + 1 by omega), Deep.blk_setCell_other _ _ _ _ (show g ≠ w.heap.size + 1 by omega)]; exact hc, hd⟩
      have hne : (⟨w.heap.size + 1, 1, none⟩ : Addr) ≠ ⟨w.heap.size + 1, 0, none⟩ := by intro e; cases e
      have f0 : ((wr.setCell ⟨w.heap.size + 1, 0, none⟩ (.int .i64 as')).setCell ⟨w.heap.size + 1, 1, none⟩ (.slice va vn vc)).cell? ⟨w.heap.size + 1, 0, none⟩ = some (.int .i64 as') := (World.cell?_setCell_other _ _ _ _ hne).trans (World.cell?_setCell_same _ _ _ r0)
      have f1 : ((wr.setCell ⟨w.heap.size + 1, 0, none⟩ (.int .i64 as')).setCell ⟨w.heap.size + 1, 1, none⟩ (.slice va vn vc)).cell? ⟨w.heap.size + 1, 1, none⟩ = some (.slice va vn vc) := World.cell?_setCell_same _ _ _ e0
      go_wp2
      exact bodyPost_ret (v := .agg #[.int .i64 as', .slice va vn vc]) (by simp [results, Try.results26, go_sem, *]) rfl ⟨_, rfl, HO.out, HB.out⟩
end Go.Proofs.Ytdebhcdmbijanaa
