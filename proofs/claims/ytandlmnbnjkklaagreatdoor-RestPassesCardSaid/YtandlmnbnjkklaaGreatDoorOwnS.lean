/- Slices of spans that a call makes: nothing yet, one more, the last one stretched, whole slices appended. -/
import Derived.Test.YtandlmnbnjkklaaGreatDoorBaseToAppAll
import Derived.Test.YtandlmnbnjkklaaGreatDoorBaseToAppAll
import Derived.Test.YtandlmnbnjkklaaGreatDoorBaseToAppAll
import Derived.Laws.OwnMore
import Derived.Deep.AppendLies
namespace Go.Proofs.YtandlmnbnjkklaaGreatDoor
open Go.RowKit

theorem infoSpan : (Tryz.prog.info? 49).map (fun i => (i.zero, i.size, i.bytes)) = some (some (.agg #[.int .i64 0, .int .i64 0]), 2, 16) := by kernel_rfl
def flat (l : List Spn.Sp) : List Value := l.flatMap fun s => [.int .i64 s.1, .int .i64 s.2]
theorem flat_append (a b : List Spn.Sp) : flat (a ++ b) = flat a ++ flat b := by unfold flat; rw [List.flatMap_append]
theorem flat_len : ∀ l : List Spn.Sp, (flat l).length = l.length * 2
  | [] => rfl
  | s :: l => by
    have := flat_len l
    unfold flat at *
    rw [List.flatMap_cons, List.length_append, this, List.length_cons]; simp; omega
theorem flat_at : ∀ (l : List Spn.Sp) (i : Nat) (s : Spn.Sp), l[i]? = some s → (flat l)[i * 2]? = some (.int .i64 s.1) ∧ (flat l)[i * 2 + 1]? = some (.int .i64 s.2)
  | [], i, s, h => by simp at h
  | t :: l, 0, s, h => by
    simp at h; subst h
    exact ⟨rfl, rfl⟩
  | t :: l, i + 1, s, h => by
    have := flat_at l i s (by simpa using h)
    have e : flat (t :: l) = [.int .i64 t.1, .int .i64 t.2] ++ flat l := rfl
    have e1 : (i + 1) * 2 = i * 2 + 2 := by omega
    rw [e, e1]
    exact ⟨by simpa using this.1, by simpa [Nat.add_right_comm] using this.2⟩
theorem flat_one (l : List Spn.Sp) : ∀ u ∈ flat l, u.oneCell' = true := by
  intro u hu
  unfold flat at hu
  rw [List.mem_flatMap] at hu
  obtain ⟨s, _, hu⟩ := hu
  simp at hu
  rcases hu with rfl | rfl <;> rfl
/-- A slice of spans that the call has made. -/
def OwnS (w : World) (B : Nat) (v : Value) (xs : List Spn.Sp) : Prop := w.ownsRow B 49 2 v xs.length (flat xs)
theorem OwnS.nil (w : World) (B : Nat) : OwnS w B (.slice none 0 0) [] := World.ownsRow_nil _ _ _ _
theorem OwnS.weak {w : World} {B B' : Nat} {v : Value} {xs : List Spn.Sp} (h : OwnS w B v xs) (hB : B' ≤ B) : OwnS w B' v xs := by
  obtain ⟨h1, h2⟩ := h
  refine ⟨h1, ?_⟩
  rcases h2 with h2 | ⟨g, cap, cur, a, b, c⟩
  · exact .inl h2
  · exact .inr ⟨g, cap, cur, a, Nat.le_trans hB b, c⟩
theorem OwnS.form {w : World} {B : Nat} {v : Value} {xs : List Spn.Sp} (h : OwnS w B v xs) : (v = .slice none 0 0 ∧ xs = []) ∨ ∃ g cap, v = .slice (some ⟨g, 0, none⟩) xs.length cap ∧ B ≤ g ∧ g < w.heap.size := by
  have hlt := World.ownsRow.lt h
  rcases h.2 with ⟨h1, h2⟩ | ⟨g, cap, cur, h1, h2, _⟩
  · exact .inl ⟨h1, List.eq_nil_of_length_eq_zero h2⟩
  · exact .inr ⟨g, cap, h1, h2, by subst h1; exact (hlt g rfl).2⟩
/-- What was made can be read. -/
theorem OwnS.row {w : World} {B : Nat} {v : Value} {xs : List Spn.Sp} (h : OwnS w B v xs) : ∃ a cap, v = .slice a xs.length cap ∧ (a = none → cap = 0 ∧ xs = []) ∧ Row2 w a xs := by
  rcases h.form with ⟨rfl, rfl⟩ | ⟨g, cap, rfl, hB, hg⟩
  · exact ⟨_, _, rfl, fun _ => ⟨rfl, rfl⟩, .inl rfl⟩
  · refine ⟨_, _, rfl, (fun e => by cases e), .inr ⟨g, 0, rfl, hg, fun i hi => ?_⟩⟩
    have hs : xs[i]? = some (xs.getD i (0, 0)) := by simp [List.getD, List.getElem?_eq_getElem hi]
    have hf := flat_at xs i _ hs
    have c1 := World.ownsRow.cellAt h (i * 2) (by omega)
    have c2 := World.ownsRow.cellAt h (i * 2 + 1) (by omega)
    rw [Nat.zero_add]
    exact ⟨c1.trans hf.1, c2.trans hf.2⟩
theorem Row2.below {w w' : World} {a : Option Addr} {l : List Spn.Sp} (h : Row2 w a l) (hb : Below w.heap.size w w') : Row2 w' a l := by
  rcases h with h | ⟨b, off, rfl, hlt, hc⟩
  · exact .inl h
  · exact .inr ⟨b, off, rfl, Nat.lt_of_lt_of_le hlt hb.size, fun i hi => ⟨(hb.cell (p := ⟨b, _, none⟩) hlt).trans (hc i hi).1, (hb.cell (p := ⟨b, _, none⟩) hlt).trans (hc i hi).2⟩⟩
/-- Behind an append of a whole slice of spans. -/
theorem OwnS.join {w wr w1 : World} {B : Nat} {v v' : Value} {xs ys : List Spn.Sp} (hB : B ≤ wr.heap.size) (hown : OwnS wr B v xs) (hnx : Below B w wr)
    (hown' : w1.ownsRow B 49 2 v' (xs.length + ys.length) (flat xs ++ flat ys)) (hgrow : wr.grownBy w1 v.ownBlock) :
    OwnS w1 B v' (xs ++ ys) ∧ Below B w w1 :=
  ⟨by unfold OwnS; rw [flat_append, List.length_append]; exact hown', hnx.grown hgrow hB (fun j hj => (World.ownsRow.lt hown j hj).1)⟩
/-- Behind an append of one span, in a statement that draws its order. -/
theorem OwnS.keep {w W w1 : World} {B n : Nat} {v v' : Value} {xs : List Spn.Sp} {x y : Int} {o : Obj} (hn : xs.length = n) (hB : B ≤ W.heap.size) (hown : OwnS W B v xs) (hnx : Below B w W)
    (hown' : w1.ownsRow B 49 2 v' (n + 1) (flat xs ++ [.int .i64 x, .int .i64 y])) (hgrow : ((W.alloc o).drew).grownBy w1 v.ownBlock) :
    OwnS w1 B v' (xs ++ [(x, y)]) ∧ Below B w w1 := by
  subst hn
  refine ⟨by unfold OwnS; rw [flat_append, List.length_append]; exact hown', ?_⟩
  exact ((hnx.alloc hB o).drew).grown hgrow (by simp; omega) (fun j hj => (World.ownsRow.lt hown j hj).1)
theorem cell_behind {W w1 : World} {o : Obj} {row : Option Nat} {b off : Nat} {v : Value} (hg : ((W.alloc o).drew).grownBy w1 row) (hb : b < W.heap.size) (h : W.cell? ⟨b, off, none⟩ = some v) (hne : some b ≠ row) : w1.cell? ⟨b, off, none⟩ = some v :=
  hg.cell (show ((W.alloc o).drew).cell? ⟨b, off, none⟩ = some v from (World.cell?_alloc_past _ _ _ hb).trans h) hne
theorem flat_set (l : List Spn.Sp) (s : Spn.Sp) (y : Int) : (flat (l ++ [s])).set (l.length * 2 + 1) (.int .i64 y) = flat (l ++ [(s.1, y)]) := by
  rw [flat_append, flat_append, List.set_append_right _ _ (by rw [flat_len]; omega), flat_len]
  have e : l.length * 2 + 1 - l.length * 2 = 1 := by omega
  rw [e]; rfl
/-- Behind a store into the last span's end. -/
theorem OwnS.stretch {w W : World} {B g cap : Nat} {l : List Spn.Sp} {s : Spn.Sp} {y : Int} (hown : OwnS W B (.slice (some ⟨g, 0, none⟩) (l.length + 1) cap) (l ++ [s])) (hnx : Below B w W) :
    OwnS (W.setCell ⟨g, l.length * 2 + 1, none⟩ (.int .i64 y)) B (.slice (some ⟨g, 0, none⟩) (l.length + 1) cap) (l ++ [(s.1, y)]) ∧ Below B w (W.setCell ⟨g, l.length * 2 + 1, none⟩ (.int .i64 y)) := by
  have hlt := World.ownsRow.lt hown g rfl
  unfold OwnS at hown ⊢
  rw [List.length_append] at hown ⊢
  have st := World.ownsRow.stored hown (l.length * 2 + 1) (.int .i64 y)
  rw [flat_set] at st
  exact ⟨st.1, hnx.setCell hlt.1 _⟩
theorem OwnS.last {W : World} {B g cap : Nat} {l : List Spn.Sp} {s : Spn.Sp} (hown : OwnS W B (.slice (some ⟨g, 0, none⟩) (l.length + 1) cap) (l ++ [s])) :
    W.cell? ⟨g, l.length * 2 + 1, none⟩ = some (.int .i64 s.2) ∧ W.frozen? ⟨g, l.length * 2 + 1, none⟩ = false := by
  unfold OwnS at hown
  rw [List.length_append] at hown
  have h1 := World.ownsRow.cellAt hown (l.length * 2 + 1) (by omega)
  have h2 := World.ownsRow.frozenAt hown (l.length * 2 + 1)
  have hf := flat_at (l ++ [s]) l.length s (by simp)
  exact ⟨h1.trans hf.2, h2⟩
theorem Row2.news {w : World} {a : Option Addr} {l : List Spn.Sp} (h : Row2 w a l) : ∀ ad, a = some ad → ∀ j u, (flat l)[j]? = some u → w.cell? (ad.add j) = some u := by
  rintro ad rfl j u hj
  have hjl : j < l.length * 2 := by
    rcases Nat.lt_or_ge j (l.length * 2) with c | c
    · exact c
    · rw [List.getElem?_eq_none (by rw [flat_len]; exact c)] at hj; cases hj
  have hi : j / 2 < l.length := by omega
  rcases h with rfl | ⟨b, off, e, hlt, hc⟩
  · simp at hi
  · cases e
    have hs : l[j / 2]? = some (l.getD (j / 2) (0, 0)) := by simp [List.getD, List.getElem?_eq_getElem hi]
    have hf := flat_at l (j / 2) _ hs
    have hcc := hc (j / 2) hi
    have ha : ∀ k, (⟨b, off, none⟩ : Addr).add k = ⟨b, off + k, none⟩ := by
      intro k
      cases k with
      | zero => rfl
      | succ k => simp [Addr.add]
    rw [ha]
    rcases Nat.mod_two_eq_zero_or_one j with c | c
    · have e : j = j / 2 * 2 := by omega
      rw [e] at hj ⊢
      have e2 : j / 2 * 2 / 2 = j / 2 := by omega
      rw [hf.1] at hj
      rw [← Option.some.inj hj]
      exact hcc.1
    · have e : j = j / 2 * 2 + 1 := by omega
      rw [e] at hj ⊢
      rw [hf.2] at hj
      rw [← Option.some.inj hj]
      exact hcc.2
theorem cell2_new (w : World) (a b : Value) (t : TypeId) : ∀ j u, [a, b][j]? = some u → (w.alloc (.cells #[a, b] t)).cell? ((⟨w.heap.size, 0, none⟩ : Addr).add j) = some u := by
  intro j u hj
  match j, hj with
  | 0, hj => simp at hj; subst hj; simp [Addr.add]
  | 1, hj => simp at hj; subst hj; simp [Addr.add]
  | j + 2, hj => simp at hj
theorem cell2_at (w : World) (n : Nat) (hn : w.heap.size = n) (a b : Value) (t : TypeId) : ∀ j u, [a, b][j]? = some u → (w.alloc (.cells #[a, b] t)).cell? ((⟨n, 0, none⟩ : Addr).add j) = some u := by
  subst hn; exact cell2_new w a b t
theorem one2 (x y : Int) : ∀ u ∈ [Value.int .i64 x, Value.int .i64 y], u.oneCell' = true := by intro u hu; simp at hu; rcases hu with rfl | rfl <;> rfl
theorem lit_row (w : World) (l : List Spn.Sp) (cs : Array Value) (h : cs.toList = flat l) (hl : l.length ≤ maxLen) : Row2 (w.alloc (.cells cs 49)) (some ⟨w.heap.size, 0, none⟩) l := by
  have hs : cs.size = l.length * 2 := by rw [← Array.length_toList, h, flat_len]
  have o : OwnS (w.alloc (.cells cs 49)) w.heap.size (.slice (some ⟨w.heap.size, 0, none⟩) l.length l.length) l := by
    have := World.ownsRow_lit (base := w.heap.size) (e := 49) (size := 2) w cs l.length (Nat.le_refl _) hl hs
    unfold OwnS; rw [← h]; exact this
  obtain ⟨a, c, e, _, r⟩ := o.row
  cases e
  exact r
/-- Behind an append of one span. -/
theorem OwnS.snoc {w W w1 : World} {B : Nat} {v v' : Value} {xs : List Spn.Sp} {x y : Int} {o : Obj} (hB : B ≤ W.heap.size) (hown : OwnS W B v xs) (hnx : Below B w W)
    (hown' : w1.ownsRow B 49 2 v' (xs.length + 1) (flat xs ++ [.int .i64 x, .int .i64 y])) (hgrow : (W.alloc o).grownBy w1 v.ownBlock) :
    OwnS w1 B v' (xs ++ [(x, y)]) ∧ Below B w w1 := by
  refine ⟨by unfold OwnS; rw [flat_append, List.length_append]; exact hown', ?_⟩
  exact (hnx.alloc hB o).grown hgrow (by simp; omega) (fun j hj => (World.ownsRow.lt hown j hj).1)
theorem OwnS.still {w w' : World} {B : Nat} {v : Value} {xs : List Spn.Sp} (h : OwnS w B v xs) (hb : Below w.heap.size w w') : OwnS w' B v xs := by
  have hlt := World.ownsRow.lt h
  obtain ⟨h1, h2⟩ := h
  refine ⟨h1, ?_⟩
  rcases h2 with h2 | ⟨g, cap, cur, rfl, b, c, d⟩
  · exact .inl h2
  · exact .inr ⟨g, cap, cur, rfl, b, (hb.block g (hlt g rfl).2).trans c, d⟩
theorem mkSpan_any (x y : Int) (w : World) :
    Calls Tryz.prog 13 #[.int .i64 x, .int .i64 y] w fun e w' => e = .returned (.agg #[.int .i64 x, .int .i64 y]) ∧ Below w.heap.size w w' := by
  go_enter Tryz.func13, Tryz.ntmps13
  go_wp2
  exact bodyPost_ret (v := .agg #[.int .i64 x, .int .i64 y]) (by simp [results, Tryz.results13, go_sem]) rfl ⟨rfl, (Below.refl _ _).alloc (Nat.le_refl _) _⟩
theorem listS_any (a : Option Addr) (n c : Nat) (w : World) :
    Calls Tryz.prog 39 #[.slice a n c] w fun e w' => e = .returned (.slice a n c) ∧ Below w.heap.size w w' := by
  go_enter Tryz.func39, Tryz.ntmps39
  go_wp2
  go_ret
  exact ⟨rfl, Below.refl _ _⟩
theorem same_below (l r : List Spn.Sp) (b : Bool) (a a' : Option Addr) (cap cap' : Nat) (w : World) (hl : l.length ≤ maxLen) (hl' : r.length ≤ maxLen) (hb : decide (l = r) = b) (hr : Row2 w a l) (hr' : Row2 w a' r) :
    Calls Tryz.prog 38 #[.slice a l.length cap, .slice a' r.length cap'] w fun e w' => e = .returned (.bool b) ∧ Below w.heap.size w w' := by
  subst hb
  exact (sameSpans_any l r a a' cap cap' w hl hl' hr hr').mono fun _ _ h => ⟨h.1, drewN_below h.2⟩
end Go.Proofs.YtandlmnbnjkklaaGreatDoor
