/- Slices of lines: those that lie there, and those that a call makes. -/
import Derived.Test.YtdebhcdmbijanaaRow1
import Derived.Test.YtdebhcdmbijanaaLg
import Derived.Test.YtdebhcdmbijanaaAppAll
import Derived.Laws.OwnMore
import Derived.Deep.AppendLies
namespace Go.Proofs.Ytdebhcdmbijanaa
open Go.RowKit

/-- A slice of lines that lies there: what its elements read as. -/
def RowL (w : World) (a : Option Addr) (l : List Lg.Ln) : Prop :=
  l = [] ∨ ∃ b off, a = some ⟨b, off, none⟩ ∧ b < w.heap.size ∧ ∀ i : Nat, i < l.length → w.cell? ⟨b, off + i * 2, none⟩ = some (.int .i64 (l.getD i (0, 0)).1) ∧ w.cell? ⟨b, off + i * 2 + 1, none⟩ = some (.int .i64 (l.getD i (0, 0)).2)

theorem RowL.at {w : World} {a : Option Addr} {l : List Lg.Ln} (hr : RowL w a l) {k : Nat} (hlt : k < l.length) :
    ∃ b off x y, a = some ⟨b, off, none⟩ ∧ l[k]? = some (x, y) ∧ w.cell? ⟨b, off + k * 2, none⟩ = some (.int .i64 x) ∧ w.cell? ⟨b, off + k * 2 + 1, none⟩ = some (.int .i64 y) := by
  rcases hr with rfl | ⟨b, off, rfl, hb, hc⟩
  · simp at hlt
  obtain ⟨c1, c2⟩ := hc k hlt
  exact ⟨b, off, _, _, rfl, by simp [List.getD, List.getElem?_eq_getElem hlt], c1, c2⟩
theorem RowL.lies {w : World} {a : Option Addr} {l : List Lg.Ln} (hr : RowL w a l) {k : Nat} (hlt : k < l.length) :
    ∃ b off x y, a = some ⟨b, off, none⟩ ∧ b < w.heap.size ∧ l[k]? = some (x, y) ∧ w.cell? ⟨b, off + k * 2, none⟩ = some (.int .i64 x) ∧ w.cell? ⟨b, off + k * 2 + 1, none⟩ = some (.int .i64 y) := by
  rcases hr with rfl | ⟨b, off, rfl, hb, hc⟩
  · simp at hlt
  obtain ⟨c1, c2⟩ := hc k hlt
  exact ⟨b, off, _, _, rfl, hb, by simp [List.getD, List.getElem?_eq_getElem hlt], c1, c2⟩
theorem infoLn : (Try.prog.info? 44).map (fun i => (i.zero, i.size, i.bytes)) = some (some (.agg #[.int .i64 0, .int .i64 0]), 2, 16) := by kernel_rfl
def flatL (l : List Lg.Ln) : List Value := l.flatMap fun s => [.int .i64 s.1, .int .i64 s.2]
theorem flatL_append (a b : List Lg.Ln) : flatL (a ++ b) = flatL a ++ flatL b := by unfold flatL; rw [List.flatMap_append]
theorem flatL_len : ∀ l : List Lg.Ln, (flatL l).length = l.length * 2
  | [] => rfl
  | s :: l => by
    have := flatL_len l
    unfold flatL at *
    rw [List.flatMap_cons, List.length_append, this, List.length_cons]; simp; omega
theorem flatL_at : ∀ (l : List Lg.Ln) (i : Nat) (s : Lg.Ln), l[i]? = some s → (flatL l)[i * 2]? = some (.int .i64 s.1) ∧ (flatL l)[i * 2 + 1]? = some (.int .i64 s.2)
  | [], i, s, h => by simp at h
  | t :: l, 0, s, h => by
    simp at h; subst h
    exact ⟨rfl, rfl⟩
  | t :: l, i + 1, s, h => by
    have := flatL_at l i s (by simpa using h)
    have e : flatL (t :: l) = [.int .i64 t.1, .int .i64 t.2] ++ flatL l := rfl
    have e1 : (i + 1) * 2 = i * 2 + 2 := by omega
    rw [e, e1]
    exact ⟨by simpa using this.1, by simpa [Nat.add_right_comm] using this.2⟩
theorem flatL_one (l : List Lg.Ln) : ∀ u ∈ flatL l, u.oneCell' = true := by
  intro u hu
  unfold flatL at hu
  rw [List.mem_flatMap] at hu
  obtain ⟨s, _, hu⟩ := hu
  simp at hu
  rcases hu with rfl | rfl <;> rfl
/-- A slice of lines that the call has made. -/
def OwnL (w : World) (B : Nat) (v : Value) (xs : List Lg.Ln) : Prop := w.ownsRow B 44 2 v xs.length (flatL xs)
theorem OwnL.nil (w : World) (B : Nat) : OwnL w B (.slice none 0 0) [] := World.ownsRow_nil _ _ _ _
theorem OwnL.weak {w : World} {B B' : Nat} {v : Value} {xs : List Lg.Ln} (h : OwnL w B v xs) (hB : B' ≤ B) : OwnL w B' v xs := by
  obtain ⟨h1, h2⟩ := h
  refine ⟨h1, ?_⟩
  rcases h2 with h2 | ⟨g, cap, cur, a, b, c⟩
  · exact .inl h2
  · exact .inr ⟨g, cap, cur, a, Nat.le_trans hB b, c⟩
theorem OwnL.form {w : World} {B : Nat} {v : Value} {xs : List Lg.Ln} (h : OwnL w B v xs) : (v = .slice none 0 0 ∧ xs = []) ∨ ∃ g cap, v = .slice (some ⟨g, 0, none⟩) xs.length cap ∧ B ≤ g ∧ g < w.heap.size := by
  have hlt := World.ownsRow.lt h
  rcases h.2 with ⟨h1, h2⟩ | ⟨g, cap, cur, h1, h2, _⟩
  · exact .inl ⟨h1, List.eq_nil_of_length_eq_zero h2⟩
  · exact .inr ⟨g, cap, h1, h2, by subst h1; exact (hlt g rfl).2⟩
/-- What was made can be read. -/
theorem OwnL.row {w : World} {B : Nat} {v : Value} {xs : List Lg.Ln} (h : OwnL w B v xs) : ∃ a cap, v = .slice a xs.length cap ∧ (a = none → cap = 0 ∧ xs = []) ∧ RowL w a xs := by
  rcases h.form with ⟨rfl, rfl⟩ | ⟨g, cap, rfl, hB, hg⟩
  · exact ⟨_, _, rfl, fun _ => ⟨rfl, rfl⟩, .inl rfl⟩
  · refine ⟨_, _, rfl, (fun e => by cases e), .inr ⟨g, 0, rfl, hg, fun i hi => ?_⟩⟩
    have hs : xs[i]? = some (xs.getD i (0, 0)) := by simp [List.getD, List.getElem?_eq_getElem hi]
    have hf := flatL_at xs i _ hs
    have c1 := World.ownsRow.cellAt h (i * 2) (by omega)
    have c2 := World.ownsRow.cellAt h (i * 2 + 1) (by omega)
    rw [Nat.zero_add]
    exact ⟨c1.trans hf.1, c2.trans hf.2⟩
theorem RowL.below {w w' : World} {a : Option Addr} {l : List Lg.Ln} (h : RowL w a l) (hb : Below w.heap.size w w') : RowL w' a l := by
  rcases h with h | ⟨b, off, rfl, hlt, hc⟩
  · exact .inl h
  · exact .inr ⟨b, off, rfl, Nat.lt_of_lt_of_le hlt hb.size, fun i hi => ⟨(hb.cell (p := ⟨b, _, none⟩) hlt).trans (hc i hi).1, (hb.cell (p := ⟨b, _, none⟩) hlt).trans (hc i hi).2⟩⟩
/-- Behind an append of a whole slice of lines. -/
theorem OwnL.join {w wr w1 : World} {B : Nat} {v v' : Value} {xs ys : List Lg.Ln} (hB : B ≤ wr.heap.size) (hown : OwnL wr B v xs) (hnx : Below B w wr)
    (hown' : w1.ownsRow B 44 2 v' (xs.length + ys.length) (flatL xs ++ flatL ys)) (hgrow : wr.grownBy w1 v.ownBlock) :
    OwnL w1 B v' (xs ++ ys) ∧ Below B w w1 :=
  ⟨by unfold OwnL; rw [flatL_append, List.length_append]; exact hown', hnx.grown hgrow hB (fun j hj => (World.ownsRow.lt hown j hj).1)⟩
/-- Behind an append of one line, in a statement that draws its order. -/
theorem OwnL.keep {w W w1 : World} {B n : Nat} {v v' : Value} {xs : List Lg.Ln} {x y : Int} {o : Obj} (hn : xs.length = n) (hB : B ≤ W.heap.size) (hown : OwnL W B v xs) (hnx : Below B w W)
    (hown' : w1.ownsRow B 44 2 v' (n + 1) (flatL xs ++ [.int .i64 x, .int .i64 y])) (hgrow : ((W.alloc o).drew).grownBy w1 v.ownBlock) :
    OwnL w1 B v' (xs ++ [(x, y)]) ∧ Below B w w1 := by
  subst hn
  refine ⟨by unfold OwnL; rw [flatL_append, List.length_append]; exact hown', ?_⟩
  exact ((hnx.alloc hB o).drew).grown hgrow (by simp; omega) (fun j hj => (World.ownsRow.lt hown j hj).1)
theorem cellL_behind {W w1 : World} {o : Obj} {row : Option Nat} {b off : Nat} {v : Value} (hg : ((W.alloc o).drew).grownBy w1 row) (hb : b < W.heap.size) (h : W.cell? ⟨b, off, none⟩ = some v) (hne : some b ≠ row) : w1.cell? ⟨b, off, none⟩ = some v :=
  hg.cell (show ((W.alloc o).drew).cell? ⟨b, off, none⟩ = some v from (World.cell?_alloc_past _ _ _ hb).trans h) hne
theorem flatL_set (l : List Lg.Ln) (s : Lg.Ln) (y : Int) : (flatL (l ++ [s])).set (l.length * 2 + 1) (.int .i64 y) = flatL (l ++ [(s.1, y)]) := by
  rw [flatL_append, flatL_append, List.set_append_right _ _ (by rw [flatL_len]; omega), flatL_len]
  have e : l.length * 2 + 1 - l.length * 2 = 1 := by omega
  rw [e]; rfl
/-- Behind a store into the last line's end. -/
theorem OwnL.stretch {w W : World} {B g cap : Nat} {l : List Lg.Ln} {s : Lg.Ln} {y : Int} (hown : OwnL W B (.slice (some ⟨g, 0, none⟩) (l.length + 1) cap) (l ++ [s])) (hnx : Below B w W) :
    OwnL (W.setCell ⟨g, l.length * 2 + 1, none⟩ (.int .i64 y)) B (.slice (some ⟨g, 0, none⟩) (l.length + 1) cap) (l ++ [(s.1, y)]) ∧ Below B w (W.setCell ⟨g, l.length * 2 + 1, none⟩ (.int .i64 y)) := by
  have hlt := World.ownsRow.lt hown g rfl
  unfold OwnL at hown ⊢
  rw [List.length_append] at hown ⊢
  have st := World.ownsRow.stored hown (l.length * 2 + 1) (.int .i64 y)
  rw [flatL_set] at st
  exact ⟨st.1, hnx.setCell hlt.1 _⟩
theorem OwnL.last {W : World} {B g cap : Nat} {l : List Lg.Ln} {s : Lg.Ln} (hown : OwnL W B (.slice (some ⟨g, 0, none⟩) (l.length + 1) cap) (l ++ [s])) :
    W.cell? ⟨g, l.length * 2 + 1, none⟩ = some (.int .i64 s.2) ∧ W.frozen? ⟨g, l.length * 2 + 1, none⟩ = false := by
  unfold OwnL at hown
  rw [List.length_append] at hown
  have h1 := World.ownsRow.cellAt hown (l.length * 2 + 1) (by omega)
  have h2 := World.ownsRow.frozenAt hown (l.length * 2 + 1)
  have hf := flatL_at (l ++ [s]) l.length s (by simp)
  exact ⟨h1.trans hf.2, h2⟩
theorem RowL.news {w : World} {a : Option Addr} {l : List Lg.Ln} (h : RowL w a l) : ∀ ad, a = some ad → ∀ j u, (flatL l)[j]? = some u → w.cell? (ad.add j) = some u := by
  rintro ad rfl j u hj
  have hjl : j < l.length * 2 := by
    rcases Nat.lt_or_ge j (l.length * 2) with c | c
    · exact c
    · rw [List.getElem?_eq_none (by rw [flatL_len]; exact c)] at hj; cases hj
  have hi : j / 2 < l.length := by omega
  rcases h with rfl | ⟨b, off, e, hlt, hc⟩
  · simp at hi
  · cases e
    have hs : l[j / 2]? = some (l.getD (j / 2) (0, 0)) := by simp [List.getD, List.getElem?_eq_getElem hi]
    have hf := flatL_at l (j / 2) _ hs
    have hcc := hc (j / 2) hi
    have ha : ∀ k, (⟨b, off, none⟩ : Addr).add k = ⟨b, off + k, none⟩ := by
      intro k
      cases k with
      | zero => rfl
      | succ k => simp [Addr.add]
    rw [ha]
    rcases Nat.mod_two_eq_zero_or_one j with c | c
    · have e : j = j / 2 * 2 := by omega
      rw [e] at hj ⊢
      have e2 : j / 2 * 2 / 2 = j / 2 := by omega
      rw [hf.1] at hj
      rw [← Option.some.inj hj]
      exact hcc.1
    · have e : j = j / 2 * 2 + 1 := by omega
      rw [e] at hj ⊢
      rw [hf.2] at hj
      rw [← Option.some.inj hj]
      exact hcc.2
theorem cellL_new (w : World) (a b : Value) (t : TypeId) : ∀ j u, [a, b][j]? = some u → (w.alloc (.cells #[a, b] t)).cell? ((⟨w.heap.size, 0, none⟩ : Addr).add j) = some u := by
  intro j u hj
  match j, hj with
  | 0, hj => simp at hj; subst hj; simp [Addr.add]
  | 1, hj => simp at hj; subst hj; simp [Addr.add]
  | j + 2, hj => simp at hj
theorem cellL_at (w : World) (n : Nat) (hn : w.heap.size = n) (a b : Value) (t : TypeId) : ∀ j u, [a, b][j]? = some u → (w.alloc (.cells #[a, b] t)).cell? ((⟨n, 0, none⟩ : Addr).add j) = some u := by
  subst hn; exact cellL_new w a b t
theorem oneL (x y : Int) : ∀ u ∈ [Value.int .i64 x, Value.int .i64 y], u.oneCell' = true := by intro u hu; simp at hu; rcases hu with rfl | rfl <;> rfl
theorem lit_rowL (w : World) (l : List Lg.Ln) (cs : Array Value) (h : cs.toList = flatL l) (hl : l.length ≤ maxLen) : RowL (w.alloc (.cells cs 44)) (some ⟨w.heap.size, 0, none⟩) l := by
  have hs : cs.size = l.length * 2 := by rw [← Array.length_toList, h, flatL_len]
  have o : OwnL (w.alloc (.cells cs 44)) w.heap.size (.slice (some ⟨w.heap.size, 0, none⟩) l.length l.length) l := by
    have := World.ownsRow_lit (base := w.heap.size) (e := 44) (size := 2) w cs l.length (Nat.le_refl _) hl hs
    unfold OwnL; rw [← h]; exact this
  obtain ⟨a, c, e, _, r⟩ := o.row
  cases e
  exact r
/-- Behind an append of one line. -/
theorem OwnL.snoc {w W w1 : World} {B : Nat} {v v' : Value} {xs : List Lg.Ln} {x y : Int} {o : Obj} (hB : B ≤ W.heap.size) (hown : OwnL W B v xs) (hnx : Below B w W)
    (hown' : w1.ownsRow B 44 2 v' (xs.length + 1) (flatL xs ++ [.int .i64 x, .int .i64 y])) (hgrow : (W.alloc o).grownBy w1 v.ownBlock) :
    OwnL w1 B v' (xs ++ [(x, y)]) ∧ Below B w w1 := by
  refine ⟨by unfold OwnL; rw [flatL_append, List.length_append]; exact hown', ?_⟩
  exact (hnx.alloc hB o).grown hgrow (by simp; omega) (fun j hj => (World.ownsRow.lt hown j hj).1)
theorem OwnL.still {w w' : World} {B : Nat} {v : Value} {xs : List Lg.Ln} (h : OwnL w B v xs) (hb : Below w.heap.size w w') : OwnL w' B v xs := by
  have hlt := World.ownsRow.lt h
  obtain ⟨h1, h2⟩ := h
  refine ⟨h1, ?_⟩
  rcases h2 with h2 | ⟨g, cap, cur, rfl, b, c, d⟩
  · exact .inl h2
  · exact .inr ⟨g, cap, cur, rfl, b, (hb.block g (hlt g rfl).2).trans c, d⟩
end Go.Proofs.Ytdebhcdmbijanaa
