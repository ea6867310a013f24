/- Slices of words: read, and made by the call. -/
import Derived.Test.YtcjpbmfdgheolaaGTk
import Derived.Laws.OwnMore
import Derived.Deep.OwnRows
namespace Go.Proofs.Ytcjpbmfdgheolaa
open Go.RowKit

theorem infoU : (Try.prog.info? 23).map (fun i => (i.zero, i.size, i.bytes)) = some (some (.int .u64 0), 1, 8) := by kernel_rfl
/-- A slice of words that lies there. -/
def RowU (w : World) (a : Option Addr) (l : List Tg.W) : Prop :=
  l = [] ∨ ∃ b off, a = some ⟨b, off, none⟩ ∧ b < w.heap.size ∧ ∀ i : Nat, i < l.length → w.cell? ⟨b, off + i, none⟩ = some (.int .u64 (wd (l.getD i 0)))
theorem RowU.at {w : World} {a : Option Addr} {l : List Tg.W} (hr : RowU w a l) {k : Nat} (hlt : k < l.length) :
    ∃ b off x, a = some ⟨b, off, none⟩ ∧ b < w.heap.size ∧ l[k]? = some x ∧ w.cell? ⟨b, off + k, none⟩ = some (.int .u64 (wd x)) := by
  rcases hr with rfl | ⟨b, off, rfl, hb, hc⟩
  · simp at hlt
  exact ⟨b, off, _, rfl, hb, by simp [List.getD, List.getElem?_eq_getElem hlt], hc k hlt⟩
theorem RowU.below {w w' : World} {a : Option Addr} {l : List Tg.W} (h : RowU w a l) (hb : Below w.heap.size w w') : RowU w' a l := by
  rcases h with h | ⟨b, off, rfl, hlt, hc⟩
  · exact .inl h
  · exact .inr ⟨b, off, rfl, Nat.lt_of_lt_of_le hlt hb.size, fun i hi => (hb.cell (p := ⟨b, _, none⟩) hlt).trans (hc i hi)⟩
/-- A slice of words that was made since the heap was B. -/
def RowN (w : World) (B : Nat) (a : Option Addr) (l : List Tg.W) : Prop := RowU w a l ∧ ∀ p, a = some p → B ≤ p.block
theorem RowN.below {w w' : World} {B : Nat} {a : Option Addr} {l : List Tg.W} (h : RowN w B a l) (hb : Below w.heap.size w w') : RowN w' B a l := ⟨h.1.below hb, h.2⟩
theorem RowN.set4 {w : World} {B b : Nat} {a : Option Addr} {l : List Tg.W} (h : RowN w B a l) (hb : b < B) (x0 x1 x2 x3 : Value) : RowN ((((w.setCell ⟨b, 0, none⟩ x0).setCell ⟨b, 1, none⟩ x1).setCell ⟨b, 2, none⟩ x2).setCell ⟨b, 3, none⟩ x3) B a l := by
  refine ⟨?_, h.2⟩
  rcases h.1 with h1 | ⟨c, off, rfl, hlt, hc⟩
  · exact .inl h1
  · have hne : c ≠ b := by have := h.2 _ rfl; dsimp at this; omega
    refine .inr ⟨c, off, rfl, Nat.lt_of_lt_of_le hlt (below_set4 (B := 0) (Below.refl 0 w) (Nat.zero_le b) x0 x1 x2 x3).size, fun i hi => ?_⟩
    have e : (((((w.setCell ⟨b, 0, none⟩ x0).setCell ⟨b, 1, none⟩ x1).setCell ⟨b, 2, none⟩ x2).setCell ⟨b, 3, none⟩ x3).heap)[c]? = w.heap[c]? := by
      rw [Below.heap_setCell _ _ _ _ hne, Below.heap_setCell _ _ _ _ hne, Below.heap_setCell _ _ _ _ hne, Below.heap_setCell _ _ _ _ hne]
    generalize ((((w.setCell ⟨b, 0, none⟩ x0).setCell ⟨b, 1, none⟩ x1).setCell ⟨b, 2, none⟩ x2).setCell ⟨b, 3, none⟩ x3) = W at e ⊢
    exact (World.cell?_of_block (w := w) (a := ⟨c, off + i, none⟩) e).trans (hc i hi)
/-- A slice of words that the call has made by append. -/
def OwnU (w : World) (B : Nat) (v : Value) (xs : List Tg.W) : Prop := w.ownsRow B 23 1 v xs.length (xs.map (fun x => Value.int .u64 (wd x)))
theorem OwnU.nil (w : World) (B : Nat) : OwnU w B (.slice none 0 0) [] := World.ownsRow_nil _ _ _ _
theorem OwnU.keep {w wr w1 : World} {B : Nat} {v v' : Value} {xs : List Tg.W} {x : Tg.W} {o : Obj} (hB : B ≤ wr.heap.size) (hown : OwnU wr B v xs) (hnx : Below B w wr)
    (hown' : w1.ownsRow B 23 1 v' (xs.length + 1) (xs.map (fun x => Value.int .u64 (wd x)) ++ [.int .u64 (wd x)])) (hgrow : (wr.alloc o).grownBy w1 v.ownBlock) :
    OwnU w1 B v' (xs ++ [x]) ∧ Below B w w1 :=
  ⟨by unfold OwnU; simpa using hown', (hnx.alloc hB o).grown hgrow (by simp; omega) (fun j hj => by have := (World.ownsRow.lt hown j hj).1; omega)⟩
theorem OwnU.row {w : World} {B : Nat} {v : Value} {xs : List Tg.W} (h : OwnU w B v xs) : ∃ a cap, v = .slice a xs.length cap ∧ RowN w B a xs := by
  unfold OwnU at h
  have hc := fun g hg => h.cells (g := g) hg
  have hlt := h.lt
  rcases h.2 with ⟨rfl, h0⟩ | ⟨g, cap, cur, rfl, _⟩
  · have : xs = [] := List.eq_nil_of_length_eq_zero h0
    subst this
    exact ⟨_, _, rfl, .inl rfl, fun p hp => by cases hp⟩
  · refine ⟨_, _, rfl, .inr ⟨g, 0, rfl, (hlt g rfl).2, fun i hi => ?_⟩, fun p hp => by cases hp; exact (hlt g rfl).1⟩
    have := hc g rfl i (.int .u64 (wd (xs.getD i 0))) (by simp [List.getD, List.getElem?_eq_getElem hi])
    rw [Nat.zero_add]
    cases i with
    | zero => exact this
    | succ i => simpa [Addr.add] using this
theorem cellU_new (w : World) (a : Value) (t : TypeId) : ∀ j u, [a][j]? = some u → (w.alloc (.cells #[a] t)).cell? ((⟨w.heap.size, 0, none⟩ : Addr).add j) = some u := by
  intro j u hj
  match j, hj with
  | 0, hj => simp at hj; subst hj; simp [Addr.add]
  | j + 1, hj => simp at hj
theorem oneU (x : Int) : ∀ u ∈ [Value.int .u64 x], u.oneCell' = true := by intro u hu; simp at hu; subst hu; rfl
/-- block b is a row of n words, F of the place, that may be written -/
def BlkU (w : World) (b n : Nat) (F : Nat → Nat) : Prop := w.rowIs b 23 n (fun i => .int .u64 ((F i : Nat) : Int))
theorem BlkU.cell {w : World} {b n : Nat} {F : Nat → Nat} (h : BlkU w b n F) {i : Nat} (hi : i < n) : w.cell? ⟨b, i, none⟩ = some (.int .u64 ((F i : Nat) : Int)) := World.rowIs.cell h hi
theorem BlkU.frozen {w : World} {b n : Nat} {F : Nat → Nat} (h : BlkU w b n F) (i : Nat) : w.frozen? ⟨b, i, none⟩ = false := World.rowIs.frozen h i
theorem BlkU.lt {w : World} {b n : Nat} {F : Nat → Nat} (h : BlkU w b n F) : b < w.heap.size := World.rowIs.lt h
theorem BlkU.congr {w : World} {b n : Nat} {F G : Nat → Nat} (h : BlkU w b n F) (e : ∀ i, i < n → F i = G i) : BlkU w b n G := World.rowIs.congr h (fun i hi => by rw [e i hi])
theorem BlkU.set {w : World} {b n : Nat} {F : Nat → Nat} (h : BlkU w b n F) (i x : Nat) : BlkU (w.setCell ⟨b, i, none⟩ (.int .u64 (x : Int))) b n (fun j => if j = i then x else F j) :=
  World.rowIs.congr (World.rowIs.set h i (.int .u64 (x : Int))) (fun j _ => by dsimp only; split <;> rfl)
theorem BlkU.drew {w : World} {b n : Nat} {F : Nat → Nat} (h : BlkU w b n F) : BlkU w.drew b n F := World.rowIs.drew h
theorem BlkU.made (w : World) (n : Nat) : BlkU (w.alloc (.cells (madeCells #[.int .u64 0] n) 23)) w.heap.size n (fun _ => 0) := World.rowIs_made w (.int .u64 0) n 23
theorem make_words (n : Nat) (h : n * 8 ≤ 140737488355328) (w : World) : (Instr.makeSlice 64 (.int .i64 (n : Int)) (.int .i64 (n : Int))).run Try.prog w = .ok (.slice (some ⟨w.heap.size, 0, none⟩) n n) (w.alloc (.cells (madeCells #[.int .u64 0] n) 23)) :=
  run_make_row' 64 23 (.int .u64 0) 8 Try.underlying64 infoU rfl .i64 .i64 n (by omega) (by omega) w
/-- what a text's words are, at the places of a block -/
theorem BlkU.words {w : World} {b : Nat} {l : List UInt8} (h : BlkU w b (l.length / 8 + 1) (Tg.wn l)) : RowU w (some ⟨b, 0, none⟩) (Tg.words l) := by
  refine .inr ⟨b, 0, rfl, h.lt, fun i hi => ?_⟩
  rw [Tg.words_length] at hi
  rw [Nat.zero_add, h.cell hi, List.getD_eq_getElem?_getD, Tg.words_get l i hi]
  show _ = some (Value.int .u64 (wd (BitVec.ofNat 64 (Tg.wn l i))))
  rw [wd_of _ (Tg.wn_lt l i)]
theorem take_eq_succ {l m : List Tg.W} {k : Nat} {x : Tg.W} (h : l.take k = m.take k) (hx : l[k]? = some x) (hy : m[k]? = some x) : l.take (k + 1) = m.take (k + 1) := by
  obtain ⟨h1, e1⟩ := List.getElem?_eq_some_iff.1 hx
  obtain ⟨h2, e2⟩ := List.getElem?_eq_some_iff.1 hy
  rw [List.take_succ_eq_append_getElem h1, List.take_succ_eq_append_getElem h2, h, e1, e2]
end Go.Proofs.Ytcjpbmfdgheolaa
