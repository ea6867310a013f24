/- Blocks of whole numbers, and of slices of them, that a call has made. -/
import Derived.Test.YtcaibonnkfhkmaaFRow
import Derived.Deep.OwnRows
import Derived.RangeFuncNested
import Derived.RangeFuncFrom
namespace Go.Proofs.Ytcaibonnkfhkmaa
open Go.RowKit

/-- block b is a row of n whole numbers, F of the place, that may be written -/
def RowI (w : World) (b n : Nat) (F : Nat → Int) : Prop := w.rowIs b 3 n (fun i => .int .i64 (F i))
theorem RowI.cell {w : World} {b n : Nat} {F : Nat → Int} (h : RowI w b n F) {i : Nat} (hi : i < n) : w.cell? ⟨b, i, none⟩ = some (.int .i64 (F i)) := World.rowIs.cell h hi
theorem RowI.frozen {w : World} {b n : Nat} {F : Nat → Int} (h : RowI w b n F) (i : Nat) : w.frozen? ⟨b, i, none⟩ = false := World.rowIs.frozen h i
theorem RowI.lt {w : World} {b n : Nat} {F : Nat → Int} (h : RowI w b n F) : b < w.heap.size := World.rowIs.lt h
theorem RowI.congr {w : World} {b n : Nat} {F G : Nat → Int} (h : RowI w b n F) (e : ∀ i, i < n → F i = G i) : RowI w b n G := World.rowIs.congr h (fun i hi => by rw [e i hi])
theorem RowI.set {w : World} {b n : Nat} {F : Nat → Int} (h : RowI w b n F) (i : Nat) (x : Int) : RowI (w.setCell ⟨b, i, none⟩ (.int .i64 x)) b n (fun j => if j = i then x else F j) :=
  World.rowIs.congr (World.rowIs.set h i (.int .i64 x)) (fun j _ => by dsimp only; split <;> rfl)
theorem RowI.below {w w' : World} {b n : Nat} {F : Nat → Int} (h : RowI w b n F) (hb : Below w.heap.size w w') : RowI w' b n F := World.rowIs.of_block h (hb.block b h.lt)
theorem RowI.block {w w' : World} {b n : Nat} {F : Nat → Int} (h : RowI w b n F) (hb : w'.heap[b]? = w.heap[b]?) : RowI w' b n F := World.rowIs.of_block h hb
theorem RowI.made (w : World) (n : Nat) : RowI (w.alloc (.cells (madeCells #[.int .i64 0] n) 3)) w.heap.size n (fun _ => 0) := World.rowIs_made w (.int .i64 0) n 3
theorem RowI.row1 {w : World} {b n : Nat} {F : Nat → Int} (h : RowI w b n F) : Row1 w (some ⟨b, 0, none⟩) ((List.range n).map F) := by
  refine .inr ⟨b, 0, rfl, h.lt, fun i hi => ?_⟩
  have hi' : i < n := by simpa using hi
  rw [Nat.zero_add, h.cell hi', List.getD_eq_getElem?_getD]
  simp [hi']
/-- block b is a row of slices: row k has d k numbers, of block R k -/
def RowR (w : World) (b n : Nat) (F : Nat → Value) : Prop := w.rowIs b 37 n F
theorem RowR.made (w : World) (n : Nat) : RowR (w.alloc (.cells (madeCells #[.slice none 0 0] n) 37)) w.heap.size n (fun _ => .slice none 0 0) := World.rowIs_made w (.slice none 0 0) n 37
theorem info_row : (Try.prog.info? 37).map (fun i => (i.zero, i.size, i.bytes)) = some (some (.slice none 0 0), 1, 24) := by rfl
theorem info_int : (Try.prog.info? 3).map (fun i => (i.zero, i.size, i.bytes)) = some (some (.int .i64 0), 1, 8) := by rfl
theorem make_rows (n : Nat) (h : n ≤ 1000) (w : World) : (Instr.makeSlice 23 (.int .i64 (n : Int)) (.int .i64 (n : Int))).run Try.prog w = .ok (.slice (some ⟨w.heap.size, 0, none⟩) n n) (w.alloc (.cells (madeCells #[.slice none 0 0] n) 37)) :=
  run_make_row' 23 37 (.slice none 0 0) 24 (by rfl) info_row rfl .i64 .i64 n (by omega) (by omega) w
theorem make_ints (n : Nat) (h : n ≤ 1000) (w : World) : (Instr.makeSlice 37 (.int .i64 (n : Int)) (.int .i64 (n : Int))).run Try.prog w = .ok (.slice (some ⟨w.heap.size, 0, none⟩) n n) (w.alloc (.cells (madeCells #[.int .i64 0] n) 3)) :=
  run_make_row' 37 3 (.int .i64 0) 8 (by rfl) info_int rfl .i64 .i64 n (by omega) (by omega) w
/-- out: block b has n slices, the one of place k the block R k, of n - k numbers: M k (k + i) -/
def Out (w : World) (b n : Nat) (R : Nat → Nat) (M : Nat → Nat → Int) : Prop :=
  RowR w b n (fun k => .slice (some ⟨R k, 0, none⟩) (n - k) (n - k)) ∧ ∀ k, k < n → RowI w (R k) (n - k) (fun i => M k (k + i))
def outF (n : Nat) (M : Nat → Nat → Int) : List (List Int) := (List.range n).map fun k => (List.range (n - k)).map fun i => M k (k + i)
theorem outF_length (n : Nat) (M : Nat → Nat → Int) : (outF n M).length = n := by simp [outF]
theorem outF_row (n : Nat) (M : Nat → Nat → Int) (k : Nat) (h : k < n) : (outF n M).getD k [] = (List.range (n - k)).map fun i => M k (k + i) := by
  unfold outF
  rw [List.getD_eq_getElem?_getD]
  simp [h]
theorem outF_pr (n : Nat) (M : Nat → Nat → Int) (a b : Nat) (h : a ≤ b) (hb : b < n) : Fr.pr (outF n M) a b = M a b := by
  unfold Fr.pr
  rw [outF_row n M a (by omega), List.getD_eq_getElem?_getD]
  simp [show b - a < n - a by omega, show a + (b - a) = b by omega]
theorem Out.mat {w : World} {b n : Nat} {R : Nat → Nat} {M : Nat → Nat → Int} (hn : n ≤ 1000) (h : Out w b n R M) : Mat w (some ⟨b, 0, none⟩) (outF n M) := by
  refine .inr ⟨b, 0, rfl, World.rowIs.lt h.1, fun i hi => ?_⟩
  rw [outF_length] at hi
  refine ⟨some ⟨R i, 0, none⟩, n - i, ?_, ?_, ?_⟩
  · rw [Nat.zero_add, World.rowIs.cell h.1 hi, outF_row n M i hi]
    simp
  · rw [outF_row n M i hi]
    exact (h.2 i hi).row1
  · rw [outF_row n M i hi]
    simp
    unfold maxLen
    omega
theorem Out.below {w w' : World} {b n : Nat} {R : Nat → Nat} {M : Nat → Nat → Int} (h : Out w b n R M) (hb : Below w.heap.size w w') : Out w' b n R M :=
  ⟨World.rowIs.of_block h.1 (hb.block b (World.rowIs.lt h.1)), fun k hk => (h.2 k hk).below hb⟩
theorem rowIs_kept {W W' : World} {row : Option Nat} {b n : Nat} {t : TypeId} {F : Nat → Value} (h : W.rowIs b t n F) (hg : W.grownBy W' row) (hrow : ∀ r, row = some r → ∃ o : Obj, W.heap[r]? = some o ∧ o.isCells = false) : W'.rowIs b t n F := by
  obtain ⟨c, hb, h2⟩ := h
  exact World.rowIs.of_block ⟨c, hb, h2⟩ (grownBy_keeps_cells hg hrow hb rfl)
theorem Out.kept {W W' : World} {row : Option Nat} {b n : Nat} {R : Nat → Nat} {M : Nat → Nat → Int} (h : Out W b n R M) (hg : W.grownBy W' row) (hrow : ∀ r, row = some r → ∃ o : Obj, W.heap[r]? = some o ∧ o.isCells = false) : Out W' b n R M :=
  ⟨rowIs_kept h.1 hg hrow, fun k hk => rowIs_kept (h.2 k hk) hg hrow⟩
theorem Out.congr {w : World} {b n : Nat} {R : Nat → Nat} {M M' : Nat → Nat → Int} (h : Out w b n R M) (e : ∀ x y, x ≤ y → y < n → M x y = M' x y) : Out w b n R M' :=
  ⟨h.1, fun k hk => (h.2 k hk).congr fun i hi => e k (k + i) (by omega) (by omega)⟩
/-- one price written -/
theorem Out.set {w : World} {b n : Nat} {R : Nat → Nat} {M : Nat → Nat → Int} (h : Out w b n R M) (hb : ∀ k, k < n → R k ≠ b) (hi : ∀ j k, j < n → k < n → R j = R k → j = k) {u t : Nat} (hu : u < n) (m : Int) :
    Out (w.setCell ⟨R u, t, none⟩ (.int .i64 m)) b n R (fun x y => if x = u ∧ y = u + t then m else M x y) := by
  refine ⟨World.rowIs.setOther h.1 (a := ⟨R u, t, none⟩) (fun e => hb u hu e.symm) _, fun k hk => ?_⟩
  by_cases c : k = u
  · subst c
    refine ((h.2 k hk).set t m).congr fun i _ => ?_
    dsimp only
    by_cases c2 : i = t
    · subst c2; rw [if_pos rfl, if_pos ⟨rfl, rfl⟩]
    · rw [if_neg c2, if_neg (by omega)]
  · refine RowI.congr (World.rowIs.setOther (h.2 k hk) (a := ⟨R u, t, none⟩) (fun e => c (hi k u hk hu e)) _) fun i _ => ?_
    dsimp only
    rw [if_neg (fun e => c e.1)]
theorem outF_sq (n : Nat) (M : Nat → Nat → Int) (x : Nat) (hx : x < (outF n M).length) : ((outF n M).getD x []).length = (outF n M).length - x := by
  rw [outF_length] at hx ⊢
  rw [outF_row n M x hx]
  simp
theorem outF_ok (n : Nat) {M : Nat → Nat → Int} (h : Fr.Ok M n) : Fr.Ok (Fr.pr (outF n M)) (outF n M).length := by
  rw [outF_length]
  intro a b hab hb
  rw [outF_pr n M a b hab hb]
  exact h a b hab hb
theorem outF_lt (n : Nat) (M : Nat → Nat → Int) {a b k : Nat} (hk : a + k ≤ b) (hb : b < n) : Fr.lt (Fr.pr (outF n M)) a b k = Fr.lt M a b k :=
  Fr.lt_congr _ _ _ _ _ fun i hi => ⟨outF_pr n M _ _ (by omega) (by omega), outF_pr n M _ _ (by omega) (by omega)⟩
end Go.Proofs.Ytcaibonnkfhkmaa
