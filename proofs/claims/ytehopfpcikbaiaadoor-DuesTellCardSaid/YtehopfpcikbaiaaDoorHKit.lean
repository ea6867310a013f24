/- Rows of whole numbers that a call has made: read and written in place; what else lies there stays. -/
import Derived.Test.YtehopfpcikbaiaaDoorBaseToRow1
import Derived.Test.YtehopfpcikbaiaaDoorSrt2
import Derived.Deep.OwnRows
import Derived.BigRegion
namespace Go.Proofs.YtehopfpcikbaiaaDoor
open Go.RowKit

/-- block b is a row of n whole numbers, F of the place, that may be written -/
def RowI (w : World) (b n : Nat) (F : Nat → Int) : Prop := w.rowIs b 3 n (fun i => .int .i64 (F i))
theorem RowI.cell {w : World} {b n : Nat} {F : Nat → Int} (h : RowI w b n F) {i : Nat} (hi : i < n) : w.cell? ⟨b, i, none⟩ = some (.int .i64 (F i)) := World.rowIs.cell h hi
theorem RowI.frozen {w : World} {b n : Nat} {F : Nat → Int} (h : RowI w b n F) (i : Nat) : w.frozen? ⟨b, i, none⟩ = false := World.rowIs.frozen h i
theorem RowI.lt {w : World} {b n : Nat} {F : Nat → Int} (h : RowI w b n F) : b < w.heap.size := World.rowIs.lt h
theorem RowI.congr {w : World} {b n : Nat} {F G : Nat → Int} (h : RowI w b n F) (e : ∀ i, i < n → F i = G i) : RowI w b n G := World.rowIs.congr h (fun i hi => by rw [e i hi])
theorem RowI.set {w : World} {b n : Nat} {F : Nat → Int} (h : RowI w b n F) (i : Nat) (x : Int) : RowI (w.setCell ⟨b, i, none⟩ (.int .i64 x)) b n (fun j => if j = i then x else F j) :=
  World.rowIs.congr (World.rowIs.set h i (.int .i64 x)) (fun j _ => by dsimp only; split <;> rfl)
theorem RowI.swap {w : World} {b n : Nat} {F : Nat → Int} (h : RowI w b n F) (i j : Nat) (x y : Int) (hx : x = F j) (hy : y = F i) :
    RowI ((w.setCell ⟨b, i, none⟩ (.int .i64 x)).setCell ⟨b, j, none⟩ (.int .i64 y)) b n (Srt.swp F i j) := by
  refine ((h.set i x).set j y).congr (fun k _ => ?_)
  unfold Srt.swp
  subst hx hy
  repeat' split
  all_goals first | rfl | (exfalso; omega) | (congr 1; omega)
theorem RowI.below {w w' : World} {b n : Nat} {F : Nat → Int} (h : RowI w b n F) (hb : Below w.heap.size w w') : RowI w' b n F := World.rowIs.of_block h (hb.block b h.lt)
theorem RowI.grown {w w' : World} {b c n : Nat} {F : Nat → Int} (h : RowI w b n F) (hg : w.grownBy w' (some c)) (hne : b ≠ c) : RowI w' b n F := World.rowIs.of_block h (hg.block b h.lt (fun e => hne (Option.some.inj e)))
theorem RowI.row1 {w : World} {b n : Nat} {F : Nat → Int} (h : RowI w b n F) : Row1 w (some ⟨b, 0, none⟩) ((List.range n).map F) := by
  refine .inr ⟨b, 0, rfl, h.lt, fun i hi => ?_⟩
  have hi' : i < n := by simpa using hi
  rw [Nat.zero_add, h.cell hi', List.getD_eq_getElem?_getD]
  simp [hi']
theorem grown_set (w : World) (b i : Nat) (v : Value) : w.grownBy (w.setCell ⟨b, i, none⟩ v) (some b) :=
  ⟨rfl, rfl, rfl, by rw [Deep.nblk_setCell]; exact Nat.le_refl _, fun k _ hk => Deep.blk_setCell_other _ _ _ _ (fun e => hk (congrArg some e))⟩
theorem grown_below {w w' : World} (h : Below w.heap.size w w') (row : Option Nat) : w.grownBy w' row := ⟨h.os, h.tape, h.output, h.size, fun k hk _ => h.block k hk⟩
theorem grown_drewN (w : World) (m : Nat) (row : Option Nat) : w.grownBy (w.drewN m) row := grown_below (below_drewN (Below.refl _ _) m) row
theorem below_grown {B b : Nat} {a w w' : World} (h : Below B a w) (hB : B ≤ w.heap.size) (hb : B ≤ b) (hg : w.grownBy w' (some b)) : Below B a w' :=
  h.grown hg hB (fun j hj => by cases hj; exact hb)
theorem RowI.swapped {w : World} {b n : Nat} {F G : Nat → Int} (h : RowI w b n F) {i j : Nat} {x y : Int} (hx : x = F j) (hy : y = F i) (hG : ∀ k, Srt.swp F i j k = G k) :
    RowI ((w.setCell ⟨b, i, none⟩ (.int .i64 x)).setCell ⟨b, j, none⟩ (.int .i64 y)).drew b n G := World.rowIs.drew ((h.swap i j x y hx hy).congr (fun k _ => hG k))
theorem grown_swap {a w : World} {b : Nat} (h : a.grownBy w (some b)) (i j : Nat) (x y : Value) : a.grownBy ((w.setCell ⟨b, i, none⟩ x).setCell ⟨b, j, none⟩ y).drew (some b) :=
  ((h.trans (grown_set w b i x)).trans (grown_set _ b j y)).trans (grown_drewN _ 1 _)
theorem row1_grown {w w' : World} {a : Option Addr} {l : List Int} {c : Nat} (h : Row1 w a l) (hg : w.grownBy w' (some c)) (hne : ∀ p, a = some p → p.block ≠ c) : Row1 w' a l := by
  rcases h with h | ⟨b, off, rfl, hlt, hc⟩
  · exact .inl h
  · refine .inr ⟨b, off, rfl, Nat.lt_of_lt_of_le hlt hg.size, fun i hi => ?_⟩
    rw [World.cell?_of_block (w := w) (hg.block b hlt (fun e => hne _ rfl (Option.some.inj e)))]
    exact hc i hi
end Go.Proofs.YtehopfpcikbaiaaDoor
