/- What the walks of the statements on days of work share: the calendar that was handed in, boxed, and what both sides answer. -/
import Derived.Test.YtpjpmfcbddkjnaaDoorWBegun
namespace Go.Proofs.YtpjpmfcbddkjnaaDoor
open Go.RowKit

/-- the box of the calendar that a law was handed -/
abbrev calBox (R : Wk.Rst) (a : Option Addr) (n c : Nat) : Obj := .cells #[.bool R.b0, .bool R.b1, .bool R.b2, .bool R.b3, .bool R.b4, .bool R.b5, .bool R.b6, .slice a n c] 25
/-- how the world stands within a law: the table of months, the calendar's box and its rules lie there, and what lay there before -/
structure WSt (w W : World) (R : Wk.Rst) (l : List Wk.Rl) (a : Option Addr) (n c : Nat) : Prop where
  laid : Laid W
  row : Row4 W a l
  below : Below w.heap.size w W
  lt : w.heap.size < W.heap.size
  box : ∀ j v, (#[.bool R.b0, .bool R.b1, .bool R.b2, .bool R.b3, .bool R.b4, .bool R.b5, .bool R.b6, .slice a n c] : Array Value)[j]? = some v → W.cell? ⟨w.heap.size, j, none⟩ = some v
theorem WSt.start {w : World} {R : Wk.Rst} {l : List Wk.Rl} {a : Option Addr} {n c : Nat} (hw : Laid w) (hr : Row4 w a l) : WSt w (w.alloc (calBox R a n c)) R l a n c :=
  ⟨hw.alloc _, hr.below (below_box _ _), below_box _ _, by simp, fun j v hj => boxCells w _ _ j v hj⟩
theorem WSt.on {w W W' : World} {R : Wk.Rst} {l : List Wk.Rl} {a : Option Addr} {n c : Nat} (h : WSt w W R l a n c) (hb : Below W.heap.size W W') : WSt w W' R l a n c :=
  ⟨h.laid.below hb, h.row.below hb, below_next h.below (Nat.le_refl _) hb, Nat.lt_of_lt_of_le h.lt hb.size, fun j v hj => (hb.cell (p := ⟨w.heap.size, j, none⟩) h.lt).trans (h.box j v hj)⟩
theorem WSt.cells {w W : World} {R : Wk.Rst} {l : List Wk.Rl} {a : Option Addr} {n c : Nat} (h : WSt w W R l a n c) :
    W.cell? ⟨w.heap.size, 0, none⟩ = some (.bool R.b0) ∧ W.cell? ⟨w.heap.size, 1, none⟩ = some (.bool R.b1) ∧ W.cell? ⟨w.heap.size, 2, none⟩ = some (.bool R.b2) ∧ W.cell? ⟨w.heap.size, 3, none⟩ = some (.bool R.b3) ∧ W.cell? ⟨w.heap.size, 4, none⟩ = some (.bool R.b4) ∧ W.cell? ⟨w.heap.size, 5, none⟩ = some (.bool R.b5) ∧ W.cell? ⟨w.heap.size, 6, none⟩ = some (.bool R.b6) ∧ W.cell? ⟨w.heap.size, 7, none⟩ = some (.slice a n c) :=
  ⟨h.box 0 _ rfl, h.box 1 _ rfl, h.box 2 _ rfl, h.box 3 _ rfl, h.box 4 _ rfl, h.box 5 _ rfl, h.box 6 _ rfl, h.box 7 _ rfl⟩
theorem both_is (R : Wk.Rst) (l : List Wk.Rl) (a : Option Addr) (cap : Nat) (n : Int) (hl : l.length ≤ maxLen) : ∃ (b : Bool) (c : Int),
    (∀ w, Laid w → Row4 w a l → Calls Tryd.prog 15 #[calV R a l.length cap, .int .i64 n] w fun e w' => e = .returned (.tuple #[.bool b, .int .i64 c]) ∧ Below w.heap.size w w') ∧
    (∀ w, Row4 w a l → Calls Tryd.prog 19 #[calV R a l.length cap, .int .i64 n] w fun e w' => e = .returned (.tuple #[.bool b, .int .i64 c]) ∧ Below w.heap.size w w') :=
  ⟨_, _, fun w hw hr => pIs R l a cap n w hl hw hr, fun w hr => vWorkIs R l a cap n w hl hr⟩
theorem both_next (R : Wk.Rst) (l : List Wk.Rl) (a : Option Addr) (cap : Nat) (n : Int) (hl : l.length ≤ maxLen) : ∃ (x c : Int),
    (∀ w, Laid w → Row4 w a l → Calls Tryd.prog 16 #[calV R a l.length cap, .int .i64 n] w fun e w' => e = .returned (.tuple #[.int .i64 x, .int .i64 c]) ∧ Below w.heap.size w w') ∧
    (∀ w, Row4 w a l → Calls Tryd.prog 20 #[calV R a l.length cap, .int .i64 n] w fun e w' => e = .returned (.tuple #[.int .i64 x, .int .i64 c]) ∧ Below w.heap.size w w') :=
  ⟨_, _, fun w hw hr => pNext R l a cap n w hl hw hr, fun w hr => vWorkNext R l a cap n w hl hr⟩
theorem both_add (R : Wk.Rst) (l : List Wk.Rl) (a : Option Addr) (cap : Nat) (n m : Int) (hl : l.length ≤ maxLen) : ∃ (x c : Int),
    (∀ w, Laid w → Row4 w a l → Calls Tryd.prog 17 #[calV R a l.length cap, .int .i64 n, .int .i64 m] w fun e w' => e = .returned (.tuple #[.int .i64 x, .int .i64 c]) ∧ Below w.heap.size w w') ∧
    (∀ w, Row4 w a l → Calls Tryd.prog 21 #[calV R a l.length cap, .int .i64 n, .int .i64 m] w fun e w' => e = .returned (.tuple #[.int .i64 x, .int .i64 c]) ∧ Below w.heap.size w w') :=
  ⟨_, _, fun w hw hr => pAdd R l a cap n m w hl hw hr, fun w hr => vWorkAdd R l a cap n m w hl hr⟩
theorem both_count (R : Wk.Rst) (l : List Wk.Rl) (a : Option Addr) (cap : Nat) (n m : Int) (hl : l.length ≤ maxLen) : ∃ (x c : Int),
    (∀ w, Laid w → Row4 w a l → Calls Tryd.prog 18 #[calV R a l.length cap, .int .i64 n, .int .i64 m] w fun e w' => e = .returned (.tuple #[.int .i64 x, .int .i64 c]) ∧ Below w.heap.size w w') ∧
    (∀ w, Row4 w a l → Calls Tryd.prog 22 #[calV R a l.length cap, .int .i64 n, .int .i64 m] w fun e w' => e = .returned (.tuple #[.int .i64 x, .int .i64 c]) ∧ Below w.heap.size w w') :=
  ⟨_, _, fun w hw hr => pCount R l a cap n m w hl hw hr, fun w hr => vWorkCount R l a cap n m w hl hr⟩
end Go.Proofs.YtpjpmfcbddkjnaaDoor
