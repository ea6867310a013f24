/- What must be in any case (dateBegun) is so: it answers true, whatever lies in memory beside the table of months. -/
import Derived.Test.YtandlmnbnjkklaaDoorCore
import Derived.Deep.RegionWith
import Derived.BigQuiet
import Derived.Lib.QuietBelow
namespace Go.Proofs.YtandlmnbnjkklaaDoor
open Go.RowKit Go.BigFrame Go.Sort

/-- A block of three whole numbers that lies there. -/
def Has3 (w : World) (b : Nat) (x y z : Int) : Prop := b < w.heap.size ∧ w.cell? ⟨b, 0, none⟩ = some (.int .i64 x) ∧ w.cell? ⟨b, 1, none⟩ = some (.int .i64 y) ∧ w.cell? ⟨b, 2, none⟩ = some (.int .i64 z)
theorem Has3.below {w w' : World} {b : Nat} {x y z : Int} (h : Has3 w b x y z) (hb : Below w.heap.size w w') : Has3 w' b x y z :=
  ⟨Nat.lt_of_lt_of_le h.1 hb.size, by rw [(bcell hb).1 b 0 h.1]; exact h.2.1, by rw [(bcell hb).1 b 1 h.1]; exact h.2.2.1, by rw [(bcell hb).1 b 2 h.1]; exact h.2.2.2⟩
theorem Has3.new (w : World) (x y z : Int) (t : Nat) : Has3 (w.alloc (.cells #[.int .i64 x, .int .i64 y, .int .i64 z] t)) w.heap.size x y z :=
  ⟨by simp, by simp, by simp, by simp⟩
theorem Has3.alloc {w : World} {b : Nat} {x y z : Int} (h : Has3 w b x y z) (o : Obj) : Has3 (w.alloc o) b x y z := h.below (below_box w o)
theorem Has3.drewN {w : World} {b : Nat} {x y z : Int} (h : Has3 w b x y z) (n : Nat) : Has3 (w.drewN n) b x y z := h.below (below_drewN (Below.refl _ _) n)
theorem below_next {B : Nat} {a W w' : World} (h : Below B a W) (hB : B ≤ a.heap.size) (hb : Below W.heap.size W w') : Below B a w' :=
  h.trans (hb.mono (Nat.le_trans hB h.size))

theorem below_a {B : Nat} {a w : World} (h : Below B a w) (hB : B ≤ a.heap.size) (o : Obj) : Below B a (w.alloc o) := h.alloc (Nat.le_trans hB h.size) o

theorem day_at (y m d n : Int) (w : World) (hw : Laid w) (h : Cal.vld y m d) (hn : Cal.num y m d = n) :
    Calls Tryd.prog 86 #[.agg #[.int .i64 y, .int .i64 m, .int .i64 d]] w fun e w' => e = .returned (.tuple #[.int .i64 n, .int .i64 0]) ∧ Below w.heap.size w w' := by
  subst hn; exact day_ok y m d w hw h
theorem of_at (n y m d : Int) (w : World) (hw : Laid w) (h : Cal.vld y m d) (hn : Cal.num y m d = n) :
    Calls Tryd.prog 78 #[.int .i64 n] w fun e w' => e = .returned (.tuple #[.agg #[.int .i64 y, .int .i64 m, .int .i64 d], .int .i64 0]) ∧ Below w.heap.size w w' := by
  have hi := Cal.num_in y m d h
  refine (of_ok n w hw (by omega) (by omega)).mono ?_
  rintro e w' ⟨y', m', d', rfl, hv, hn', hb⟩
  obtain ⟨rfl, rfl, rfl⟩ := Cal.num_inj _ _ _ _ _ _ hv h (by omega)
  exact ⟨rfl, hb⟩
theorem leap_is (y : Int) (b : Bool) (w : World) (h : Cal.leap y = b) :
    Calls Tryd.prog 99 #[.int .i64 y] w fun e w' => e = .returned (.bool b) ∧ Below w.heap.size w w' := by
  subst h
  exact (leap_any y w).mono fun _ _ h => ⟨h.1, h.2 ▸ Below.refl _ _⟩
theorem week_at : Cal.wyear 739936 = 2026 ∧ Cal.wno 739936 = 47 ∧ Cal.wday 739936 = 1 := by decide +kernel

end Go.Proofs.YtandlmnbnjkklaaDoor
