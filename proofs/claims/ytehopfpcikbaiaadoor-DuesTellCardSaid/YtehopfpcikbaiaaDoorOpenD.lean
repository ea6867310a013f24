/- A slice of dues that came in, opened: what its elements read as. -/
import Derived.Test.YtehopfpcikbaiaaDoorDRow
import Derived.ProofKit
import Derived.Deep.Slices
import Derived.Lib.SmallJoins
namespace Go.Proofs.YtehopfpcikbaiaaDoor
open Go.ChangeShapes Go.WideShapes Go.ChangeAt Go.RowKit Go.Joins Go.Deep

theorem cellsDu : Tryd.prog.cellsOf 42 = 2 := by kernel_rfl
theorem cellsIntD : Tryd.prog.cellsOf 3 = 1 := by kernel_rfl
theorem add_offD (b off k : Nat) : (⟨b, off, none⟩ : Addr).add k = ⟨b, off + k, none⟩ := by
  cases k with
  | zero => rfl
  | succ k => simp [Addr.add]
set_option maxRecDepth 100000 in
theorem open_dues {H : Type} {enc : TypeId × Value → H} {W : World} {B0 : Nat} {spare : Nat → Bool} {held : Bool} {v : Value} {d : DataW H} {p : List MemPlace} {r : Reach} {b0 : Nat}
    (hv : Value.okWide Tryd.prog W r b0 28 v) (h : DataW.Trod enc Tryd.prog W B0 spare held 28 v d p) :
    ∃ (a : Option Addr) (l : List Dp.Du) (cap : Nat), v = .slice a l.length cap ∧ (a = none → cap = 0 ∧ l = []) ∧ (l.length ≤ maxLen ∧ l.length ≤ cap) ∧ RowD W a l := by
  obtain ⟨a0, len, cap, rfl⟩ := okWide_slice Tryd.underlying28 hv
  obtain ⟨fuel, hf⟩ := h
  rcases open_slice Tryd.underlying28 hf with ⟨hcs, _⟩ | ⟨a, len', cap', m, n, D, Pl, hcs, hb, hl, hm, hmm, hx, hel⟩
  · simp [Value.cells] at hcs
    obtain ⟨rfl, rfl, rfl⟩ := hcs
    exact ⟨none, [], 0, rfl, fun _ => ⟨rfl, rfl⟩, ⟨Nat.zero_le _, Nat.zero_le _⟩, .inl rfl⟩
  · simp [Value.cells] at hcs
    obtain ⟨rfl, rfl, rfl⟩ := hcs
    have hlm : len ≤ m := by rw [hmm]; split <;> omega
    rw [cellsDu] at hel
    have one : ∀ i, i < len → ∃ s : Dp.Du, W.cell? (a.add (i * 2)) = some (.int .i64 s.1) ∧ W.cell? (a.add (i * 2 + 1)) = some (.int .i64 s.2) := by
      intro i hi
      obtain ⟨cs', h1, h2⟩ := hel i (by omega)
      obtain ⟨_, hlen, hc⟩ := World.cells?_some h1
      match cs', hlen, hc, h2 with
      | [c0, c1], _, hc, h2 =>
        obtain ⟨y0, y1, m2, _, _, t0, t1⟩ := trod_struct2 Tryd.underlying42 h2
        obtain ⟨x0, e0, _, _⟩ := DataW.trod_int Tryd.underlying3 t0
        obtain ⟨x1, e1, _, _⟩ := DataW.trod_int Tryd.underlying3 t1
        rw [cellsIntD] at e0 e1
        simp at e0 e1
        subst e0 e1
        have k0 := hc 0 (by decide)
        have k1 := hc 1 (by decide)
        rw [add_add] at k0 k1
        exact ⟨(x0, x1), by simpa using k0, by simpa using k1⟩
    obtain ⟨f, hf2⟩ := choose_lt one
    refine ⟨some a, (List.range len).map f, cap, by simp, (fun e => by cases e), ⟨by simp; omega, by simp; omega⟩, ?_⟩
    by_cases h0 : len = 0
    · subst h0; exact .inl rfl
    · have hz := (hf2 0 (by omega)).1
      obtain ⟨b, off, spot⟩ := a
      have hspot : spot = none := by simpa [Addr.add] using World.cell?_spot hz
      subst hspot
      refine .inr ⟨b, off, rfl, ?_, fun i hi => ?_⟩
      · rw [add_offD] at hz
        exact World.block_lt_of_cell? W _ hz
      · have hi' : i < len := by simpa using hi
        have := hf2 i hi'
        rw [add_offD, add_offD] at this
        simpa [List.getD, hi', Nat.add_assoc] using this
end Go.Proofs.YtehopfpcikbaiaaDoor
