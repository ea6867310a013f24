/- A slice of whole numbers that came in, opened: what its elements read as. -/
import Derived.Test.YthokgbbolijgiaaRow1
import Derived.ProofKit
import Derived.Deep.Slices
import Derived.Lib.SmallJoins
namespace Go.Proofs.Ythokgbbolijgiaa
open Go.ChangeShapes Go.WideShapes Go.ChangeAt Go.RowKit Go.Joins Go.Deep

theorem cellsInt1 : Try.prog.cellsOf 3 = 1 := by kernel_rfl
theorem add_off1 (b off k : Nat) : (⟨b, off, none⟩ : Addr).add k = ⟨b, off + k, none⟩ := by
  cases k with
  | zero => rfl
  | succ k => simp [Addr.add]
theorem open_ints {H : Type} {enc : TypeId × Value → H} {W : World} {B0 : Nat} {spare : Nat → Bool} {held : Bool} {v : Value} {d : DataW H} {p : List MemPlace} {r : Reach} {b0 : Nat}
    (hv : Value.okWide Try.prog W r b0 26 v) (h : DataW.Trod enc Try.prog W B0 spare held 26 v d p) :
    ∃ (a : Option Addr) (l : List Int) (cap : Nat), v = .slice a l.length cap ∧ (a = none → cap = 0 ∧ l = []) ∧ l.length ≤ maxLen ∧ Row1 W a l := by
  obtain ⟨a0, len, cap, rfl⟩ := okWide_slice Try.underlying26 hv
  obtain ⟨fuel, hf⟩ := h
  rcases open_slice Try.underlying26 hf with ⟨hcs, _⟩ | ⟨a, len', cap', m, n, D, Pl, hcs, hb, hl, hm, hmm, hx, hel⟩
  · simp [Value.cells] at hcs
    obtain ⟨rfl, rfl, rfl⟩ := hcs
    exact ⟨none, [], 0, rfl, fun _ => ⟨rfl, rfl⟩, Nat.zero_le _, .inl rfl⟩
  · simp [Value.cells] at hcs
    obtain ⟨rfl, rfl, rfl⟩ := hcs
    have hlm : len ≤ m := by rw [hmm]; split <;> omega
    rw [cellsInt1] at hel
    have one : ∀ i, i < len → ∃ s : Int, W.cell? (a.add i) = some (.int .i64 s) := by
      intro i hi
      obtain ⟨cs', h1, h2⟩ := hel i (by omega)
      obtain ⟨_, hlen, hc⟩ := World.cells?_some h1
      match cs', hlen, hc, h2 with
      | [c0], _, hc, h2 =>
        obtain ⟨x0, e0, _, _⟩ := DataW.trod_int Try.underlying3 h2
        simp at e0
        subst e0
        have k0 := hc 0 (by decide)
        rw [add_add] at k0
        exact ⟨x0, by simpa using k0⟩
    obtain ⟨f, hf2⟩ := choose_lt one
    refine ⟨some a, (List.range len).map f, cap, by simp, (fun e => by cases e), by simp; omega, ?_⟩
    by_cases h0 : len = 0
    · subst h0; exact .inl rfl
    · have hz := hf2 0 (by omega)
      obtain ⟨b, off, spot⟩ := a
      have hspot : spot = none := by simpa [Addr.add] using World.cell?_spot hz
      subst hspot
      refine .inr ⟨b, off, rfl, ?_, fun i hi => ?_⟩
      · rw [add_off1] at hz
        exact World.block_lt_of_cell? W _ hz
      · have hi' : i < len := by simpa using hi
        have := hf2 i hi'
        rw [add_off1] at this
        simpa [List.getD, hi', Nat.add_assoc] using this
end Go.Proofs.Ythokgbbolijgiaa
