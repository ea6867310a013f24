/- A slice of epochs that came in, opened: what its elements read as. -/
import Derived.Test.YtcjpbmfdgheolaaRRow
import Derived.Test.YtcjpbmfdgheolaaOpenT
namespace Go.Proofs.Ytcjpbmfdgheolaa
open Go.ChangeShapes Go.WideShapes Go.ChangeAt Go.RowKit Go.Joins Go.Deep

theorem cellsEp : Try.prog.cellsOf 40 = 3 := by kernel_rfl
theorem cellsI : Try.prog.cellsOf 3 = 1 := by kernel_rfl
theorem open_eps {H : Type} {enc : TypeId × Value → H} {W : World} {B0 : Nat} {spare : Nat → Bool} {held : Bool} {v : Value} {d : DataW H} {p : List MemPlace} {r : Reach} {b0 : Nat}
    (hv : Value.okWide Try.prog W r b0 22 v) (h : DataW.Trod enc Try.prog W B0 spare held 22 v d p) :
    ∃ (a : Option Addr) (l : List Rg.Ep) (cap : Nat), v = .slice a l.length cap ∧ l.length ≤ maxLen ∧ l.length ≤ cap ∧ (a = none → l = [] ∧ cap = 0) ∧ Row3 W a l := by
  obtain ⟨a0, len, cap, rfl⟩ := okWide_slice Try.underlying22 hv
  obtain ⟨fuel, hf⟩ := h
  rcases open_slice Try.underlying22 hf with ⟨hcs, _⟩ | ⟨a, len', cap', m, n, D, Pl, hcs, hb, hl, hm, hmm, hx, hel⟩
  · simp [Value.cells] at hcs
    obtain ⟨rfl, rfl, rfl⟩ := hcs
    exact ⟨none, [], 0, rfl, Nat.zero_le _, Nat.zero_le _, fun _ => ⟨rfl, rfl⟩, .inl rfl⟩
  · simp [Value.cells] at hcs
    obtain ⟨rfl, rfl, rfl⟩ := hcs
    have hlm : len ≤ m := by rw [hmm]; split <;> omega
    rw [cellsEp] at hel
    have one : ∀ i, i < len → ∃ s : Rg.Ep, W.cell? (a.add (i * 3)) = some (.int .i64 s.1) ∧ W.cell? (a.add (i * 3 + 1)) = some (.int .u64 (wd s.2.1)) ∧ W.cell? (a.add (i * 3 + 2)) = some (.int .u64 (wd s.2.2)) := by
      intro i hi
      obtain ⟨cs', h1, h2⟩ := hel i (by omega)
      obtain ⟨_, hlen, hc⟩ := World.cells?_some h1
      match cs', hlen, hc, h2 with
      | [c0, c1, c2], _, hc, h2 =>
        obtain ⟨y0, y1, m2, _, _, t0, t1⟩ := trod_struct2 Try.underlying40 h2
        rw [cellsI] at t0
        rw [cellsK] at t1
        obtain ⟨x0, e0, _, _⟩ := DataW.trod_int Try.underlying3 t0
        obtain ⟨z0, z1, m3, _, _, s0, s1⟩ := trod_struct2 Try.underlying25 t1
        rw [cellsU] at s0 s1
        obtain ⟨x1, e1, _, w1⟩ := DataW.trod_int Try.underlying23 s0
        obtain ⟨x2, e2, _, w2⟩ := DataW.trod_int Try.underlying23 s1
        obtain ⟨A, rfl⟩ := wf_u64 w1
        obtain ⟨B, rfl⟩ := wf_u64 w2
        simp at e0 e1 e2
        subst e0 e1 e2
        have k0 := hc 0 (by decide)
        have k1 := hc 1 (by decide)
        have k2 := hc 2 (by decide)
        rw [add_add] at k0 k1 k2
        exact ⟨(x0, A, B), by simpa using k0, by simpa using k1, by simpa using k2⟩
    obtain ⟨f, hf2⟩ := choose_lt one
    refine ⟨some a, (List.range len).map f, cap, by simp, by simp; omega, by simp; omega, (fun e => by cases e), ?_⟩
    by_cases h0 : len = 0
    · subst h0; exact .inl rfl
    · have hz := (hf2 0 (by omega)).1
      obtain ⟨b, off, spot⟩ := a
      have hspot : spot = none := by simpa [Addr.add] using World.cell?_spot hz
      subst hspot
      refine .inr ⟨b, off, rfl, ?_, fun i hi => ?_⟩
      · rw [add_none] at hz
        exact World.block_lt_of_cell? W _ hz
      · have hi' : i < len := by simpa using hi
        have := hf2 i hi'
        rw [add_none, add_none, add_none] at this
        simpa [List.getD, hi', Nat.add_assoc] using this
end Go.Proofs.Ytcjpbmfdgheolaa
