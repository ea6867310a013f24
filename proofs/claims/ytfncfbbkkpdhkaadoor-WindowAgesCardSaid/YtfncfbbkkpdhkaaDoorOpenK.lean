/- Classes that came in, opened: one, and a slice of them. -/
import Derived.Test.YtfncfbbkkpdhkaaDoorPnRow
import Derived.ProofKit
import Derived.OpenShut
import Derived.Deep.Slices
import Derived.Lib.SmallJoins
namespace Go.Proofs.YtfncfbbkkpdhkaaDoor
open Go.ChangeShapes Go.WideShapes Go.ChangeAt Go.RowKit Go.Joins Go.Deep

theorem cellsKl : Tryd.prog.cellsOf 23 = 3 := by kernel_rfl
theorem cellsIK : Tryd.prog.cellsOf 3 = 1 := by kernel_rfl
theorem add_offK (b off k : Nat) : (⟨b, off, none⟩ : Addr).add k = ⟨b, off + k, none⟩ := by
  cases k with
  | zero => rfl
  | succ k => simp [Addr.add]
/-- one class's three cells -/
theorem open_klC {H : Type} {enc : TypeId × Value → H} {W : World} {B0 : Nat} {spare : Nat → Bool} {held : Bool} {fuel : Nat} {c0 c1 c2 : Value} {x : DataW H × List MemPlace}
    (hf : DataW.trod enc Tryd.prog W B0 spare held fuel 23 [c0, c1, c2] = some x) : ∃ f t p : Int, c0 = .int .i64 f ∧ c1 = .int .i64 t ∧ c2 = .int .i64 p := by
  obtain ⟨y0, y1, y2, m2, _, _, t0, t1, t2⟩ := trod_struct3 Tryd.underlying23 hf
  rw [cellsIK] at t0 t1 t2
  obtain ⟨x0, e0, _, _⟩ := DataW.trod_int Tryd.underlying3 t0
  obtain ⟨x1, e1, _, _⟩ := DataW.trod_int Tryd.underlying3 t1
  obtain ⟨x2, e2, _, _⟩ := DataW.trod_int Tryd.underlying3 t2
  simp at e0 e1 e2
  exact ⟨x0, x1, x2, e0, e1, e2⟩
theorem arrayK {α : Type} {cs : Array α} (h : cs.size = 3) : ∃ c0 c1 c2, cs = #[c0, c1, c2] := by
  obtain ⟨l⟩ := cs
  match l, h with
  | [c0, c1, c2], _ => exact ⟨c0, c1, c2, rfl⟩
theorem open_class {H : Type} {enc : TypeId × Value → H} {W : World} {B0 : Nat} {spare : Nat → Bool} {held : Bool} {v : Value} {d : DataW H} {p : List MemPlace} {r : Reach} {b0 : Nat}
    (hv : Value.okWide Tryd.prog W r b0 23 v) (h : DataW.Trod enc Tryd.prog W B0 spare held 23 v d p) : ∃ f t p : Int, v = .agg #[.int .i64 f, .int .i64 t, .int .i64 p] := by
  obtain ⟨cs, rfl, hsz⟩ := okWide_struct Tryd.underlying23 hv
  obtain ⟨c0, c1, c2, rfl⟩ := arrayK (hsz.trans cellsKl)
  obtain ⟨fuel, hf⟩ := h
  obtain ⟨f, t, p, rfl, rfl, rfl⟩ := open_klC hf
  exact ⟨f, t, p, rfl⟩
theorem open_classes {H : Type} {enc : TypeId × Value → H} {W : World} {B0 : Nat} {spare : Nat → Bool} {held : Bool} {v : Value} {d : DataW H} {p : List MemPlace} {r : Reach} {b0 : Nat}
    (hv : Value.okWide Tryd.prog W r b0 24 v) (h : DataW.Trod enc Tryd.prog W B0 spare held 24 v d p) :
    ∃ (a : Option Addr) (l : List Prs.Kl) (cap : Nat), v = .slice a l.length cap ∧ (a = none → cap = 0 ∧ l = []) ∧ (l.length ≤ maxLen ∧ l.length ≤ cap) ∧ RowK W a l := by
  obtain ⟨a0, len, cap, rfl⟩ := okWide_slice Tryd.underlying24 hv
  obtain ⟨fuel, hf⟩ := h
  rcases open_slice Tryd.underlying24 hf with ⟨hcs, _⟩ | ⟨a, len', cap', m, n, D, Pl, hcs, hb, hl, hm, hmm, hx, hel⟩
  · simp [Value.cells] at hcs
    obtain ⟨rfl, rfl, rfl⟩ := hcs
    exact ⟨none, [], 0, rfl, fun _ => ⟨rfl, rfl⟩, ⟨Nat.zero_le _, Nat.zero_le _⟩, .inl rfl⟩
  · simp [Value.cells] at hcs
    obtain ⟨rfl, rfl, rfl⟩ := hcs
    have hlm : len ≤ m := by rw [hmm]; split <;> omega
    rw [cellsKl] at hel
    have one : ∀ i, i < len → ∃ s : Prs.Kl, W.cell? (a.add (i * 3)) = some (.int .i64 s.f) ∧ W.cell? (a.add (i * 3 + 1)) = some (.int .i64 s.t) ∧ W.cell? (a.add (i * 3 + 2)) = some (.int .i64 s.p) := by
      intro i hi
      obtain ⟨cs', h1, h2⟩ := hel i (by omega)
      obtain ⟨_, hlen, hc⟩ := World.cells?_some h1
      match cs', hlen, hc, h2 with
      | [c0, c1, c2], _, hc, h2 =>
        obtain ⟨f, t, p, rfl, rfl, rfl⟩ := open_klC h2
        have k0 := hc 0 (by decide)
        have k1 := hc 1 (by decide)
        have k2 := hc 2 (by decide)
        rw [add_add] at k0 k1 k2
        exact ⟨⟨f, t, p⟩, by simpa using k0, by simpa using k1, by simpa using k2⟩
    haveI : Inhabited Prs.Kl := ⟨⟨0, 0, 0⟩⟩
    obtain ⟨f, hf2⟩ := choose_lt one
    refine ⟨some a, (List.range len).map f, cap, by simp, (fun e => by cases e), ⟨by simp; omega, by simp; omega⟩, ?_⟩
    by_cases h0 : len = 0
    · subst h0; exact .inl rfl
    · have hz := (hf2 0 (by omega)).1
      obtain ⟨b, off, spot⟩ := a
      have hspot : spot = none := by simpa [Addr.add] using World.cell?_spot hz
      subst hspot
      refine .inr ⟨b, off, rfl, ?_, fun i c hi => ?_⟩
      · rw [add_offK] at hz
        exact World.block_lt_of_cell? W _ hz
      · have hi' : i < len := by
          rcases Nat.lt_or_ge i len with q | q
          · exact q
          · rw [List.getElem?_eq_none (by simp; omega)] at hi; cases hi
        simp [hi'] at hi
        subst hi
        have := hf2 i hi'
        rw [add_offK, add_offK, add_offK] at this
        simpa [Nat.add_assoc] using this
end Go.Proofs.YtfncfbbkkpdhkaaDoor
