/- A calendar that came in, opened: its seven bools, and what its rules read as. -/
import Derived.Test.YtehopfpcikbaiaaDoorWCal
import Derived.ProofKit
import Derived.OpenShut
import Derived.Deep.Slices
import Derived.Lib.SmallJoins
namespace Go.Proofs.YtehopfpcikbaiaaDoor
open Go.ChangeShapes Go.WideShapes Go.ChangeAt Go.RowKit Go.Joins Go.Deep

theorem cellsCal : Tryd.prog.cellsOf 25 = 8 := by kernel_rfl
theorem cellsRest : Tryd.prog.cellsOf 22 = 7 := by kernel_rfl
theorem cellsBool : Tryd.prog.cellsOf 4 = 1 := by kernel_rfl
theorem cellsRules : Tryd.prog.cellsOf 23 = 1 := by kernel_rfl
theorem cellsRule : Tryd.prog.cellsOf 74 = 4 := by kernel_rfl
theorem cellsNum : Tryd.prog.cellsOf 3 = 1 := by kernel_rfl
theorem addr_off (b off k : Nat) : (⟨b, off, none⟩ : Addr).add k = ⟨b, off + k, none⟩ := by
  cases k with
  | zero => rfl
  | succ k => simp [Addr.add]
theorem array8 {α : Type} {cs : Array α} (h : cs.size = 8) : ∃ c0 c1 c2 c3 c4 c5 c6 c7, cs = #[c0, c1, c2, c3, c4, c5, c6, c7] := by
  obtain ⟨l⟩ := cs
  match l, h with
  | [c0, c1, c2, c3, c4, c5, c6, c7], _ => exact ⟨c0, c1, c2, c3, c4, c5, c6, c7, rfl⟩
theorem open_rules {H : Type} {enc : TypeId × Value → H} {W : World} {B0 : Nat} {spare : Nat → Bool} {held : Bool} {v : Value} {x : DataW H × List MemPlace} {fuel : Nat}
    (hf : DataW.trod enc Tryd.prog W B0 spare held fuel 23 [v] = some x) :
    ∃ (a : Option Addr) (l : List Wk.Rl) (cap : Nat), v = .slice a l.length cap ∧ l.length ≤ maxLen ∧ Row4 W a l := by
  rcases open_slice Tryd.underlying23 hf with ⟨hcs, _⟩ | ⟨a, len, cap, m, n, D, Pl, hcs, hb, hl, hm, hmm, hx, hel⟩
  · simp at hcs
    subst hcs
    exact ⟨none, [], 0, rfl, Nat.zero_le _, .inl rfl⟩
  · simp at hcs
    subst hcs
    have hlm : len ≤ m := by rw [hmm]; split <;> omega
    rw [cellsRule] at hel
    have one : ∀ i, i < len → ∃ s : Wk.Rl, W.cell? (a.add (i * 4)) = some (.int .i64 s.1) ∧ W.cell? (a.add (i * 4 + 1)) = some (.int .i64 s.2.1) ∧ W.cell? (a.add (i * 4 + 2)) = some (.int .i64 s.2.2.1) ∧ W.cell? (a.add (i * 4 + 3)) = some (.int .i64 s.2.2.2) := by
      intro i hi
      obtain ⟨cs', h1, h2⟩ := hel i (by omega)
      obtain ⟨_, hlen, hc⟩ := World.cells?_some h1
      match cs', hlen, hc, h2 with
      | [c0, c1, c2, c3], _, hc, h2 =>
        obtain ⟨y0, y1, y2, y3, m2, _, _, t0, t1, t2, t3⟩ := trod_struct4 Tryd.underlying74 h2
        obtain ⟨x0, e0, _, _⟩ := DataW.trod_int Tryd.underlying3 t0
        obtain ⟨x1, e1, _, _⟩ := DataW.trod_int Tryd.underlying3 t1
        obtain ⟨x2, e2, _, _⟩ := DataW.trod_int Tryd.underlying3 t2
        obtain ⟨x3, e3, _, _⟩ := DataW.trod_int Tryd.underlying3 t3
        rw [cellsNum] at e0 e1 e2 e3
        simp at e0 e1 e2 e3
        subst e0 e1 e2 e3
        have k0 := hc 0 (by decide)
        have k1 := hc 1 (by decide)
        have k2 := hc 2 (by decide)
        have k3 := hc 3 (by decide)
        rw [add_add] at k0 k1 k2 k3
        exact ⟨(x0, x1, x2, x3), by simpa using k0, by simpa using k1, by simpa using k2, by simpa using k3⟩
    obtain ⟨f, hf2⟩ := choose_lt one
    refine ⟨some a, (List.range len).map f, cap, by simp, by simp; omega, ?_⟩
    by_cases h0 : len = 0
    · subst h0; exact .inl rfl
    · have hz := (hf2 0 (by omega)).1
      obtain ⟨b, off, spot⟩ := a
      have hspot : spot = none := by simpa [Addr.add] using World.cell?_spot hz
      subst hspot
      refine .inr ⟨b, off, rfl, ?_, fun i hi => ?_⟩
      · rw [addr_off] at hz
        exact World.block_lt_of_cell? W _ hz
      · have hi' : i < len := by simpa using hi
        have := hf2 i hi'
        rw [addr_off, addr_off, addr_off, addr_off] at this
        simpa [List.getD, hi', Nat.add_assoc] using this
set_option maxRecDepth 100000 in
set_option maxHeartbeats 1000000 in
theorem open_cal {H : Type} {enc : TypeId × Value → H} {W : World} {B0 : Nat} {spare : Nat → Bool} {held : Bool} {v : Value} {d : DataW H} {p : List MemPlace} {r : Reach} {b0 : Nat}
    (hv : Value.okWide Tryd.prog W r b0 25 v) (h : DataW.Trod enc Tryd.prog W B0 spare held 25 v d p) :
    ∃ (R : Wk.Rst) (a : Option Addr) (l : List Wk.Rl) (cap : Nat), v = calV R a l.length cap ∧ l.length ≤ maxLen ∧ Row4 W a l := by
  obtain ⟨cs, rfl, hsz⟩ := okWide_struct Tryd.underlying25 hv
  obtain ⟨c0, c1, c2, c3, c4, c5, c6, c7, rfl⟩ := array8 (hsz.trans cellsCal)
  obtain ⟨fuel, hf⟩ := h
  obtain ⟨y0, y1, n, hx, _, h0, h1⟩ := trod_struct2 Tryd.underlying25 hf
  simp only [Value.cells] at h0 h1
  rw [cellsRest] at h0
  rw [cellsRules] at h1
  simp at h0 h1
  obtain ⟨xs, m, _, _, _, hxl, hxe⟩ := DataW.trod_array Tryd.underlying22 h0
  rw [cellsBool] at hxe
  have one : ∀ i (hi : i < 7), ∃ b, ([c0, c1, c2, c3, c4, c5, c6].drop i).take 1 = [Value.bool b] := by
    intro i hi
    have e := hxe i hi
    rw [Nat.mul_one] at e
    rw [List.getElem?_eq_getElem (by omega)] at e
    obtain ⟨b, hb, _⟩ := DataW.trod_bool Tryd.underlying4 e
    exact ⟨b, hb⟩
  obtain ⟨b0', e0⟩ := one 0 (by decide)
  obtain ⟨b1', e1⟩ := one 1 (by decide)
  obtain ⟨b2', e2⟩ := one 2 (by decide)
  obtain ⟨b3', e3⟩ := one 3 (by decide)
  obtain ⟨b4', e4⟩ := one 4 (by decide)
  obtain ⟨b5', e5⟩ := one 5 (by decide)
  obtain ⟨b6', e6⟩ := one 6 (by decide)
  simp at e0 e1 e2 e3 e4 e5 e6
  subst e0 e1 e2 e3 e4 e5 e6
  obtain ⟨a, l, cap, rfl, hl, hr⟩ := open_rules h1
  exact ⟨⟨b0', b1', b2', b3', b4', b5', b6'⟩, a, l, cap, rfl, hl, hr⟩
end Go.Proofs.YtehopfpcikbaiaaDoor
