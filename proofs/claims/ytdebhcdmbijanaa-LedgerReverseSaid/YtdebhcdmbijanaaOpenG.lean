/- Postings that came in, opened: their ids, and their lines. -/
import Derived.Test.YtdebhcdmbijanaaLgBeg
import Derived.ProofKit
import Derived.OpenShut
import Derived.Deep.Slices
import Derived.Lib.SmallJoins
namespace Go.Proofs.Ytdebhcdmbijanaa
open Go.ChangeShapes Go.WideShapes Go.ChangeAt Go.RowKit Go.Joins Go.Deep

theorem cellsLn : Try.prog.cellsOf 44 = 2 := by kernel_rfl
theorem cellsPs : Try.prog.cellsOf 25 = 2 := by kernel_rfl
theorem cellsI4 : Try.prog.cellsOf 3 = 1 := by kernel_rfl
theorem cellsLs : Try.prog.cellsOf 23 = 1 := by kernel_rfl
theorem add_off4 (b off k : Nat) : (⟨b, off, none⟩ : Addr).add k = ⟨b, off + k, none⟩ := by
  cases k with
  | zero => rfl
  | succ k => simp [Addr.add]
theorem open_linesC {H : Type} {enc : TypeId × Value → H} {W : World} {B0 : Nat} {spare : Nat → Bool} {held : Bool} {fuel : Nat} {cs : List Value} {x : DataW H × List MemPlace}
    (hf : DataW.trod enc Try.prog W B0 spare held fuel 23 cs = some x) :
    ∃ (a : Option Addr) (l : List Lg.Ln) (cap : Nat), cs = [.slice a l.length cap] ∧ (a = none → l = [] ∧ cap = 0) ∧ (l.length ≤ maxLen ∧ l.length ≤ cap) ∧ RowL W a l := by
  rcases open_slice Try.underlying23 hf with ⟨hcs, _⟩ | ⟨a, len, cap, m, n, D, Pl, hcs, hb, hl, hm, hmm, hx, hel⟩
  · exact ⟨none, [], 0, hcs, fun _ => ⟨rfl, rfl⟩, ⟨Nat.zero_le _, Nat.zero_le _⟩, .inl rfl⟩
  · have hlm : len ≤ m := by rw [hmm]; split <;> omega
    rw [cellsLn] at hel
    have one : ∀ i, i < len → ∃ s : Lg.Ln, W.cell? (a.add (i * 2)) = some (.int .i64 s.1) ∧ W.cell? (a.add (i * 2 + 1)) = some (.int .i64 s.2) := by
      intro i hi
      obtain ⟨cs', h1, h2⟩ := hel i (by omega)
      obtain ⟨_, hlen, hc⟩ := World.cells?_some h1
      match cs', hlen, hc, h2 with
      | [c0, c1], _, hc, h2 =>
        obtain ⟨y0, y1, m2, _, _, t0, t1⟩ := trod_struct2 Try.underlying44 h2
        rw [cellsI4] at t0 t1
        obtain ⟨x0, e0, _, _⟩ := DataW.trod_int Try.underlying3 t0
        obtain ⟨x1, e1, _, _⟩ := DataW.trod_int Try.underlying3 t1
        simp at e0 e1
        subst e0 e1
        have k0 := hc 0 (by decide)
        have k1 := hc 1 (by decide)
        rw [add_add] at k0 k1
        exact ⟨(x0, x1), by simpa using k0, by simpa using k1⟩
    obtain ⟨f, hf2⟩ := choose_lt one
    refine ⟨some a, (List.range len).map f, cap, by rw [hcs]; simp, (fun e => by cases e), ⟨by simp; omega, by simp; omega⟩, ?_⟩
    by_cases h0 : len = 0
    · subst h0; exact .inl rfl
    · have hz := (hf2 0 (by omega)).1
      obtain ⟨b, off, spot⟩ := a
      have hspot : spot = none := by simpa [Addr.add] using World.cell?_spot hz
      subst hspot
      refine .inr ⟨b, off, rfl, ?_, fun i hi => ?_⟩
      · rw [add_off4] at hz
        exact World.block_lt_of_cell? W _ hz
      · have hi' : i < len := by simpa using hi
        have := hf2 i hi'
        rw [add_off4, add_off4] at this
        simpa [List.getD, hi', Nat.add_assoc] using this
/-- one posting's two cells -/
theorem open_psC {H : Type} {enc : TypeId × Value → H} {W : World} {B0 : Nat} {spare : Nat → Bool} {held : Bool} {fuel : Nat} {c0 c1 : Value} {x : DataW H × List MemPlace}
    (hf : DataW.trod enc Try.prog W B0 spare held fuel 25 [c0, c1] = some x) : ∃ (id : Int) (a : Option Addr) (l : List Lg.Ln) (cap : Nat), c0 = .int .i64 id ∧ c1 = .slice a l.length cap ∧ (l.length ≤ maxLen ∧ l.length ≤ cap) ∧ RowL W a l := by
  obtain ⟨y0, y1, m2, _, _, t0, t1⟩ := trod_struct2 Try.underlying25 hf
  rw [cellsI4] at t0
  try rw [cellsLs] at t1
  obtain ⟨x0, e0, _, _⟩ := DataW.trod_int Try.underlying3 t0
  obtain ⟨a, l, cap, e1, _, h2, h3⟩ := open_linesC t1
  simp at e0 e1
  exact ⟨x0, a, l, cap, e0, e1, h2, h3⟩
theorem arrayG {α : Type} {cs : Array α} (h : cs.size = 2) : ∃ c0 c1, cs = #[c0, c1] := by
  obtain ⟨l⟩ := cs
  match l, h with
  | [c0, c1], _ => exact ⟨c0, c1, rfl⟩
theorem open_posting {H : Type} {enc : TypeId × Value → H} {W : World} {B0 : Nat} {spare : Nat → Bool} {held : Bool} {v : Value} {d : DataW H} {p : List MemPlace} {r : Reach} {b0 : Nat}
    (hv : Value.okWide Try.prog W r b0 25 v) (h : DataW.Trod enc Try.prog W B0 spare held 25 v d p) :
    ∃ (id : Int) (a : Option Addr) (l : List Lg.Ln) (cap : Nat), v = .agg #[.int .i64 id, .slice a l.length cap] ∧ (l.length ≤ maxLen ∧ l.length ≤ cap) ∧ RowL W a l := by
  obtain ⟨cs, rfl, hsz⟩ := okWide_struct Try.underlying25 hv
  obtain ⟨c0, c1, rfl⟩ := arrayG (hsz.trans cellsPs)
  obtain ⟨fuel, hf⟩ := h
  obtain ⟨id, a, l, cap, rfl, rfl, h2, h3⟩ := open_psC hf
  exact ⟨id, a, l, cap, rfl, h2, h3⟩
theorem open_postings {H : Type} {enc : TypeId × Value → H} {W : World} {B0 : Nat} {spare : Nat → Bool} {held : Bool} {v : Value} {d : DataW H} {p : List MemPlace} {r : Reach} {b0 : Nat}
    (hv : Value.okWide Try.prog W r b0 22 v) (h : DataW.Trod enc Try.prog W B0 spare held 22 v d p) :
    ∃ (a : Option Addr) (l : List Lg.Ps) (cap : Nat), v = .slice a l.length cap ∧ Ldg W a l.length cap l := by
  obtain ⟨a0, len, cap, rfl⟩ := okWide_slice Try.underlying22 hv
  obtain ⟨fuel, hf⟩ := h
  rcases open_slice Try.underlying22 hf with ⟨hcs, _⟩ | ⟨a, len', cap', m, n, D, Pl, hcs, hb, hl, hm, hmm, hx, hel⟩
  · simp [Value.cells] at hcs
    obtain ⟨rfl, rfl, rfl⟩ := hcs
    exact ⟨none, [], 0, rfl, Ldg.empty _⟩
  · simp [Value.cells] at hcs
    obtain ⟨rfl, rfl, rfl⟩ := hcs
    have hlm : len ≤ m := by rw [hmm]; split <;> omega
    rw [cellsPs] at hel
    have one : ∀ i, i < len → ∃ s : Pu × Lg.Ps, W.cell? (a.add (i * 2)) = some (.int .i64 s.1.1) ∧ W.cell? (a.add (i * 2 + 1)) = some s.1.2 ∧ RdP W s.1 s.2 ∧ s.2.2.length ≤ maxLen := by
      intro i hi
      obtain ⟨cs', h1, h2⟩ := hel i (by omega)
      obtain ⟨_, hlen, hc⟩ := World.cells?_some h1
      match cs', hlen, hc, h2 with
      | [c0, c1], _, hc, h2 =>
        obtain ⟨id, la, ls, lc, rfl, rfl, h3, h4⟩ := open_psC h2
        have k0 := hc 0 (by decide)
        have k1 := hc 1 (by decide)
        rw [add_add] at k0 k1
        exact ⟨((id, .slice la ls.length lc), (id, ls)), by simpa using k0, by simpa using k1, ⟨rfl, la, lc, rfl, h3.2, h4⟩, h3.1⟩
    obtain ⟨f, hf2⟩ := choose_lt one
    have hat : ∀ {β : Type} (g : Pu × Lg.Ps → β) (i : Nat) (u : β), (((List.range len).map f).map g)[i]? = some u → i < len ∧ u = g (f i) := by
      intro β g i u hu
      rw [List.map_map] at hu
      by_cases hi : i < len
      · simp [hi] at hu
        exact ⟨hi, hu.symm⟩
      · simp [hi] at hu
    refine ⟨some a, ((List.range len).map f).map (·.2), cap, by simp, ⟨rfl, ⟨by simp; omega, by simp; omega⟩, (fun e => by cases e), ?_, ?_⟩⟩
    · intro p hp
      obtain ⟨i, hi⟩ := List.mem_iff_getElem?.1 hp
      obtain ⟨h1, rfl⟩ := hat _ i p hi
      exact (hf2 i h1).2.2.2
    · refine ⟨((List.range len).map f).map (·.1), ⟨by simp, fun i u p hu hp => ?_⟩, ?_⟩
      · obtain ⟨h1, rfl⟩ := hat _ i u hu
        obtain ⟨_, rfl⟩ := hat _ i p hp
        exact (hf2 i h1).2.2.1
      · by_cases h0 : len = 0
        · subst h0; exact .inl rfl
        · have hz := (hf2 0 (by omega)).1
          obtain ⟨b, off, spot⟩ := a
          have hspot : spot = none := by simpa [Addr.add] using World.cell?_spot hz
          subst hspot
          refine .inr ⟨b, off, rfl, ?_, fun j v hj => ?_⟩
          · rw [add_off4] at hz
            exact World.block_lt_of_cell? W _ hz
          · have hjl : j < len * 2 := by
              rcases Nat.lt_or_ge j (len * 2) with c | c
              · exact c
              · rw [List.getElem?_eq_none (by rw [flatP_len]; simp; omega)] at hj; cases hj
            have hi : j / 2 < len := by omega
            have hu : (((List.range len).map f).map (·.1))[j / 2]? = some (f (j / 2)).1 := by simp [hi]
            obtain ⟨f1, f2⟩ := flatP_at _ (j / 2) _ hu
            obtain ⟨c1, c2, _, _⟩ := hf2 (j / 2) hi
            rw [add_off4] at c1 c2
            rcases Nat.mod_two_eq_zero_or_one j with c | c
            · have e : j / 2 * 2 = j := by omega
              rw [e] at f1 c1
              rw [← Option.some.inj (f1.symm.trans hj)]
              exact c1
            · have e : j / 2 * 2 + 1 = j := by omega
              rw [e] at f2 c2
              rw [← Option.some.inj (f2.symm.trans hj)]
              exact c2
end Go.Proofs.Ytdebhcdmbijanaa
