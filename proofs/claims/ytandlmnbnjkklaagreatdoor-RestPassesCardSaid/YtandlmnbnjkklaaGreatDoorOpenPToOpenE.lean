/- A pass that came in, opened: its numbers, and what its days read as. Four words, a key and a word that came in, opened: what they read as. A slice of epochs that came in, opened: what its elements read as. -/
import Derived.Test.YtandlmnbnjkklaaGreatDoorPzRefToPzCut
import Derived.ProofKit
import Derived.OpenShut
import Derived.Deep.Slices
import Derived.Lib.SmallJoins
import Derived.Test.YtandlmnbnjkklaaGreatDoorGRefToGTk
import Derived.SizedLaws
import Derived.Test.YtandlmnbnjkklaaGreatDoorRRowToRPl
namespace Go.Proofs.YtandlmnbnjkklaaGreatDoor
open Go.ChangeShapes Go.WideShapes Go.ChangeAt Go.RowKit Go.Joins Go.Deep

theorem cellsPass : Tryz.prog.cellsOf 24 = 6 := by kernel_rfl
theorem cellsDays : Tryz.prog.cellsOf 22 = 1 := by kernel_rfl
theorem cellsSpanP : Tryz.prog.cellsOf 49 = 2 := by kernel_rfl
theorem cellsIntP : Tryz.prog.cellsOf 3 = 1 := by kernel_rfl
theorem add_offP (b off k : Nat) : (⟨b, off, none⟩ : Addr).add k = ⟨b, off + k, none⟩ := by
  cases k with
  | zero => rfl
  | succ k => simp [Addr.add]
theorem array6 {α : Type} {cs : Array α} (h : cs.size = 6) : ∃ c0 c1 c2 c3 c4 c5, cs = #[c0, c1, c2, c3, c4, c5] := by
  obtain ⟨l⟩ := cs
  match l, h with
  | [c0, c1, c2, c3, c4, c5], _ => exact ⟨c0, c1, c2, c3, c4, c5, rfl⟩
theorem open_days {H : Type} {enc : TypeId × Value → H} {W : World} {B0 : Nat} {spare : Nat → Bool} {held : Bool} {v : Value} {x : DataW H × List MemPlace} {fuel : Nat}
    (hf : DataW.trod enc Tryz.prog W B0 spare held fuel 22 [v] = some x) :
    ∃ (a : Option Addr) (l : List Spn.Sp) (cap : Nat), v = .slice a l.length cap ∧ (a = none → cap = 0 ∧ l = []) ∧ l.length ≤ maxLen ∧ l.length ≤ cap ∧ Row2 W a l := by
  rcases open_slice Tryz.underlying22 hf with ⟨hcs, _⟩ | ⟨a, len, cap, m, n, D, Pl, hcs, hb, hl, hm, hmm, hx, hel⟩
  · simp at hcs
    subst hcs
    exact ⟨none, [], 0, rfl, fun _ => ⟨rfl, rfl⟩, Nat.zero_le _, Nat.zero_le _, .inl rfl⟩
  · simp at hcs
    subst hcs
    have hlm : len ≤ m := by rw [hmm]; split <;> omega
    rw [cellsSpanP] at hel
    have one : ∀ i, i < len → ∃ s : Spn.Sp, W.cell? (a.add (i * 2)) = some (.int .i64 s.1) ∧ W.cell? (a.add (i * 2 + 1)) = some (.int .i64 s.2) := by
      intro i hi
      obtain ⟨cs', h1, h2⟩ := hel i (by omega)
      obtain ⟨_, hlen, hc⟩ := World.cells?_some h1
      match cs', hlen, hc, h2 with
      | [c0, c1], _, hc, h2 =>
        obtain ⟨y0, y1, m2, _, _, t0, t1⟩ := trod_struct2 Tryz.underlying49 h2
        obtain ⟨x0, e0, _, _⟩ := DataW.trod_int Tryz.underlying3 t0
        obtain ⟨x1, e1, _, _⟩ := DataW.trod_int Tryz.underlying3 t1
        rw [cellsIntP] at e0 e1
        simp at e0 e1
        subst e0 e1
        have k0 := hc 0 (by decide)
        have k1 := hc 1 (by decide)
        rw [add_add] at k0 k1
        exact ⟨(x0, x1), by simpa using k0, by simpa using k1⟩
    obtain ⟨f, hf2⟩ := choose_lt one
    refine ⟨some a, (List.range len).map f, cap, by simp, (fun e => by cases e), by simp; omega, by simp; omega, ?_⟩
    by_cases h0 : len = 0
    · subst h0; exact .inl rfl
    · have hz := (hf2 0 (by omega)).1
      obtain ⟨b, off, spot⟩ := a
      have hspot : spot = none := by simpa [Addr.add] using World.cell?_spot hz
      subst hspot
      refine .inr ⟨b, off, rfl, ?_, fun i hi => ?_⟩
      · rw [add_offP] at hz
        exact World.block_lt_of_cell? W _ hz
      · have hi' : i < len := by simpa using hi
        have := hf2 i hi'
        rw [add_offP, add_offP] at this
        simpa [List.getD, hi', Nat.add_assoc] using this
set_option maxRecDepth 100000 in
set_option maxHeartbeats 1000000 in
theorem open_pass {H : Type} {enc : TypeId × Value → H} {W : World} {B0 : Nat} {spare : Nat → Bool} {held : Bool} {v : Value} {d : DataW H} {p : List MemPlace} {r : Reach} {b0 : Nat}
    (hv : Value.okWide Tryz.prog W r b0 24 v) (h : DataW.Trod enc Tryz.prog W B0 spare held 24 v d p) :
    ∃ (F : Pz.Pq) (a : Option Addr) (cap : Nat), v = pv F a F.days.length cap ∧ F.days.length ≤ maxLen ∧ F.days.length ≤ cap ∧ (a = none → cap = 0 ∧ F.days = []) ∧ Row2 W a F.days := by
  obtain ⟨cs, rfl, hsz⟩ := okWide_struct Tryz.underlying24 hv
  obtain ⟨c0, c1, c2, c3, c4, c5, rfl⟩ := array6 (hsz.trans cellsPass)
  obtain ⟨fuel, hf⟩ := h
  obtain ⟨xs, n, _, _, _, hlen, hx⟩ := DataW.trod_struct Tryz.underlying24 hf
  match xs, hlen with
  | [y0, y1, y2, y3, y4, y5], _ =>
    have t0 : DataW.trod enc Tryz.prog W B0 spare held n 3 (List.take (Tryz.prog.cellsOf 3) (List.drop 0 [c0, c1, c2, c3, c4, c5])) = some y0 := hx 0 _ rfl
    rw [cellsIntP] at t0
    simp at t0
    have t1 : DataW.trod enc Tryz.prog W B0 spare held n 3 (List.take (Tryz.prog.cellsOf 3) (List.drop 1 [c0, c1, c2, c3, c4, c5])) = some y1 := hx 1 _ rfl
    rw [cellsIntP] at t1
    simp at t1
    have t2 : DataW.trod enc Tryz.prog W B0 spare held n 3 (List.take (Tryz.prog.cellsOf 3) (List.drop 2 [c0, c1, c2, c3, c4, c5])) = some y2 := hx 2 _ rfl
    rw [cellsIntP] at t2
    simp at t2
    have t3 : DataW.trod enc Tryz.prog W B0 spare held n 3 (List.take (Tryz.prog.cellsOf 3) (List.drop 3 [c0, c1, c2, c3, c4, c5])) = some y3 := hx 3 _ rfl
    rw [cellsIntP] at t3
    simp at t3
    have t4 : DataW.trod enc Tryz.prog W B0 spare held n 3 (List.take (Tryz.prog.cellsOf 3) (List.drop 4 [c0, c1, c2, c3, c4, c5])) = some y4 := hx 4 _ rfl
    rw [cellsIntP] at t4
    simp at t4
    have t5 : DataW.trod enc Tryz.prog W B0 spare held n 22 (List.take (Tryz.prog.cellsOf 22) (List.drop 5 [c0, c1, c2, c3, c4, c5])) = some y5 := hx 5 _ rfl
    rw [cellsDays] at t5
    simp at t5
    obtain ⟨x0, e0, _, _⟩ := DataW.trod_int Tryz.underlying3 t0
    obtain ⟨x1, e1, _, _⟩ := DataW.trod_int Tryz.underlying3 t1
    obtain ⟨x2, e2, _, _⟩ := DataW.trod_int Tryz.underlying3 t2
    obtain ⟨x3, e3, _, _⟩ := DataW.trod_int Tryz.underlying3 t3
    obtain ⟨x4, e4, _, _⟩ := DataW.trod_int Tryz.underlying3 t4
    simp only [List.cons.injEq, and_true] at e0 e1 e2 e3 e4
    subst e0 e1 e2 e3 e4
    obtain ⟨a, l, cap, rfl, hn, hm, hc, hr⟩ := open_days t5
    exact ⟨⟨x0, x1, x2, x3, x4, l⟩, a, cap, rfl, hm, hc, hn, hr⟩
end Go.Proofs.YtandlmnbnjkklaaGreatDoor
namespace Go.Proofs.YtandlmnbnjkklaaGreatDoor
open Go.ChangeShapes Go.WideShapes Go.ChangeAt Go.RowKit Go.Joins Go.Deep

theorem cellsV : Tryz.prog.cellsOf 128 = 4 := by kernel_rfl
theorem cellsK : Tryz.prog.cellsOf 30 = 2 := by kernel_rfl
theorem cellsU : Tryz.prog.cellsOf 28 = 1 := by kernel_rfl
theorem wf_u64 {x : Int} (h : (Lit.int .u64 x).wf = true) : ∃ y : Tg.W, x = wd y := by
  have hb : 0 ≤ x ∧ x < 18446744073709551616 := by
    simp [Lit.wf, IntKind.min, IntKind.max, IntKind.bits, IntKind.signed] at h
    omega
  exact ⟨BitVec.ofNat 64 x.toNat, by rw [wd_of _ (by omega)]; omega⟩
theorem array4 {α : Type} {cs : Array α} (h : cs.size = 4) : ∃ c0 c1 c2 c3, cs = #[c0, c1, c2, c3] := by
  obtain ⟨l⟩ := cs
  match l, h with
  | [c0, c1, c2, c3], _ => exact ⟨c0, c1, c2, c3, rfl⟩
theorem array2 {α : Type} {cs : Array α} (h : cs.size = 2) : ∃ c0 c1, cs = #[c0, c1] := by
  obtain ⟨l⟩ := cs
  match l, h with
  | [c0, c1], _ => exact ⟨c0, c1, rfl⟩
set_option maxRecDepth 100000 in
theorem open_v4 {H : Type} {enc : TypeId × Value → H} {W : World} {B0 : Nat} {spare : Nat → Bool} {held : Bool} {v : Value} {d : DataW H} {p : List MemPlace} {r : Reach} {b0 : Nat}
    (hv : Value.okWide Tryz.prog W r b0 128 v) (h : DataW.Trod enc Tryz.prog W B0 spare held 128 v d p) : ∃ u : Tg.V, v = v4 u := by
  simp only [Value.okWide, Tryz.underlying128] at hv
  obtain ⟨cs, rfl, hsz, _⟩ := hv
  obtain ⟨c0, c1, c2, c3, rfl⟩ := array4 (hsz.trans cellsV)
  obtain ⟨fuel, hf⟩ := h
  obtain ⟨xs, m, _, _, _, hxl, hxe⟩ := DataW.trod_array Tryz.underlying128 hf
  rw [cellsU] at hxe
  have one : ∀ i (hi : i < 4), ∃ y : Tg.W, (([c0, c1, c2, c3] : List Value).drop i).take 1 = [Value.int .u64 (wd y)] := by
    intro i hi
    have e := hxe i hi
    rw [Nat.mul_one, List.getElem?_eq_getElem (by omega)] at e
    obtain ⟨x, hx, _, hw⟩ := DataW.trod_int Tryz.underlying28 e
    obtain ⟨y, rfl⟩ := wf_u64 hw
    exact ⟨y, hx⟩
  obtain ⟨y0, e0⟩ := one 0 (by decide)
  obtain ⟨y1, e1⟩ := one 1 (by decide)
  obtain ⟨y2, e2⟩ := one 2 (by decide)
  obtain ⟨y3, e3⟩ := one 3 (by decide)
  simp at e0 e1 e2 e3
  subst e0 e1 e2 e3
  exact ⟨(y0, y1, y2, y3), rfl⟩
set_option maxRecDepth 100000 in
theorem open_key {H : Type} {enc : TypeId × Value → H} {W : World} {B0 : Nat} {spare : Nat → Bool} {held : Bool} {v : Value} {d : DataW H} {p : List MemPlace} {r : Reach} {b0 : Nat}
    (hv : Value.okWide Tryz.prog W r b0 30 v) (h : DataW.Trod enc Tryz.prog W B0 spare held 30 v d p) : ∃ A B : Tg.W, v = .agg #[.int .u64 (wd A), .int .u64 (wd B)] := by
  obtain ⟨cs, rfl, hsz⟩ := okWide_struct Tryz.underlying30 hv
  obtain ⟨c0, c1, rfl⟩ := array2 (hsz.trans cellsK)
  obtain ⟨fuel, hf⟩ := h
  obtain ⟨y0, y1, n, hx, _, h0, h1⟩ := trod_struct2 Tryz.underlying30 hf
  simp only [Value.cells] at h0 h1
  rw [cellsU] at h0 h1
  obtain ⟨x0, e0, _, w0⟩ := DataW.trod_int Tryz.underlying28 h0
  obtain ⟨x1, e1, _, w1⟩ := DataW.trod_int Tryz.underlying28 h1
  simp at e0 e1
  subst e0 e1
  obtain ⟨A, rfl⟩ := wf_u64 w0
  obtain ⟨B, rfl⟩ := wf_u64 w1
  exact ⟨A, B, rfl⟩
set_option maxRecDepth 100000 in
theorem str_sized {H : Type} {ts : List TypeId} {ds : List (DataW H)} {s : ByteArray} {j : Nat} (hs : (DataW.weightsEach Tryz.prog ts ds).all (· ≤ reachBytes) = true) (ht : ts[j]? = some 9) (hd : ds[j]? = some (.lit (.string s.data.toList))) : s.size ≤ 140737488351232 := by
  have := sized_string hs ht hd
  unfold reachBytes at this
  have e : s.data.toList.length = s.size := by rw [Array.length_toList]; rfl
  omega
end Go.Proofs.YtandlmnbnjkklaaGreatDoor
namespace Go.Proofs.YtandlmnbnjkklaaGreatDoor
open Go.ChangeShapes Go.WideShapes Go.ChangeAt Go.RowKit Go.Joins Go.Deep

theorem cellsEp : Tryz.prog.cellsOf 52 = 3 := by kernel_rfl
theorem cellsI : Tryz.prog.cellsOf 3 = 1 := by kernel_rfl
set_option maxRecDepth 100000 in
theorem open_eps {H : Type} {enc : TypeId × Value → H} {W : World} {B0 : Nat} {spare : Nat → Bool} {held : Bool} {v : Value} {d : DataW H} {p : List MemPlace} {r : Reach} {b0 : Nat}
    (hv : Value.okWide Tryz.prog W r b0 27 v) (h : DataW.Trod enc Tryz.prog W B0 spare held 27 v d p) :
    ∃ (a : Option Addr) (l : List Rg.Ep) (cap : Nat), v = .slice a l.length cap ∧ l.length ≤ maxLen ∧ l.length ≤ cap ∧ (a = none → l = [] ∧ cap = 0) ∧ Row3 W a l := by
  obtain ⟨a0, len, cap, rfl⟩ := okWide_slice Tryz.underlying27 hv
  obtain ⟨fuel, hf⟩ := h
  rcases open_slice Tryz.underlying27 hf with ⟨hcs, _⟩ | ⟨a, len', cap', m, n, D, Pl, hcs, hb, hl, hm, hmm, hx, hel⟩
  · simp [Value.cells] at hcs
    obtain ⟨rfl, rfl, rfl⟩ := hcs
    exact ⟨none, [], 0, rfl, Nat.zero_le _, Nat.zero_le _, fun _ => ⟨rfl, rfl⟩, .inl rfl⟩
  · simp [Value.cells] at hcs
    obtain ⟨rfl, rfl, rfl⟩ := hcs
    have hlm : len ≤ m := by rw [hmm]; split <;> omega
    rw [cellsEp] at hel
    have one : ∀ i, i < len → ∃ s : Rg.Ep, W.cell? (a.add (i * 3)) = some (.int .i64 s.1) ∧ W.cell? (a.add (i * 3 + 1)) = some (.int .u64 (wd s.2.1)) ∧ W.cell? (a.add (i * 3 + 2)) = some (.int .u64 (wd s.2.2)) := by
      intro i hi
      obtain ⟨cs', h1, h2⟩ := hel i (by omega)
      obtain ⟨_, hlen, hc⟩ := World.cells?_some h1
      match cs', hlen, hc, h2 with
      | [c0, c1, c2], _, hc, h2 =>
        obtain ⟨y0, y1, m2, _, _, t0, t1⟩ := trod_struct2 Tryz.underlying52 h2
        rw [cellsI] at t0
        rw [cellsK] at t1
        obtain ⟨x0, e0, _, _⟩ := DataW.trod_int Tryz.underlying3 t0
        obtain ⟨z0, z1, m3, _, _, s0, s1⟩ := trod_struct2 Tryz.underlying30 t1
        rw [cellsU] at s0 s1
        obtain ⟨x1, e1, _, w1⟩ := DataW.trod_int Tryz.underlying28 s0
        obtain ⟨x2, e2, _, w2⟩ := DataW.trod_int Tryz.underlying28 s1
        obtain ⟨A, rfl⟩ := wf_u64 w1
        obtain ⟨B, rfl⟩ := wf_u64 w2
        simp at e0 e1 e2
        subst e0 e1 e2
        have k0 := hc 0 (by decide)
        have k1 := hc 1 (by decide)
        have k2 := hc 2 (by decide)
        rw [add_add] at k0 k1 k2
        exact ⟨(x0, A, B), by simpa using k0, by simpa using k1, by simpa using k2⟩
    obtain ⟨f, hf2⟩ := choose_lt one
    refine ⟨some a, (List.range len).map f, cap, by simp, by simp; omega, by simp; omega, (fun e => by cases e), ?_⟩
    by_cases h0 : len = 0
    · subst h0; exact .inl rfl
    · have hz := (hf2 0 (by omega)).1
      obtain ⟨b, off, spot⟩ := a
      have hspot : spot = none := by simpa [Addr.add] using World.cell?_spot hz
      subst hspot
      refine .inr ⟨b, off, rfl, ?_, fun i hi => ?_⟩
      · rw [add_none] at hz
        exact World.block_lt_of_cell? W _ hz
      · have hi' : i < len := by simpa using hi
        have := hf2 i hi'
        rw [add_none, add_none, add_none] at this
        simpa [List.getD, hi', Nat.add_assoc] using this
end Go.Proofs.YtandlmnbnjkklaaGreatDoor
