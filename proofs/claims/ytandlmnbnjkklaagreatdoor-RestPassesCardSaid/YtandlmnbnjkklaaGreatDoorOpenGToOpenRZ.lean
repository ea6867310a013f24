/- Postings that came in, opened: their ids, and their lines. What a pass, a ring and postings that came in may take, by their readings; the postings opened with what a nil row of lines is. -/
import Derived.Test.YtandlmnbnjkklaaGreatDoorLgBegToLgS5
import Derived.ProofKit
import Derived.OpenShut
import Derived.Deep.Slices
import Derived.Lib.SmallJoins
import Derived.Test.YtandlmnbnjkklaaGreatDoorOpenPToOpenE
import Derived.Test.YtandlmnbnjkklaaGreatDoorLgT
import Derived.SizedLaws
namespace Go.Proofs.YtandlmnbnjkklaaGreatDoor
open Go.ChangeShapes Go.WideShapes Go.ChangeAt Go.RowKit Go.Joins Go.Deep

theorem cellsLn : Tryz.prog.cellsOf 54 = 2 := by kernel_rfl
theorem cellsPs : Tryz.prog.cellsOf 34 = 2 := by kernel_rfl
theorem cellsI4 : Tryz.prog.cellsOf 3 = 1 := by kernel_rfl
theorem cellsLs : Tryz.prog.cellsOf 32 = 1 := by kernel_rfl
theorem add_off4 (b off k : Nat) : (⟨b, off, none⟩ : Addr).add k = ⟨b, off + k, none⟩ := by
  cases k with
  | zero => rfl
  | succ k => simp [Addr.add]
set_option maxRecDepth 100000 in
theorem open_linesC {H : Type} {enc : TypeId × Value → H} {W : World} {B0 : Nat} {spare : Nat → Bool} {held : Bool} {fuel : Nat} {cs : List Value} {x : DataW H × List MemPlace}
    (hf : DataW.trod enc Tryz.prog W B0 spare held fuel 32 cs = some x) :
    ∃ (a : Option Addr) (l : List Lg.Ln) (cap : Nat), cs = [.slice a l.length cap] ∧ (a = none → l = [] ∧ cap = 0) ∧ (l.length ≤ maxLen ∧ l.length ≤ cap) ∧ RowL W a l := by
  rcases open_slice Tryz.underlying32 hf with ⟨hcs, _⟩ | ⟨a, len, cap, m, n, D, Pl, hcs, hb, hl, hm, hmm, hx, hel⟩
  · exact ⟨none, [], 0, hcs, fun _ => ⟨rfl, rfl⟩, ⟨Nat.zero_le _, Nat.zero_le _⟩, .inl rfl⟩
  · have hlm : len ≤ m := by rw [hmm]; split <;> omega
    rw [cellsLn] at hel
    have one : ∀ i, i < len → ∃ s : Lg.Ln, W.cell? (a.add (i * 2)) = some (.int .i64 s.1) ∧ W.cell? (a.add (i * 2 + 1)) = some (.int .i64 s.2) := by
      intro i hi
      obtain ⟨cs', h1, h2⟩ := hel i (by omega)
      obtain ⟨_, hlen, hc⟩ := World.cells?_some h1
      match cs', hlen, hc, h2 with
      | [c0, c1], _, hc, h2 =>
        obtain ⟨y0, y1, m2, _, _, t0, t1⟩ := trod_struct2 Tryz.underlying54 h2
        rw [cellsI4] at t0 t1
        obtain ⟨x0, e0, _, _⟩ := DataW.trod_int Tryz.underlying3 t0
        obtain ⟨x1, e1, _, _⟩ := DataW.trod_int Tryz.underlying3 t1
        simp at e0 e1
        subst e0 e1
        have k0 := hc 0 (by decide)
        have k1 := hc 1 (by decide)
        rw [add_add] at k0 k1
        exact ⟨(x0, x1), by simpa using k0, by simpa using k1⟩
    obtain ⟨f, hf2⟩ := choose_lt one
    refine ⟨some a, (List.range len).map f, cap, by rw [hcs]; simp, (fun e => by cases e), ⟨by simp; omega, by simp; omega⟩, ?_⟩
    by_cases h0 : len = 0
    · subst h0; exact .inl rfl
    · have hz := (hf2 0 (by omega)).1
      obtain ⟨b, off, spot⟩ := a
      have hspot : spot = none := by simpa [Addr.add] using World.cell?_spot hz
      subst hspot
      refine .inr ⟨b, off, rfl, ?_, fun i hi => ?_⟩
      · rw [add_off4] at hz
        exact World.block_lt_of_cell? W _ hz
      · have hi' : i < len := by simpa using hi
        have := hf2 i hi'
        rw [add_off4, add_off4] at this
        simpa [List.getD, hi', Nat.add_assoc] using this
set_option maxRecDepth 100000 in
/-- one posting's two cells -/
theorem open_psC {H : Type} {enc : TypeId × Value → H} {W : World} {B0 : Nat} {spare : Nat → Bool} {held : Bool} {fuel : Nat} {c0 c1 : Value} {x : DataW H × List MemPlace}
    (hf : DataW.trod enc Tryz.prog W B0 spare held fuel 34 [c0, c1] = some x) : ∃ (id : Int) (a : Option Addr) (l : List Lg.Ln) (cap : Nat), c0 = .int .i64 id ∧ c1 = .slice a l.length cap ∧ (l.length ≤ maxLen ∧ l.length ≤ cap) ∧ RowL W a l := by
  obtain ⟨y0, y1, m2, _, _, t0, t1⟩ := trod_struct2 Tryz.underlying34 hf
  rw [cellsI4] at t0
  try rw [cellsLs] at t1
  obtain ⟨x0, e0, _, _⟩ := DataW.trod_int Tryz.underlying3 t0
  obtain ⟨a, l, cap, e1, _, h2, h3⟩ := open_linesC t1
  simp at e0 e1
  exact ⟨x0, a, l, cap, e0, e1, h2, h3⟩
theorem arrayG {α : Type} {cs : Array α} (h : cs.size = 2) : ∃ c0 c1, cs = #[c0, c1] := by
  obtain ⟨l⟩ := cs
  match l, h with
  | [c0, c1], _ => exact ⟨c0, c1, rfl⟩
set_option maxRecDepth 100000 in
theorem open_posting {H : Type} {enc : TypeId × Value → H} {W : World} {B0 : Nat} {spare : Nat → Bool} {held : Bool} {v : Value} {d : DataW H} {p : List MemPlace} {r : Reach} {b0 : Nat}
    (hv : Value.okWide Tryz.prog W r b0 34 v) (h : DataW.Trod enc Tryz.prog W B0 spare held 34 v d p) :
    ∃ (id : Int) (a : Option Addr) (l : List Lg.Ln) (cap : Nat), v = .agg #[.int .i64 id, .slice a l.length cap] ∧ (l.length ≤ maxLen ∧ l.length ≤ cap) ∧ RowL W a l := by
  obtain ⟨cs, rfl, hsz⟩ := okWide_struct Tryz.underlying34 hv
  obtain ⟨c0, c1, rfl⟩ := arrayG (hsz.trans cellsPs)
  obtain ⟨fuel, hf⟩ := h
  obtain ⟨id, a, l, cap, rfl, rfl, h2, h3⟩ := open_psC hf
  exact ⟨id, a, l, cap, rfl, h2, h3⟩
set_option maxRecDepth 100000 in
theorem open_postings {H : Type} {enc : TypeId × Value → H} {W : World} {B0 : Nat} {spare : Nat → Bool} {held : Bool} {v : Value} {d : DataW H} {p : List MemPlace} {r : Reach} {b0 : Nat}
    (hv : Value.okWide Tryz.prog W r b0 31 v) (h : DataW.Trod enc Tryz.prog W B0 spare held 31 v d p) :
    ∃ (a : Option Addr) (l : List Lg.Ps) (cap : Nat), v = .slice a l.length cap ∧ Ldg W a l.length cap l := by
  obtain ⟨a0, len, cap, rfl⟩ := okWide_slice Tryz.underlying31 hv
  obtain ⟨fuel, hf⟩ := h
  rcases open_slice Tryz.underlying31 hf with ⟨hcs, _⟩ | ⟨a, len', cap', m, n, D, Pl, hcs, hb, hl, hm, hmm, hx, hel⟩
  · simp [Value.cells] at hcs
    obtain ⟨rfl, rfl, rfl⟩ := hcs
    exact ⟨none, [], 0, rfl, Ldg.empty _⟩
  · simp [Value.cells] at hcs
    obtain ⟨rfl, rfl, rfl⟩ := hcs
    have hlm : len ≤ m := by rw [hmm]; split <;> omega
    rw [cellsPs] at hel
    have one : ∀ i, i < len → ∃ s : Pu × Lg.Ps, W.cell? (a.add (i * 2)) = some (.int .i64 s.1.1) ∧ W.cell? (a.add (i * 2 + 1)) = some s.1.2 ∧ RdP W s.1 s.2 ∧ s.2.2.length ≤ maxLen := by
      intro i hi
      obtain ⟨cs', h1, h2⟩ := hel i (by omega)
      obtain ⟨_, hlen, hc⟩ := World.cells?_some h1
      match cs', hlen, hc, h2 with
      | [c0, c1], _, hc, h2 =>
        obtain ⟨id, la, ls, lc, rfl, rfl, h3, h4⟩ := open_psC h2
        have k0 := hc 0 (by decide)
        have k1 := hc 1 (by decide)
        rw [add_add] at k0 k1
        exact ⟨((id, .slice la ls.length lc), (id, ls)), by simpa using k0, by simpa using k1, ⟨rfl, la, lc, rfl, h3.2, h4⟩, h3.1⟩
    obtain ⟨f, hf2⟩ := choose_lt one
    have hat : ∀ {β : Type} (g : Pu × Lg.Ps → β) (i : Nat) (u : β), (((List.range len).map f).map g)[i]? = some u → i < len ∧ u = g (f i) := by
      intro β g i u hu
      rw [List.map_map] at hu
      by_cases hi : i < len
      · simp [hi] at hu
        exact ⟨hi, hu.symm⟩
      · simp [hi] at hu
    refine ⟨some a, ((List.range len).map f).map (·.2), cap, by simp, ⟨rfl, ⟨by simp; omega, by simp; omega⟩, (fun e => by cases e), ?_, ?_⟩⟩
    · intro p hp
      obtain ⟨i, hi⟩ := List.mem_iff_getElem?.1 hp
      obtain ⟨h1, rfl⟩ := hat _ i p hi
      exact (hf2 i h1).2.2.2
    · refine ⟨((List.range len).map f).map (·.1), ⟨by simp, fun i u p hu hp => ?_⟩, ?_⟩
      · obtain ⟨h1, rfl⟩ := hat _ i u hu
        obtain ⟨_, rfl⟩ := hat _ i p hp
        exact (hf2 i h1).2.2.1
      · by_cases h0 : len = 0
        · subst h0; exact .inl rfl
        · have hz := (hf2 0 (by omega)).1
          obtain ⟨b, off, spot⟩ := a
          have hspot : spot = none := by simpa [Addr.add] using World.cell?_spot hz
          subst hspot
          refine .inr ⟨b, off, rfl, ?_, fun j v hj => ?_⟩
          · rw [add_off4] at hz
            exact World.block_lt_of_cell? W _ hz
          · have hjl : j < len * 2 := by
              rcases Nat.lt_or_ge j (len * 2) with c | c
              · exact c
              · rw [List.getElem?_eq_none (by rw [flatP_len]; simp; omega)] at hj; cases hj
            have hi : j / 2 < len := by omega
            have hu : (((List.range len).map f).map (·.1))[j / 2]? = some (f (j / 2)).1 := by simp [hi]
            obtain ⟨f1, f2⟩ := flatP_at _ (j / 2) _ hu
            obtain ⟨c1, c2, _, _⟩ := hf2 (j / 2) hi
            rw [add_off4] at c1 c2
            rcases Nat.mod_two_eq_zero_or_one j with c | c
            · have e : j / 2 * 2 = j := by omega
              rw [e] at f1 c1
              rw [← Option.some.inj (f1.symm.trans hj)]
              exact c1
            · have e : j / 2 * 2 + 1 = j := by omega
              rw [e] at f2 c2
              rw [← Option.some.inj (f2.symm.trans hj)]
              exact c2
end Go.Proofs.YtandlmnbnjkklaaGreatDoor
namespace Go.Proofs.YtandlmnbnjkklaaGreatDoor
open Go.ChangeShapes Go.WideShapes Go.ChangeAt Go.RowKit Go.Joins Go.Deep

theorem bytesSp : Tryz.prog.bytesOf 49 = 16 := by kernel_rfl
theorem bytesEp : Tryz.prog.bytesOf 52 = 24 := by kernel_rfl
theorem bytesPs : Tryz.prog.bytesOf 34 = 32 := by kernel_rfl
theorem bytesLn : Tryz.prog.bytesOf 54 = 16 := by kernel_rfl
theorem wAll_mem {H : Type} {P : Program} {e : TypeId} {d : DataW H} {n : Nat} (hn : n ∈ d.weights P e) : ∀ (ds : List (DataW H)), d ∈ ds → n ∈ DataW.weightsAll P e ds
  | [], h => by cases h
  | d0 :: ds, h => by
    simp only [DataW.weightsAll, List.mem_append]
    rcases List.mem_cons.1 h with rfl | h
    · exact .inl hn
    · exact .inr (wAll_mem hn ds h)
/-- a datum takes no less than this -/
def Wt {H : Type} (t : TypeId) (d : DataW H) (m : Nat) : Prop := m = 0 ∨ ∃ x, x ∈ d.weights Tryz.prog t ∧ m ≤ x
theorem Wt.top {H : Type} {t : TypeId} {d : DataW H} {m : Nat} (h : Wt t d m) {ts : List TypeId} {ds : List (DataW H)} {j : Nat} (hs : (DataW.weightsEach Tryz.prog ts ds).all (· ≤ reachBytes) = true) (ht : ts[j]? = some t) (hd : ds[j]? = some d) : m ≤ 140737488351232 := by
  rcases h with rfl | ⟨x, hx, hm⟩
  · omega
  · have h1 := List.all_eq_true.1 hs _ (DataW.weights_mem_each ht hd x hx)
    have h2 : x ≤ reachBytes := by simpa using h1
    unfold reachBytes at h2
    omega
theorem wt_slice {H : Type} {t e : TypeId} (hu : Tryz.prog.underlying t = some (.slice e)) (el sp : List (DataW H)) : Wt t (.slice el sp) (el.length * Tryz.prog.bytesOf e) :=
  .inr ⟨(el.length + sp.length) * Tryz.prog.bytesOf e, by simp [DataW.weights, hu], Nat.mul_le_mul_right _ (by omega)⟩
theorem wt_elem {H : Type} {t e : TypeId} {d : DataW H} {m : Nat} (hu : Tryz.prog.underlying t = some (.slice e)) (h : Wt e d m) (el sp : List (DataW H)) (hm : d ∈ el) : Wt t (.slice el sp) m := by
  rcases h with h | ⟨x, hx, hl⟩
  · exact .inl h
  · exact .inr ⟨x, by simp only [DataW.weights, hu, List.mem_cons, List.mem_append]; exact .inr (.inl (wAll_mem hx el hm)), hl⟩
theorem wt_part {H : Type} {t ft : TypeId} {fs : Array Field} {d : DataW H} {m : Nat} (hu : Tryz.prog.underlying t = some (.struct fs)) (h : Wt ft d m) (parts : List (DataW H)) (i : Nat) (hf : (fs.toList.map (·.type))[i]? = some ft) (hp : parts[i]? = some d) : Wt t (.agg parts) m := by
  rcases h with h | ⟨x, hx, hl⟩
  · exact .inl h
  · exact .inr ⟨x, by simp only [DataW.weights, hu]; exact DataW.weights_mem_each hf hp x hx, hl⟩
set_option maxRecDepth 100000 in
theorem slice_wt {H : Type} {enc : TypeId × Value → H} {W : World} {B0 : Nat} {spare : Nat → Bool} {held : Bool} {fuel : Nat} {t e : TypeId} {a : Option Addr} {n c : Nat} {cs : List Value} {x : DataW H × List MemPlace} (hu : Tryz.prog.underlying t = some (.slice e))
    (hf : DataW.trod enc Tryz.prog W B0 spare held fuel t cs = some x) (hcs : cs = [.slice a n c]) : Wt t x.1 (n * Tryz.prog.bytesOf e) := by
  rcases open_slice hu hf with ⟨hc, _⟩ | ⟨a', len, cap, m, k, D, Pl, hc, hb, hl, hm, hmm, hx, hel⟩
  · rw [hcs] at hc
    simp at hc
    exact .inl (by rw [hc.2.1]; omega)
  · rw [hcs] at hc
    simp at hc
    obtain ⟨rfl, rfl, rfl⟩ := hc
    rw [hx]
    have := wt_slice hu ((List.range n).map D) ((List.range (m - n)).map fun j => D (n + j))
    simpa using this
set_option maxRecDepth 100000 in
theorem pass_wt {H : Type} {enc : TypeId × Value → H} {W : World} {B0 : Nat} {spare : Nat → Bool} {held : Bool} {F : Pz.Pq} {a : Option Addr} {n c : Nat} {d : DataW H} {p : List MemPlace}
    (h : DataW.Trod enc Tryz.prog W B0 spare held 24 (pv F a n c) d p) : Wt 24 d (n * 16) := by
  obtain ⟨fuel, hf⟩ := h
  obtain ⟨i, b, pa, pb, s, l⟩ := F
  obtain ⟨xs, k, _, hd, _, hlen, hx⟩ := DataW.trod_struct Tryz.underlying24 hf
  match xs, hlen with
  | [y0, y1, y2, y3, y4, y5], _ =>
    have t5 : DataW.trod enc Tryz.prog W B0 spare held k 22 (List.take (Tryz.prog.cellsOf 22) (List.drop 5 [.int .i64 i, .int .i64 b, .int .i64 pa, .int .i64 pb, .int .i64 s, .slice a n c])) = some y5 := hx 5 _ rfl
    rw [cellsDays] at t5
    have w5 := slice_wt Tryz.underlying22 t5 rfl
    rw [bytesSp] at w5
    obtain rfl : d = _ := congrArg Prod.fst hd
    exact wt_part Tryz.underlying24 w5 _ 5 rfl rfl
set_option maxRecDepth 100000 in
theorem eps_wt {H : Type} {enc : TypeId × Value → H} {W : World} {B0 : Nat} {spare : Nat → Bool} {held : Bool} {a : Option Addr} {n c : Nat} {d : DataW H} {p : List MemPlace}
    (h : DataW.Trod enc Tryz.prog W B0 spare held 27 (.slice a n c) d p) : Wt 27 d (n * 24) := by
  obtain ⟨fuel, hf⟩ := h
  have := slice_wt Tryz.underlying27 hf rfl
  rwa [bytesEp] at this
set_option maxRecDepth 100000 in
/-- one posting's two cells, with what it takes -/
theorem open_psCZ {H : Type} {enc : TypeId × Value → H} {W : World} {B0 : Nat} {spare : Nat → Bool} {held : Bool} {fuel : Nat} {c0 c1 : Value} {x : DataW H × List MemPlace}
    (hf : DataW.trod enc Tryz.prog W B0 spare held fuel 34 [c0, c1] = some x) : ∃ (id : Int) (a : Option Addr) (l : List Lg.Ln) (cap : Nat), c0 = .int .i64 id ∧ c1 = .slice a l.length cap ∧ (l.length ≤ maxLen ∧ l.length ≤ cap) ∧ RowL W a l ∧ (a = none → l = [] ∧ cap = 0) ∧ Wt 34 x.1 (l.length * 16) := by
  obtain ⟨y0, y1, m2, hx, _, t0, t1⟩ := trod_struct2 Tryz.underlying34 hf
  rw [cellsI4] at t0
  try rw [cellsLs] at t1
  obtain ⟨x0, e0, _, _⟩ := DataW.trod_int Tryz.underlying3 t0
  obtain ⟨a, l, cap, e1, h1, h2, h3⟩ := open_linesC t1
  have w1 := slice_wt Tryz.underlying32 t1 e1
  rw [bytesLn] at w1
  simp at e0 e1
  refine ⟨x0, a, l, cap, e0, e1, h2, h3, h1, ?_⟩
  rw [hx]
  exact wt_part Tryz.underlying34 w1 _ 1 rfl rfl
set_option maxRecDepth 100000 in
theorem open_postingZ {H : Type} {enc : TypeId × Value → H} {W : World} {B0 : Nat} {spare : Nat → Bool} {held : Bool} {v : Value} {d : DataW H} {p : List MemPlace} {r : Reach} {b0 : Nat}
    (hv : Value.okWide Tryz.prog W r b0 34 v) (h : DataW.Trod enc Tryz.prog W B0 spare held 34 v d p) :
    ∃ (id : Int) (a : Option Addr) (l : List Lg.Ln) (cap : Nat), v = .agg #[.int .i64 id, .slice a l.length cap] ∧ (l.length ≤ maxLen ∧ l.length ≤ cap) ∧ RowL W a l ∧ (a = none → l = [] ∧ cap = 0) ∧ Wt 34 d (l.length * 16) := by
  obtain ⟨cs, rfl, hsz⟩ := okWide_struct Tryz.underlying34 hv
  obtain ⟨c0, c1, rfl⟩ := arrayG (hsz.trans cellsPs)
  obtain ⟨fuel, hf⟩ := h
  obtain ⟨id, a, l, cap, rfl, rfl, h2, h3, h4, h5⟩ := open_psCZ hf
  exact ⟨id, a, l, cap, rfl, h2, h3, h4, h5⟩
set_option maxRecDepth 100000 in
theorem open_postingsZ {H : Type} {enc : TypeId × Value → H} {W : World} {B0 : Nat} {spare : Nat → Bool} {held : Bool} {v : Value} {d : DataW H} {p : List MemPlace} {r : Reach} {b0 : Nat}
    (hv : Value.okWide Tryz.prog W r b0 31 v) (h : DataW.Trod enc Tryz.prog W B0 spare held 31 v d p) :
    ∃ (a : Option Addr) (l : List Lg.Ps) (cap : Nat), v = .slice a l.length cap ∧ Ldg W a l.length cap l ∧ RowGN W a l ∧ Wt 31 d (l.length * 32) ∧ ∀ q ∈ l, Wt 31 d (q.2.length * 16) := by
  obtain ⟨a0, len, cap, rfl⟩ := okWide_slice Tryz.underlying31 hv
  obtain ⟨fuel, hf⟩ := h
  have hw := slice_wt Tryz.underlying31 hf rfl
  rw [bytesPs] at hw
  rcases open_slice Tryz.underlying31 hf with ⟨hcs, _⟩ | ⟨a, len', cap', m, n, D, Pl, hcs, hb, hl, hm, hmm, hx, hel⟩
  · simp [Value.cells] at hcs
    obtain ⟨rfl, rfl, rfl⟩ := hcs
    exact ⟨none, [], 0, rfl, Ldg.empty _, fun k hk => by simp at hk, .inl rfl, fun q hq => by cases hq⟩
  · simp [Value.cells] at hcs
    obtain ⟨rfl, rfl, rfl⟩ := hcs
    have hlm : len ≤ m := by rw [hmm]; split <;> omega
    rw [cellsPs] at hel
    have one : ∀ i, i < len → ∃ s : Pu × Lg.Ps, W.cell? (a.add (i * 2)) = some (.int .i64 s.1.1) ∧ W.cell? (a.add (i * 2 + 1)) = some s.1.2 ∧ RdP W s.1 s.2 ∧ s.2.2.length ≤ maxLen ∧ (∃ la lc, s.1.2 = .slice la s.2.2.length lc ∧ (la = none → s.2.2 = [] ∧ lc = 0) ∧ RowL W la s.2.2) ∧ s.1.1 = s.2.1 ∧ Wt 34 (D i) (s.2.2.length * 16) := by
      intro i hi
      obtain ⟨cs', h1, h2⟩ := hel i (by omega)
      obtain ⟨_, hlen, hc⟩ := World.cells?_some h1
      match cs', hlen, hc, h2 with
      | [c0, c1], _, hc, h2 =>
        obtain ⟨id, la, ls, lc, rfl, rfl, h3, h4, h5, h6⟩ := open_psCZ h2
        have k0 := hc 0 (by decide)
        have k1 := hc 1 (by decide)
        rw [add_add] at k0 k1
        exact ⟨((id, .slice la ls.length lc), (id, ls)), by simpa using k0, by simpa using k1, ⟨rfl, la, lc, rfl, h3.2, h4⟩, h3.1, ⟨la, lc, rfl, h5, h4⟩, rfl, h6⟩
    obtain ⟨f, hf2⟩ := choose_lt one
    have hat : ∀ {β : Type} (g : Pu × Lg.Ps → β) (i : Nat) (u : β), (((List.range len).map f).map g)[i]? = some u → i < len ∧ u = g (f i) := by
      intro β g i u hu
      rw [List.map_map] at hu
      by_cases hi : i < len
      · simp [hi] at hu
        exact ⟨hi, hu.symm⟩
      · simp [hi] at hu
    refine ⟨some a, ((List.range len).map f).map (·.2), cap, by simp, ⟨rfl, ⟨by simp; omega, by simp; omega⟩, (fun e => by cases e), ?_, ?_⟩, ?_, by simpa using hw, ?_⟩
    · intro p hp
      obtain ⟨i, hi⟩ := List.mem_iff_getElem?.1 hp
      obtain ⟨h1, rfl⟩ := hat _ i p hi
      exact (hf2 i h1).2.2.2.1
    · refine ⟨((List.range len).map f).map (·.1), ⟨by simp, fun i u p hu hp => ?_⟩, ?_⟩
      · obtain ⟨h1, rfl⟩ := hat _ i u hu
        obtain ⟨_, rfl⟩ := hat _ i p hp
        exact (hf2 i h1).2.2.1
      · by_cases h0 : len = 0
        · subst h0; exact .inl rfl
        · have hz := (hf2 0 (by omega)).1
          obtain ⟨b, off, spot⟩ := a
          have hspot : spot = none := by simpa [Addr.add] using World.cell?_spot hz
          subst hspot
          refine .inr ⟨b, off, rfl, ?_, fun j v hj => ?_⟩
          · rw [add_off4] at hz
            exact World.block_lt_of_cell? W _ hz
          · have hjl : j < len * 2 := by
              rcases Nat.lt_or_ge j (len * 2) with c | c
              · exact c
              · rw [List.getElem?_eq_none (by rw [flatP_len]; simp; omega)] at hj; cases hj
            have hi : j / 2 < len := by omega
            have hu : (((List.range len).map f).map (·.1))[j / 2]? = some (f (j / 2)).1 := by simp [hi]
            obtain ⟨f1, f2⟩ := flatP_at _ (j / 2) _ hu
            obtain ⟨c1, c2, _⟩ := hf2 (j / 2) hi
            rw [add_off4] at c1 c2
            rcases Nat.mod_two_eq_zero_or_one j with c | c
            · have e : j / 2 * 2 = j := by omega
              rw [e] at f1 c1
              rw [← Option.some.inj (f1.symm.trans hj)]
              exact c1
            · have e : j / 2 * 2 + 1 = j := by omega
              rw [e] at f2 c2
              rw [← Option.some.inj (f2.symm.trans hj)]
              exact c2
    · intro k hk
      have hk' : k < len := by simpa using hk
      obtain ⟨c1, c2, _, _, ⟨la, lc, e2, e3, e4⟩, e5, _⟩ := hf2 k hk'
      obtain ⟨b, off, spot⟩ := a
      have hz := (hf2 0 (by omega)).1
      have hspot : spot = none := by simpa [Addr.add] using World.cell?_spot hz
      subst hspot
      rw [add_off4] at c1 c2
      rw [e2] at c2
      rw [e5] at c1
      exact ⟨b, off, (f k).2.1, (f k).2.2, la, lc, rfl, World.block_lt_of_cell? W _ c1, by simp [hk'], by simpa [Nat.add_assoc] using c1, by simpa [Nat.add_assoc] using c2, e3, e4⟩
    · intro q hq
      obtain ⟨i, hi⟩ := List.mem_iff_getElem?.1 hq
      obtain ⟨h1, rfl⟩ := hat _ i q hi
      simp only [Prod.mk.injEq] at hx
      rw [hx.1]
      exact wt_elem Tryz.underlying31 (hf2 i h1).2.2.2.2.2.2 _ _ (List.mem_map.2 ⟨i, List.mem_range.2 h1, rfl⟩)
end Go.Proofs.YtandlmnbnjkklaaGreatDoor
