/- Rows of whole numbers that came in, opened: what they read as, and how much they may take. -/
import Derived.Test.YtcaibonnkfhkmaaFRow
import Derived.Test.YtcaibonnkfhkmaaOpenI
import Derived.SizedLaws
namespace Go.Proofs.Ytcaibonnkfhkmaa
open Go.ChangeShapes Go.WideShapes Go.ChangeAt Go.RowKit Go.Joins Go.Deep

/-- Fares that lie there, as they came in: a row that is nil has no room. -/
def MatN (w : World) (a : Option Addr) (f : List (List Int)) : Prop :=
  f = [] ∨ ∃ b off, a = some ⟨b, off, none⟩ ∧ b < w.heap.size ∧ ∀ i : Nat, i < f.length → ∃ ai ci, w.cell? ⟨b, off + i, none⟩ = some (.slice ai (f.getD i []).length ci) ∧ Row1 w ai (f.getD i []) ∧ (f.getD i []).length ≤ maxLen ∧ (ai = none → ci = 0 ∧ f.getD i [] = [])
theorem MatN.mat {w : World} {a : Option Addr} {f : List (List Int)} (h : MatN w a f) : Mat w a f := by
  rcases h with h | ⟨b, off, h1, h2, h3⟩
  · exact .inl h
  · refine .inr ⟨b, off, h1, h2, fun i hi => ?_⟩
    obtain ⟨ai, ci, c1, c2, c3, _⟩ := h3 i hi
    exact ⟨ai, ci, c1, c2, c3⟩
theorem cellsRow : Try.prog.cellsOf 37 = 1 := by kernel_rfl
theorem bytesRow : Try.prog.bytesOf 37 = 24 := by kernel_rfl
theorem bytesInt8 : Try.prog.bytesOf 3 = 8 := by kernel_rfl
theorem open_intsC {H : Type} {enc : TypeId × Value → H} {W : World} {B0 : Nat} {spare : Nat → Bool} {held : Bool} {fuel : Nat} {cs : List Value} {x : DataW H × List MemPlace}
    (hf : DataW.trod enc Try.prog W B0 spare held fuel 37 cs = some x) :
    ∃ (a : Option Addr) (l : List Int) (cap : Nat), cs = [.slice a l.length cap] ∧ (a = none → cap = 0 ∧ l = []) ∧ l.length ≤ maxLen ∧ Row1 W a l ∧ (l.length = 0 ∨ ∃ el sp, x.1 = .slice el sp ∧ el.length = l.length) := by
  rcases open_slice Try.underlying37 hf with ⟨hcs, _⟩ | ⟨a, len, cap, m, n, D, Pl, hcs, hb, hl, hm, hmm, hx, hel⟩
  · exact ⟨none, [], 0, hcs, fun _ => ⟨rfl, rfl⟩, Nat.zero_le _, .inl rfl, .inl rfl⟩
  · have hlm : len ≤ m := by rw [hmm]; split <;> omega
    rw [cellsInt1] at hel
    have one : ∀ i, i < len → ∃ s : Int, W.cell? (a.add i) = some (.int .i64 s) := by
      intro i hi
      obtain ⟨cs', h1, h2⟩ := hel i (by omega)
      obtain ⟨_, hlen, hc⟩ := World.cells?_some h1
      match cs', hlen, hc, h2 with
      | [c0], _, hc, h2 =>
        obtain ⟨x0, e0, _, _⟩ := DataW.trod_int Try.underlying3 h2
        simp at e0
        subst e0
        have k0 := hc 0 (by decide)
        rw [add_add] at k0
        exact ⟨x0, by simpa using k0⟩
    obtain ⟨f, hf2⟩ := choose_lt one
    refine ⟨some a, (List.range len).map f, cap, by rw [hcs]; simp, (fun e => by cases e), by simp; omega, ?_, .inr ⟨_, _, by rw [hx], by simp⟩⟩
    by_cases h0 : len = 0
    · subst h0; exact .inl rfl
    · have hz := hf2 0 (by omega)
      obtain ⟨b, off, spot⟩ := a
      have hspot : spot = none := by simpa [Addr.add] using World.cell?_spot hz
      subst hspot
      refine .inr ⟨b, off, rfl, ?_, fun i hi => ?_⟩
      · rw [add_off1] at hz
        exact World.block_lt_of_cell? W _ hz
      · have hi' : i < len := by simpa using hi
        have := hf2 i hi'
        rw [add_off1] at this
        simpa [List.getD, hi', Nat.add_assoc] using this
theorem weightsAll_mem {H : Type} {P : Program} {e : TypeId} {d : DataW H} {n : Nat} (hn : n ∈ d.weights P e) : ∀ (ds : List (DataW H)), d ∈ ds → n ∈ DataW.weightsAll P e ds
  | [], h => by cases h
  | d0 :: ds, h => by
    simp only [DataW.weightsAll, List.mem_append]
    rcases List.mem_cons.1 h with rfl | h
    · exact .inl hn
    · exact .inr (weightsAll_mem hn ds h)
/-- what a reading of fares says of their lengths -/
def FareDatum {H : Type} (d : DataW H) (f : List (List Int)) : Prop :=
  f = [] ∨ ∃ el sp, d = .slice el sp ∧ el.length = f.length ∧ ∀ i, i < f.length → (f.getD i []).length = 0 ∨ ∃ dr er sr, dr ∈ el ∧ dr = .slice er sr ∧ er.length = (f.getD i []).length
theorem open_fares {H : Type} {enc : TypeId × Value → H} {W : World} {B0 : Nat} {spare : Nat → Bool} {held : Bool} {v : Value} {d : DataW H} {p : List MemPlace} {r : Reach} {b0 : Nat}
    (hv : Value.okWide Try.prog W r b0 23 v) (h : DataW.Trod enc Try.prog W B0 spare held 23 v d p) :
    ∃ (a : Option Addr) (f : List (List Int)) (cap : Nat), v = .slice a f.length cap ∧ (a = none → cap = 0 ∧ f = []) ∧ f.length ≤ maxLen ∧ MatN W a f ∧ FareDatum d f := by
  obtain ⟨a0, len, cap, rfl⟩ := okWide_slice Try.underlying23 hv
  obtain ⟨fuel, hf⟩ := h
  rcases open_slice Try.underlying23 hf with ⟨hcs, _⟩ | ⟨a, len', cap', m, n, D, Pl, hcs, hb, hl, hm, hmm, hx, hel⟩
  · simp [Value.cells] at hcs
    obtain ⟨rfl, rfl, rfl⟩ := hcs
    exact ⟨none, [], 0, rfl, fun _ => ⟨rfl, rfl⟩, Nat.zero_le _, .inl rfl, .inl rfl⟩
  · simp [Value.cells] at hcs
    obtain ⟨rfl, rfl, rfl⟩ := hcs
    have hlm : len ≤ m := by rw [hmm]; split <;> omega
    rw [cellsRow] at hel
    have one : ∀ i, i < len → ∃ q : Option Addr × List Int × Nat, W.cell? (a.add i) = some (.slice q.1 q.2.1.length q.2.2) ∧ (q.1 = none → q.2.2 = 0 ∧ q.2.1 = []) ∧ q.2.1.length ≤ maxLen ∧ Row1 W q.1 q.2.1 ∧ (q.2.1.length = 0 ∨ ∃ el sp, D i = .slice el sp ∧ el.length = q.2.1.length) := by
      intro i hi
      obtain ⟨cs', h1, h2⟩ := hel i (by omega)
      obtain ⟨_, hlen, hc⟩ := World.cells?_some h1
      obtain ⟨ai, l, ci, rfl, h3, h4, h5, h6⟩ := open_intsC h2
      have k0 := hc 0 (by decide)
      rw [add_add] at k0
      exact ⟨(ai, l, ci), by simpa using k0, h3, h4, h5, h6⟩
    obtain ⟨q, hq⟩ := choose_lt one
    have hrow : ∀ i, i < len → ((List.range len).map fun i => (q i).2.1).getD i [] = (q i).2.1 := fun i hi => by
      rw [List.getD_eq_getElem?_getD]
      simp [hi]
    refine ⟨some a, (List.range len).map fun i => (q i).2.1, cap, by simp, (fun e => by cases e), by simp; omega, ?_, ?_⟩
    · by_cases h0 : len = 0
      · subst h0; exact .inl rfl
      · have hz := (hq 0 (by omega)).1
        obtain ⟨b, off, spot⟩ := a
        have hspot : spot = none := by simpa [Addr.add] using World.cell?_spot hz
        subst hspot
        refine .inr ⟨b, off, rfl, ?_, fun i hi => ?_⟩
        · rw [add_off1] at hz
          exact World.block_lt_of_cell? W _ hz
        · have hi' : i < len := by simpa using hi
          obtain ⟨c1, c2, c3, c4, _⟩ := hq i hi'
          rw [add_off1] at c1
          rw [hrow i hi']
          exact ⟨_, _, c1, c4, c3, fun e => c2 e⟩
    · simp only [Prod.mk.injEq] at hx
      by_cases h0 : len = 0
      · subst h0; exact .inl rfl
      refine .inr ⟨_, _, hx.1, by simp, fun i hi => ?_⟩
      have hi' : i < len := by simpa using hi
      rw [hrow i hi']
      rcases (hq i hi').2.2.2.2 with h | ⟨el, sp, h, h'⟩
      · exact .inl h
      · exact .inr ⟨_, el, sp, List.mem_map.2 ⟨i, List.mem_range.2 hi', rfl⟩, h, h'⟩
theorem fares_sized {H : Type} {ts : List TypeId} {ds : List (DataW H)} {d : DataW H} {j : Nat} {f : List (List Int)} (hs : (DataW.weightsEach Try.prog ts ds).all (· ≤ reachBytes) = true) (ht : ts[j]? = some 23) (hd : ds[j]? = some d) (h : FareDatum d f) :
    f.length * 24 ≤ 140737488351232 ∧ ∀ i, i < f.length → (f.getD i []).length * 8 ≤ 140737488351232 := by
  rcases h with rfl | ⟨el, sp, rfl, hl, hr⟩
  · exact ⟨by decide, fun i hi => by simp at hi⟩
  · have h1 := sized_slice hs ht hd Try.underlying23
    rw [bytesRow] at h1
    unfold reachBytes at h1
    refine ⟨by omega, fun i hi => ?_⟩
    rcases hr i hi with h | ⟨dr, er, sr, hm, rfl, he⟩
    · omega
    · have hw : (er.length + sr.length) * Try.prog.bytesOf 3 ∈ (DataW.slice er sr : DataW H).weights Try.prog 37 := by
        simp [DataW.weights, Try.underlying37]
      have := List.all_eq_true.1 hs _ (DataW.weights_mem_each ht hd ((er.length + sr.length) * Try.prog.bytesOf 3) (by
        simp only [DataW.weights, Try.underlying23, List.mem_cons, List.mem_append]
        exact .inr (.inl (weightsAll_mem hw el hm))))
      have h3 : (er.length + sr.length) * Try.prog.bytesOf 3 ≤ reachBytes := by simpa using this
      rw [bytesInt8] at h3
      unfold reachBytes at h3
      omega
end Go.Proofs.Ytcaibonnkfhkmaa
