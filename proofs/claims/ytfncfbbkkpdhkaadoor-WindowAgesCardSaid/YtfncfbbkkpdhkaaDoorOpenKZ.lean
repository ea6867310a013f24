/- How much a slice of classes that came in may take: what its reading says of its length. -/
import Derived.Test.YtfncfbbkkpdhkaaDoorOpenK
import Derived.SizedLaws
namespace Go.Proofs.YtfncfbbkkpdhkaaDoor
open Go.ChangeShapes Go.WideShapes Go.ChangeAt Go.RowKit Go.Joins Go.Deep

theorem bytesKl : Tryd.prog.bytesOf 23 = 24 := by kernel_rfl
theorem classes_datum {H : Type} {enc : TypeId × Value → H} {W : World} {B0 : Nat} {spare : Nat → Bool} {held : Bool} {a : Option Addr} {n c : Nat} {d : DataW H} {p : List MemPlace}
    (h : DataW.Trod enc Tryd.prog W B0 spare held 24 (.slice a n c) d p) : n = 0 ∨ ∃ el sp, d = .slice el sp ∧ el.length = n := by
  obtain ⟨fuel, hf⟩ := h
  rcases open_slice Tryd.underlying24 hf with ⟨hcs, _⟩ | ⟨a', len, cap, m, k, D, Pl, hcs, hb, hl, hm, hmm, hx, hel⟩
  · simp [Value.cells] at hcs
    exact .inl hcs.2.1
  · simp [Value.cells] at hcs
    obtain ⟨rfl, rfl, rfl⟩ := hcs
    simp only [Prod.mk.injEq] at hx
    exact .inr ⟨_, _, hx.1, by simp⟩
theorem classes_sized {H : Type} {ts : List TypeId} {ds : List (DataW H)} {d : DataW H} {n j : Nat} (hs : (DataW.weightsEach Tryd.prog ts ds).all (· ≤ reachBytes) = true) (ht : ts[j]? = some 24) (hd : ds[j]? = some d) (h : n = 0 ∨ ∃ el sp, d = .slice el sp ∧ el.length = n) : n * 24 ≤ 140737488351232 := by
  rcases h with rfl | ⟨el, sp, rfl, rfl⟩
  · omega
  · have := sized_slice hs ht hd Tryd.underlying24
    rw [bytesKl] at this
    unfold reachBytes at this
    omega
end Go.Proofs.YtfncfbbkkpdhkaaDoor
