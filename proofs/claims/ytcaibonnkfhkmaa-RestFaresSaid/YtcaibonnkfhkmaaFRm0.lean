/- The walk of the document's words: mended fares that are none; slices of slices that a call has made. -/
import Derived.Test.YtcaibonnkfhkmaaFCv
import Derived.Test.YtcaibonnkfhkmaaFRk
import Derived.Test.YtcaibonnkfhkmaaFRw
namespace Go.Proofs.Ytcaibonnkfhkmaa
open Go.RowKit

set_option maxRecDepth 100000 in
set_option maxHeartbeats 800000 in
theorem refMend_bad {f : List (List Int)} (ad : Option Addr) (cap : Nat) (w : World) (hl : f.length ≤ maxLen) (hm : Mat w ad f) (hc : Fr.chk f ≠ 0) :
    Calls Try.prog 17 #[.slice ad f.length cap] w fun e w' => e = .returned (.tuple #[.slice none 0 0, .int .i64 (Fr.chk f)]) ∧ w' = w := by
  have C := faresCheck_any f ad cap w hl hm
  have hc' : (Fr.chk f != 0) = true := by simpa using hc
  generalize Fr.chk f = c at *
  clear hm
  go_enter Try.func17, Try.ntmps17
  go_wp2_with fail
  refine C.mono ?_; rintro e w' ⟨rfl, rfl⟩
  go_wp2
  go_ret2
  exact ⟨rfl, rfl⟩
/-- A slice of slices that the call has made. -/
def OwnR (w : World) (B : Nat) (v : Value) (vs : List Value) : Prop := w.ownsRow B 37 1 v vs.length vs
/-- .. and rows of numbers in it, that the call has made too -/
def OwnM (w : World) (B : Nat) (v : Value) (f : List (List Int)) : Prop := ∃ vs : List Value, vs.length = f.length ∧ OwnR w B v vs ∧ ∀ (j : Nat) (r : List Int), f[j]? = some r → ∃ u, vs[j]? = some u ∧ OwnI w B u r
theorem OwnM.nil (w : World) (B : Nat) : OwnM w B (.slice none 0 0) [] := ⟨[], rfl, World.ownsRow_nil _ _ _ _, fun j r h => by simp at h⟩
theorem OwnR.still {w w' : World} {B : Nat} {v : Value} {vs : List Value} (h : OwnR w B v vs) (hb : Below w.heap.size w w') : OwnR w' B v vs := by
  have hlt := World.ownsRow.lt h
  obtain ⟨h1, h2⟩ := h
  refine ⟨h1, ?_⟩
  rcases h2 with h2 | ⟨g, cap, cur, rfl, b, c, d⟩
  · exact .inl h2
  · exact .inr ⟨g, cap, cur, rfl, b, (hb.block g (hlt g rfl).2).trans c, d⟩
theorem OwnM.still {w w' : World} {B : Nat} {v : Value} {f : List (List Int)} (h : OwnM w B v f) (hb : Below w.heap.size w w') : OwnM w' B v f := by
  obtain ⟨vs, h1, h2, h3⟩ := h
  exact ⟨vs, h1, h2.still hb, fun j r hj => by obtain ⟨u, hu, ho⟩ := h3 j r hj; exact ⟨u, hu, ho.still hb⟩⟩
/-- what is no slice of slices stays, where one grows -/
theorem OwnI.grownR {w w1 : World} {B B' : Nat} {u v : Value} {xs : List Int} {vs : List Value} (h : OwnI w B u xs) (hv : OwnR w B' v vs) (hg : w.grownBy w1 v.ownBlock) : OwnI w1 B u xs := by
  have hlt := World.ownsRow.lt h
  obtain ⟨h1, h2⟩ := h
  refine ⟨h1, ?_⟩
  rcases h2 with h2 | ⟨g, cap, cur, rfl, b, c, d⟩
  · exact .inl h2
  · refine .inr ⟨g, cap, cur, rfl, b, (hg.block g (hlt g rfl).2 ?_).trans c, d⟩
    intro e
    rcases hv.2 with ⟨rfl, _⟩ | ⟨g', cap', cur', rfl, _, c', _⟩
    · cases e
    · have : g = g' := Option.some.inj e
      subst this
      rw [c] at c'
      have := Option.some.inj c'
      injection this with _ e2 _
      exact absurd e2 (by decide)
theorem OwnM.keep {w wr w1 : World} {B : Nat} {v v' u : Value} {f : List (List Int)} {r : List Int} {vs : List Value} {o : Obj} (hB : B ≤ wr.heap.size) (hvs : vs.length = f.length) (hown : OwnR wr B v vs) (hrows : ∀ (j : Nat) (r : List Int), f[j]? = some r → ∃ u, vs[j]? = some u ∧ OwnI wr B u r) (hu : OwnI wr B u r) (hnx : Below B w wr)
    (hown' : w1.ownsRow B 37 1 v' (vs.length + 1) (vs ++ [u])) (hgrow : (wr.alloc o).grownBy w1 v.ownBlock) :
    OwnM w1 B v' (f ++ [r]) ∧ Below B w w1 := by
  have hR : OwnR (wr.alloc o) B v vs := World.ownsRow.alloc hown o
  refine ⟨⟨vs ++ [u], by simp [hvs], by unfold OwnR; simpa using hown', fun j r' hj => ?_⟩, (hnx.alloc hB o).grown hgrow (by simp; omega) (fun j hj => by have := (World.ownsRow.lt hown j hj).1; omega)⟩
  by_cases c : j < f.length
  · rw [List.getElem?_append_left c] at hj
    obtain ⟨x, hx, ho⟩ := hrows j r' hj
    exact ⟨x, by rw [List.getElem?_append_left (by omega)]; exact hx, (ho.alloc o).grownR hR hgrow⟩
  · rw [List.getElem?_append_right (by omega)] at hj
    have hj0 : j - f.length = 0 := by
      by_cases c2 : j - f.length = 0
      · exact c2
      · rw [List.getElem?_eq_none (by simp; omega)] at hj
        cases hj
    rw [hj0] at hj
    obtain rfl : r = r' := by simpa using hj
    exact ⟨u, by rw [List.getElem?_append_right (by omega), show j - vs.length = 0 by omega]; rfl, (hu.alloc o).grownR hR hgrow⟩
/-- What was made can be read. -/
theorem OwnM.mat {w : World} {B : Nat} {v : Value} {f : List (List Int)} (h : OwnM w B v f) (hl : ∀ r ∈ f, r.length ≤ maxLen) : ∃ a cap, v = .slice a f.length cap ∧ Mat w a f := by
  obtain ⟨vs, h1, h2, h3⟩ := h
  unfold OwnR at h2
  have hc := fun g hg => h2.cells (g := g) hg
  have hlt := h2.lt
  rcases h2.2 with ⟨rfl, h0⟩ | ⟨g, cap, cur, rfl, _⟩
  · have : f = [] := List.eq_nil_of_length_eq_zero (by omega)
    subst this
    exact ⟨_, _, rfl, .inl rfl⟩
  · rw [h1]
    refine ⟨_, _, rfl, .inr ⟨g, 0, rfl, (hlt g rfl).2, fun i hi => ?_⟩⟩
    have hfi : f[i]? = some (f.getD i []) := by simp [List.getD, List.getElem?_eq_getElem hi]
    obtain ⟨u, hu, ho⟩ := h3 i _ hfi
    obtain ⟨a, c, rfl, hr⟩ := ho.row
    refine ⟨a, c, ?_, hr, hl _ (List.mem_of_getElem? hfi)⟩
    have := hc g rfl i _ hu
    rw [Nat.zero_add]
    cases i with
    | zero => exact this
    | succ i => simpa [Addr.add] using this
end Go.Proofs.Ytcaibonnkfhkmaa
