/- Slices of classes that a call makes; how much one that came in may take. -/
import Derived.Test.YtfncfbbkkpdhkaaDoorPnRow
import Derived.Test.YtfncfbbkkpdhkaaDoorAp2
namespace Go.Proofs.YtfncfbbkkpdhkaaDoor
open Go.RowKit

theorem infoKl : (Tryd.prog.info? 23).map (fun i => (i.zero, i.size, i.bytes)) = some (some (.agg #[.int .i64 0, .int .i64 0, .int .i64 0]), 3, 24) := by kernel_rfl
theorem infoK : ∃ i : TypeInfo, Tryd.prog.info? 23 = some i ∧ i.zero = some (.agg #[.int .i64 0, .int .i64 0, .int .i64 0]) ∧ i.size = 3 ∧ i.bytes = 24 := by
  have h := infoKl
  cases hq : Tryd.prog.info? 23 with
  | none => simp [hq] at h
  | some i => simp [hq] at h; exact ⟨i, rfl, h.1, h.2.1, h.2.2⟩
def flatK (l : List Prs.Kl) : List Value := l.flatMap fun c => [.int .i64 c.f, .int .i64 c.t, .int .i64 c.p]
theorem flatK_append (a b : List Prs.Kl) : flatK (a ++ b) = flatK a ++ flatK b := by unfold flatK; rw [List.flatMap_append]
theorem flatK_len : ∀ l : List Prs.Kl, (flatK l).length = l.length * 3
  | [] => rfl
  | s :: l => by
    have := flatK_len l
    unfold flatK at *
    rw [List.flatMap_cons, List.length_append, this, List.length_cons]; simp; omega
theorem flatK_at : ∀ (l : List Prs.Kl) (i : Nat) (c : Prs.Kl), l[i]? = some c → (flatK l)[i * 3]? = some (.int .i64 c.f) ∧ (flatK l)[i * 3 + 1]? = some (.int .i64 c.t) ∧ (flatK l)[i * 3 + 2]? = some (.int .i64 c.p)
  | [], i, s, h => by simp at h
  | t :: l, 0, s, h => by
    simp at h; subst h
    exact ⟨rfl, rfl, rfl⟩
  | t :: l, i + 1, s, h => by
    have := flatK_at l i s (by simpa using h)
    have e : flatK (t :: l) = [.int .i64 t.f, .int .i64 t.t, .int .i64 t.p] ++ flatK l := rfl
    have e1 : (i + 1) * 3 = i * 3 + 3 := by omega
    rw [e, e1]
    exact ⟨by simpa using this.1, by simpa [Nat.add_right_comm] using this.2.1, by simpa [Nat.add_right_comm] using this.2.2⟩
theorem flatK_get : ∀ (l : List Prs.Kl) (j : Nat) (u : Value), (flatK l)[j]? = some u → ∃ (i : Nat) (c : Prs.Kl), l[i]? = some c ∧ ((j = i * 3 ∧ u = .int .i64 c.f) ∨ (j = i * 3 + 1 ∧ u = .int .i64 c.t) ∨ (j = i * 3 + 2 ∧ u = .int .i64 c.p))
  | [], j, u, h => by simp [flatK] at h
  | t :: l, j, u, h => by
    have e : flatK (t :: l) = [.int .i64 t.f, .int .i64 t.t, .int .i64 t.p] ++ flatK l := rfl
    rw [e] at h
    match j, h with
    | 0, h => exact ⟨0, t, rfl, .inl ⟨rfl, (Option.some.inj h).symm⟩⟩
    | 1, h => exact ⟨0, t, rfl, .inr (.inl ⟨rfl, (Option.some.inj h).symm⟩)⟩
    | 2, h => exact ⟨0, t, rfl, .inr (.inr ⟨rfl, (Option.some.inj h).symm⟩)⟩
    | j + 3, h =>
      have h' : (flatK l)[j]? = some u := by simpa using h
      obtain ⟨i, c, hi, hc⟩ := flatK_get l j u h'
      refine ⟨i + 1, c, by simpa using hi, ?_⟩
      rcases hc with ⟨a, b⟩ | ⟨a, b⟩ | ⟨a, b⟩
      · exact .inl ⟨by omega, b⟩
      · exact .inr (.inl ⟨by omega, b⟩)
      · exact .inr (.inr ⟨by omega, b⟩)
theorem flatK_one (l : List Prs.Kl) : ∀ u ∈ flatK l, u.oneCell' = true := by
  intro u hu
  unfold flatK at hu
  rw [List.mem_flatMap] at hu
  obtain ⟨s, _, hu⟩ := hu
  simp at hu
  rcases hu with rfl | rfl | rfl <;> rfl
theorem RowK.news {w : World} {a : Option Addr} {l : List Prs.Kl} (h : RowK w a l) {W : World} (hW : Below w.heap.size w W) : ∀ ad, a = some ad → ∀ (j : Nat) (u : Value), (flatK l)[j]? = some u → W.cell? (ad.add j) = some u := by
  intro ad had j u hj
  rcases h with rfl | ⟨b, off, e, hlt, hc⟩
  · simp [flatK] at hj
  · obtain rfl := Option.some.inj (had.symm.trans e)
    obtain ⟨i, c, hi, hq⟩ := flatK_get l j u hj
    obtain ⟨c0, c1, c2⟩ := hc i c hi
    have ha : ∀ k, (⟨b, off, none⟩ : Addr).add k = ⟨b, off + k, none⟩ := by
      intro k
      cases k with
      | zero => rfl
      | succ k => simp [Addr.add]
    rw [ha]
    rcases hq with ⟨rfl, rfl⟩ | ⟨rfl, rfl⟩ | ⟨rfl, rfl⟩
    · exact (hW.cell (p := ⟨b, _, none⟩) hlt).trans c0
    · exact (hW.cell (p := ⟨b, _, none⟩) hlt).trans c1
    · exact (hW.cell (p := ⟨b, _, none⟩) hlt).trans c2
theorem ownK_row {w : World} {B g n c : Nat} {l : List Prs.Kl} (hn : l.length = n) (h : w.ownsRow B 23 3 (.slice (some ⟨g, 0, none⟩) n c) n (flatK l)) : RowK w (some ⟨g, 0, none⟩) l := by
  subst hn
  refine .inr ⟨g, 0, rfl, (World.ownsRow.lt h g rfl).2, fun i k hi => ?_⟩
  have hlt : i < l.length := by
    rcases Nat.lt_or_ge i l.length with q | q
    · exact q
    · rw [List.getElem?_eq_none q] at hi; cases hi
  obtain ⟨f0, f1, f2⟩ := flatK_at l i k hi
  rw [Nat.zero_add]
  exact ⟨(World.ownsRow.cellAt h (i * 3) (by omega)).trans f0, (World.ownsRow.cellAt h (i * 3 + 1) (by omega)).trans f1, (World.ownsRow.cellAt h (i * 3 + 2) (by omega)).trans f2⟩
theorem flatK_snoc (l : List Prs.Kl) (f t p : Int) : flatK l ++ [.int .i64 f, .int .i64 t, .int .i64 p] = flatK (l ++ [⟨f, t, p⟩]) := by rw [flatK_append]; rfl
end Go.Proofs.YtfncfbbkkpdhkaaDoor
