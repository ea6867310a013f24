/- Slices of whole numbers: read, made by append, sorted, each once. -/
import Derived.Test.YtehopfpcikbaiaaDoorBaseToAppAll
import Derived.Lib.SlicesCompact
import Derived.Lib.OwnBridge
import Derived.Sort.OwnSortedInts
import Derived.Laws.OwnMore
namespace Go.Proofs.YtehopfpcikbaiaaDoor
open Go.RowKit
namespace Spn
/-- two lists that rise and have the same numbers are one -/
theorem rising_unique : ∀ (a b : List Int), a.Pairwise (· < ·) → b.Pairwise (· < ·) → (∀ x, x ∈ a ↔ x ∈ b) → a = b
  | [], [], _, _, _ => rfl
  | [], y :: b, _, _, h => by have := (h y).2 List.mem_cons_self; cases this
  | x :: a, [], _, _, h => by have := (h x).1 List.mem_cons_self; cases this
  | x :: a, y :: b, ha, hb, h => by
    rw [List.pairwise_cons] at ha hb
    have e : x = y := by
      rcases List.mem_cons.1 ((h x).1 List.mem_cons_self) with c | c
      · exact c
      · rcases List.mem_cons.1 ((h y).2 List.mem_cons_self) with d | d
        · exact d.symm
        · have := hb.1 x c; have := ha.1 y d; omega
    subst e
    congr 1
    refine rising_unique a b ha.2 hb.2 fun z => ?_
    constructor
    · intro hz
      rcases List.mem_cons.1 ((h z).1 (List.mem_cons_of_mem _ hz)) with c | c
      · subst c; have := ha.1 z hz; omega
      · exact c
    · intro hz
      rcases List.mem_cons.1 ((h z).2 (List.mem_cons_of_mem _ hz)) with c | c
      · subst c; have := hb.1 z hz; omega
      · exact c
/-- numbers that don't fall, each once: they rise, and are the same ones -/
theorem compact_rises (zs : List Int) (hs : zs.Pairwise (· ≤ ·)) : (Lib.compact zs).Pairwise (· < ·) ∧ ∀ x, x ∈ Lib.compact zs ↔ x ∈ zs := by
  have key : ∀ m, m ≤ zs.length → (Lib.compactUpTo zs.toArray m).Pairwise (· < ·) ∧ (∀ x, x ∈ Lib.compactUpTo zs.toArray m ↔ x ∈ zs.take m) := by
    intro m
    induction m with
    | zero => intro _; exact ⟨by simp [Lib.compactUpTo], fun x => by simp [Lib.compactUpTo]⟩
    | succ m ih =>
      intro hm
      obtain ⟨h1, h2⟩ := ih (by omega)
      have hg : ∀ i (hi : i < zs.length), zs.toArray[i]! = zs[i] := fun i hi => by simp [hi]
      have ht : zs.take (m + 1) = zs.take m ++ [zs[m]] := by rw [List.take_add_one, List.getElem?_eq_getElem (by omega)]; rfl
      have hpre : ∀ x ∈ zs.take m, x ≤ zs[m] := by
        intro x hx
        obtain ⟨i, hi, rfl⟩ := List.getElem_of_mem hx
        have hi' : i < m := by simp at hi; omega
        rw [List.getElem_take]
        exact List.pairwise_iff_getElem.1 hs i m (by omega) (by omega) hi'
      rw [Lib.compactUpTo_succ, ht]
      by_cases hk : Lib.keeps zs.toArray m = true
      · rw [if_pos hk, hg m (by omega)]
        refine ⟨?_, fun x => by rw [List.mem_append, List.mem_append, h2 x]⟩
        rw [List.pairwise_append]
        refine ⟨h1, List.pairwise_singleton _ _, ?_⟩
        intro x hx y hy
        rcases List.mem_singleton.1 hy with rfl
        have hx' := (h2 x).1 hx
        unfold Lib.keeps at hk
        have hk' := of_decide_eq_true hk
        rcases hk' with rfl | hne
        · simp at hx'
        · obtain ⟨i, hi, rfl⟩ := List.getElem_of_mem hx'
          have hi' : i < m := by simp at hi; omega
          rw [List.getElem_take]
          rw [hg m (by omega), hg (m - 1) (by omega)] at hne
          have a1 : zs[i] ≤ zs[m - 1] := by
            rcases Nat.lt_or_ge i (m - 1) with c | c
            · exact List.pairwise_iff_getElem.1 hs i (m - 1) (by omega) (by omega) c
            · have : i = m - 1 := by omega
              subst this; exact Int.le_refl _
          have a2 : zs[m - 1] ≤ zs[m] := List.pairwise_iff_getElem.1 hs (m - 1) m (by omega) (by omega) (by omega)
          omega
      · rw [if_neg hk, List.append_nil]
        refine ⟨h1, fun x => ?_⟩
        rw [h2 x, List.mem_append]
        constructor
        · exact .inl
        · rintro (a | a)
          · exact a
          · rcases List.mem_singleton.1 a with rfl
            unfold Lib.keeps at hk
            have hk' : ¬ (m = 0 ∨ zs.toArray[m]! ≠ zs.toArray[m - 1]!) := fun h => hk (decide_eq_true h)
            have hm0 : m ≠ 0 := fun e => hk' (.inl e)
            have he : zs.toArray[m]! = zs.toArray[m - 1]! := Classical.byContradiction fun h => hk' (.inr h)
            rw [hg m (by omega), hg (m - 1) (by omega)] at he
            rw [he]
            exact List.mem_iff_getElem.2 ⟨m - 1, by simp; omega, by rw [List.getElem_take]⟩
  obtain ⟨h1, h2⟩ := key zs.length (Nat.le_refl _)
  exact ⟨h1, fun x => by rw [show Lib.compact zs = Lib.compactUpTo zs.toArray zs.length from rfl, h2 x, List.take_length]⟩
theorem sorted_rises (zs : List Int) : (zs.mergeSort fun x y => decide (x ≤ y)).Pairwise (· ≤ ·) := by
  have h := List.pairwise_mergeSort (le := fun (x y : Int) => decide (x ≤ y)) (fun a b c h1 h2 => by simp at *; omega) (fun a b => by simp; omega) zs
  exact h.imp fun h => by simpa using h
/-- sorted, each once -/
def once (zs : List Int) : List Int := Lib.compact (zs.mergeSort fun x y => decide (x ≤ y))
theorem once_all (zs : List Int) : (once zs).Pairwise (· < ·) ∧ ∀ x, x ∈ once zs ↔ x ∈ zs := by
  have h := compact_rises _ (sorted_rises zs)
  exact ⟨h.1, fun x => by unfold once; rw [h.2 x, List.mem_mergeSort]⟩
theorem once_unique (zs es : List Int) (h1 : es.Pairwise (· < ·)) (h2 : ∀ x, x ∈ es ↔ x ∈ zs) : once zs = es :=
  rising_unique _ _ (once_all zs).1 h1 fun x => by rw [(once_all zs).2 x, h2 x]
theorem compact_len (xs : List Int) : (Lib.compact xs).length ≤ xs.length := by
  unfold Lib.compact Lib.compactUpTo
  rw [List.length_map]
  exact Nat.le_trans (List.length_filter_le _ _) (by simp)
theorem once_nil : once [] = [] := by simp [once, Lib.compact, Lib.compactUpTo]
end Spn
theorem OwnI.form {w : World} {B : Nat} {v : Value} {xs : List Int} (h : OwnI w B v xs) : (v = .slice none 0 0 ∧ xs = []) ∨ ∃ g cap, v = .slice (some ⟨g, 0, none⟩) xs.length cap ∧ B ≤ g ∧ g < w.heap.size ∧ xs.length ≤ cap ∧ Sort.Holds (Value.int .i64) w g 0 xs.toArray := by
  rcases h.2 with ⟨h1, h2⟩ | ⟨g, cap, cur, h1, h2, _⟩
  · exact .inl ⟨h1, List.eq_nil_of_length_eq_zero h2⟩
  · obtain ⟨g', cap', e, k1, k2, k3, _, _, k4⟩ := Lib.holds_of_ownsRow h (by rw [h1]; simp)
    exact .inr ⟨g', cap', e, k1, k2, k3, k4⟩
/-- a slice of numbers that the call has made, sorted -/
theorem OwnI.sorted {w w' : World} {B g cap n : Nat} {os : Array Obj} {xs : List Int} (h : OwnI w B (.slice (some ⟨g, 0, none⟩) xs.length cap) xs)
    (hw : w' = Sort.grow (Sort.putRow (Value.int .i64) (Sort.ahead w n) g 0 (xs.mergeSort fun x y => decide (x ≤ y)).toArray) os) :
    OwnI w' B (.slice (some ⟨g, 0, none⟩) xs.length cap) (xs.mergeSort fun x y => decide (x ≤ y)) ∧ w.grownBy w' (some g) := by
  subst hw
  refine ⟨?_, grownBy_sortedI _⟩
  rcases h.2 with ⟨e0, _⟩ | ⟨g', cap', cur, e0, hb, hg, hn, hm, hs, ht⟩
  · cases e0
  · injection e0 with e1 _ e3
    injection e1 with e1
    injection e1 with e1
    subst e1; subst e3
    have r := ownsRow_sortedI (n := n) (os := os) (ss := xs) (ts := xs.mergeSort fun x y => decide (x ≤ y)) (by simp) hb hg hn hm hs
    unfold OwnI
    rw [List.length_mergeSort]
    exact r
theorem OwnI.compacted {w w' : World} {B g cap q : Nat} {xs : List Int} (h : OwnI w B (.slice (some ⟨g, 0, none⟩) xs.length cap) xs) (hl : (Lib.compact xs).length ≤ xs.length)
    (hw : w' = Sort.putRow (Value.int .i64) (Sort.ahead w q) g 0 (Lib.compact xs ++ List.replicate (xs.length - (Lib.compact xs).length) 0).toArray) :
    OwnI w' B (.slice (some ⟨g, 0, none⟩) (Lib.compact xs).length cap) (Lib.compact xs) := by
  subst hw
  have r := Lib.ownsRow_putRow (q := q) (k := (Lib.compact xs).length) (ys := Lib.compact xs ++ List.replicate (xs.length - (Lib.compact xs).length) 0) h (by simp; omega) hl
  rw [List.take_left] at r
  exact r
end Go.Proofs.YtehopfpcikbaiaaDoor
