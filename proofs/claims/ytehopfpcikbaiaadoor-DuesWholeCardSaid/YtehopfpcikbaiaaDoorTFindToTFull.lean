/- The walks of package term: the search, and Find. Walks over slices of spans (two whole numbers each) that are only read. Slices of spans that a call makes: nothing yet, one more, the last one stretched, whole slices appended. The walk of term.Full: the first so many terms, a span each. -/
import Derived.Test.YtehopfpcikbaiaaDoorTFst
import Derived.Laws.Shifts
import Derived.Shelf.Abstract
import Derived.Test.YtehopfpcikbaiaaDoorBaseToAppAll
import Derived.Test.YtehopfpcikbaiaaDoorSpn
import Derived.WalkKit
import Derived.WalkSpells
import Derived.WalkLawsBesides
import Derived.Deep.QuietTactic
import Derived.BigQuiet
import Derived.Lib.QuietBelow
import Derived.Laws.OwnMore
import Derived.Deep.AppendLies
namespace Go.Proofs.YtehopfpcikbaiaaDoor
open Go.RowKit

/-- the three boxes that the search's closure reads -/
def FBox (W : World) (b : Nat) (s u n N : Int) : Prop :=
  b + 2 < W.heap.size ∧ W.cell? ⟨b, 0, none⟩ = some (.int .i64 s) ∧ W.cell? ⟨b + 1, 0, none⟩ = some (.int .i64 u) ∧ W.cell? ⟨b + 1, 1, none⟩ = some (.int .i64 n) ∧ W.cell? ⟨b + 2, 0, none⟩ = some (.int .i64 N)
theorem FBox.below {W W' : World} {b : Nat} {s u n N : Int} (h : FBox W b s u n N) (hb : Below W.heap.size W W') : FBox W' b s u n N := by
  obtain ⟨h1, h2, h3, h4, h5⟩ := h
  obtain ⟨hc, _⟩ := bcell hb
  refine ⟨Nat.lt_of_lt_of_le h1 hb.size, ?_, ?_, ?_, ?_⟩
  · rw [hc b 0 (by omega)]; exact h2
  · rw [hc (b + 1) 0 (by omega)]; exact h3
  · rw [hc (b + 1) 1 (by omega)]; exact h4
  · rw [hc (b + 2) 0 h1]; exact h5
namespace Trm
/-- why a day lies in no term: 0 where nothing stands in the way yet -/
def fbad (u n s N : Int) : Int := if chk u n = 0 then (if s < 1 ∨ 3652059 < s ∨ N < 1 ∨ 3652059 < N then 3 else if N < s then 4 else 0) else chk u n
theorem fbad_zero (u n s N : Int) (h : fbad u n s N = 0) : chk u n = 0 ∧ 1 ≤ s ∧ s ≤ N ∧ N ≤ 3652059 := by
  unfold fbad at h
  split at h
  · rename_i c
    split at h
    · cases h
    · split at h
      · cases h
      · exact ⟨c, by omega⟩
  · rename_i c; exact absurd h c
theorem fbad_cases (u n s N c : Int) (h : fbad u n s N = c) (hc : c ≠ 0) : (chk u n = c) ∨ (chk u n = 0 ∧ c = 3 ∧ (s < 1 ∨ 3652059 < s)) ∨ (chk u n = 0 ∧ c = 3 ∧ 1 ≤ s ∧ s ≤ 3652059 ∧ (N < 1 ∨ 3652059 < N)) ∨ (chk u n = 0 ∧ c = 4 ∧ 1 ≤ s ∧ s ≤ 3652059 ∧ 1 ≤ N ∧ N ≤ 3652059 ∧ N < s) := by
  unfold fbad at h
  split at h
  · rename_i g
    split at h
    · by_cases g2 : s < 1 ∨ 3652059 < s
      · exact .inr (.inl ⟨g, by omega, g2⟩)
      · exact .inr (.inr (.inl ⟨g, by omega, by omega, by omega, by omega⟩))
    · split at h
      · exact .inr (.inr (.inr ⟨g, by omega, by omega, by omega, by omega, by omega, by omega⟩))
      · exact absurd h.symm hc
  · exact .inl h
end Trm
theorem has1_new (W : World) (v : Value) (t : TypeId) : (W.alloc (.cells #[v] t)).cell? ⟨W.heap.size, 0, none⟩ = some v := by
  rw [World.cell?_alloc_at _ _ _ _ (by simp)]; rfl
theorem fbox_new (w : World) (s u n N : Int) : FBox (((w.alloc (.cells #[.int .i64 s] 3)).alloc (.cells #[.int .i64 u, .int .i64 n] 27)).alloc (.cells #[.int .i64 N] 3)) w.heap.size s u n N := by
  have a1 := has2_new (w.alloc (.cells #[.int .i64 s] 3)) u n 27
  rw [World.size_alloc] at a1
  have a0 : (w.alloc (.cells #[.int .i64 s] 3)).cell? ⟨w.heap.size, 0, none⟩ = some (.int .i64 s) := by simp
  have a2 : (((w.alloc (.cells #[.int .i64 s] 3)).alloc (.cells #[.int .i64 u, .int .i64 n] 27)).alloc (.cells #[.int .i64 N] 3)).cell? ⟨((w.alloc (.cells #[.int .i64 s] 3)).alloc (.cells #[.int .i64 u, .int .i64 n] 27)).heap.size, 0, none⟩ = some (.int .i64 N) := has1_new _ _ _
  rw [World.size_alloc, World.size_alloc] at a2
  exact ⟨by simp, (World.cell?_alloc_past _ _ _ (by simp; omega)).trans ((World.cell?_alloc_past _ _ _ (by simp)).trans a0), (World.cell?_alloc_past _ _ _ (by simp)).trans a1.1, (World.cell?_alloc_past _ _ _ (by simp)).trans a1.2, a2⟩
theorem below_three (w : World) (o1 o2 o3 : Obj) : Below w.heap.size w (((w.alloc o1).alloc o2).alloc o3) :=
  ((below_box w o1).alloc (by simp) o2).alloc (by simp; omega) o3
end Go.Proofs.YtehopfpcikbaiaaDoor
namespace Go.Proofs.YtehopfpcikbaiaaDoor
open Go.RowKit

/-- A slice of spans that lies there: what its elements read as. -/
def Row2 (w : World) (a : Option Addr) (l : List Spn.Sp) : Prop :=
  l = [] ∨ ∃ b off, a = some ⟨b, off, none⟩ ∧ b < w.heap.size ∧ ∀ i : Nat, i < l.length → w.cell? ⟨b, off + i * 2, none⟩ = some (.int .i64 (l.getD i (0, 0)).1) ∧ w.cell? ⟨b, off + i * 2 + 1, none⟩ = some (.int .i64 (l.getD i (0, 0)).2)

theorem Row2.at {w : World} {a : Option Addr} {l : List Spn.Sp} (hr : Row2 w a l) {k : Nat} (hlt : k < l.length) :
    ∃ b off x y, a = some ⟨b, off, none⟩ ∧ l[k]? = some (x, y) ∧ w.cell? ⟨b, off + k * 2, none⟩ = some (.int .i64 x) ∧ w.cell? ⟨b, off + k * 2 + 1, none⟩ = some (.int .i64 y) := by
  rcases hr with rfl | ⟨b, off, rfl, hb, hc⟩
  · simp at hlt
  obtain ⟨c1, c2⟩ := hc k hlt
  exact ⟨b, off, _, _, rfl, by simp [List.getD, List.getElem?_eq_getElem hlt], c1, c2⟩
namespace Spn
theorem memB_append (a b : List Sp) (n : Int) : memB (a ++ b) n = (memB a n || memB b n) := by unfold memB; rw [List.any_append]
theorem take_succ_of (l : List Sp) (k : Nat) (x y : Int) (h : l[k]? = some (x, y)) : l.take (k + 1) = l.take k ++ [(x, y)] := by
  rw [List.take_add_one, h]; rfl
theorem memB_no (l : List Sp) (k : Nat) (x y n : Int) (h : l[k]? = some (x, y)) (h0 : memB (l.take k) n = false) (hn : ¬ (x ≤ n ∧ n < y)) : memB (l.take (k + 1)) n = false := by
  rw [take_succ_of l k x y h, memB_append, h0]
  simp [memB]; omega
theorem memB_yes (l : List Sp) (k : Nat) (x y n : Int) (h : l[k]? = some (x, y)) (h1 : x ≤ n) (h2 : n < y) : memB l n = true := by
  rw [memB_iff]
  exact ⟨(x, y), List.mem_of_getElem? h, h1, h2⟩
end Spn
end Go.Proofs.YtehopfpcikbaiaaDoor
namespace Go.Proofs.YtehopfpcikbaiaaDoor
open Go.RowKit

def flat (l : List Spn.Sp) : List Value := l.flatMap fun s => [.int .i64 s.1, .int .i64 s.2]
theorem flat_append (a b : List Spn.Sp) : flat (a ++ b) = flat a ++ flat b := by unfold flat; rw [List.flatMap_append]
theorem flat_len : ∀ l : List Spn.Sp, (flat l).length = l.length * 2
  | [] => rfl
  | s :: l => by
    have := flat_len l
    unfold flat at *
    rw [List.flatMap_cons, List.length_append, this, List.length_cons]; simp; omega
theorem flat_at : ∀ (l : List Spn.Sp) (i : Nat) (s : Spn.Sp), l[i]? = some s → (flat l)[i * 2]? = some (.int .i64 s.1) ∧ (flat l)[i * 2 + 1]? = some (.int .i64 s.2)
  | [], i, s, h => by simp at h
  | t :: l, 0, s, h => by
    simp at h; subst h
    exact ⟨rfl, rfl⟩
  | t :: l, i + 1, s, h => by
    have := flat_at l i s (by simpa using h)
    have e : flat (t :: l) = [.int .i64 t.1, .int .i64 t.2] ++ flat l := rfl
    have e1 : (i + 1) * 2 = i * 2 + 2 := by omega
    rw [e, e1]
    exact ⟨by simpa using this.1, by simpa [Nat.add_right_comm] using this.2⟩
theorem flat_one (l : List Spn.Sp) : ∀ u ∈ flat l, u.oneCell' = true := by
  intro u hu
  unfold flat at hu
  rw [List.mem_flatMap] at hu
  obtain ⟨s, _, hu⟩ := hu
  simp at hu
  rcases hu with rfl | rfl <;> rfl
theorem Row2.below {w w' : World} {a : Option Addr} {l : List Spn.Sp} (h : Row2 w a l) (hb : Below w.heap.size w w') : Row2 w' a l := by
  rcases h with h | ⟨b, off, rfl, hlt, hc⟩
  · exact .inl h
  · exact .inr ⟨b, off, rfl, Nat.lt_of_lt_of_le hlt hb.size, fun i hi => ⟨(hb.cell (p := ⟨b, _, none⟩) hlt).trans (hc i hi).1, (hb.cell (p := ⟨b, _, none⟩) hlt).trans (hc i hi).2⟩⟩
theorem cell_behind {W w1 : World} {o : Obj} {row : Option Nat} {b off : Nat} {v : Value} (hg : ((W.alloc o).drew).grownBy w1 row) (hb : b < W.heap.size) (h : W.cell? ⟨b, off, none⟩ = some v) (hne : some b ≠ row) : w1.cell? ⟨b, off, none⟩ = some v :=
  hg.cell (show ((W.alloc o).drew).cell? ⟨b, off, none⟩ = some v from (World.cell?_alloc_past _ _ _ hb).trans h) hne
theorem flat_set (l : List Spn.Sp) (s : Spn.Sp) (y : Int) : (flat (l ++ [s])).set (l.length * 2 + 1) (.int .i64 y) = flat (l ++ [(s.1, y)]) := by
  rw [flat_append, flat_append, List.set_append_right _ _ (by rw [flat_len]; omega), flat_len]
  have e : l.length * 2 + 1 - l.length * 2 = 1 := by omega
  rw [e]; rfl
theorem Row2.news {w : World} {a : Option Addr} {l : List Spn.Sp} (h : Row2 w a l) : ∀ ad, a = some ad → ∀ j u, (flat l)[j]? = some u → w.cell? (ad.add j) = some u := by
  rintro ad rfl j u hj
  have hjl : j < l.length * 2 := by
    rcases Nat.lt_or_ge j (l.length * 2) with c | c
    · exact c
    · rw [List.getElem?_eq_none (by rw [flat_len]; exact c)] at hj; cases hj
  have hi : j / 2 < l.length := by omega
  rcases h with rfl | ⟨b, off, e, hlt, hc⟩
  · simp at hi
  · cases e
    have hs : l[j / 2]? = some (l.getD (j / 2) (0, 0)) := by simp [List.getD, List.getElem?_eq_getElem hi]
    have hf := flat_at l (j / 2) _ hs
    have hcc := hc (j / 2) hi
    have ha : ∀ k, (⟨b, off, none⟩ : Addr).add k = ⟨b, off + k, none⟩ := by
      intro k
      cases k with
      | zero => rfl
      | succ k => simp [Addr.add]
    rw [ha]
    rcases Nat.mod_two_eq_zero_or_one j with c | c
    · have e : j = j / 2 * 2 := by omega
      rw [e] at hj ⊢
      have e2 : j / 2 * 2 / 2 = j / 2 := by omega
      rw [hf.1] at hj
      rw [← Option.some.inj hj]
      exact hcc.1
    · have e : j = j / 2 * 2 + 1 := by omega
      rw [e] at hj ⊢
      rw [hf.2] at hj
      rw [← Option.some.inj hj]
      exact hcc.2
theorem cell2_new (w : World) (a b : Value) (t : TypeId) : ∀ j u, [a, b][j]? = some u → (w.alloc (.cells #[a, b] t)).cell? ((⟨w.heap.size, 0, none⟩ : Addr).add j) = some u := by
  intro j u hj
  match j, hj with
  | 0, hj => simp at hj; subst hj; simp [Addr.add]
  | 1, hj => simp at hj; subst hj; simp [Addr.add]
  | j + 2, hj => simp at hj
theorem cell2_at (w : World) (n : Nat) (hn : w.heap.size = n) (a b : Value) (t : TypeId) : ∀ j u, [a, b][j]? = some u → (w.alloc (.cells #[a, b] t)).cell? ((⟨n, 0, none⟩ : Addr).add j) = some u := by
  subst hn; exact cell2_new w a b t
theorem one2 (x y : Int) : ∀ u ∈ [Value.int .i64 x, Value.int .i64 y], u.oneCell' = true := by intro u hu; simp at hu; rcases hu with rfl | rfl <;> rfl
end Go.Proofs.YtehopfpcikbaiaaDoor
namespace Go.Proofs.YtehopfpcikbaiaaDoor
open Go.RowKit

namespace Trm
/-- the first k terms, a span each -/
def spn (y m d u n : Int) (k : Nat) : List Spn.Sp := (List.range k).map fun i : Nat => (day y m d u n i, day y m d u n (i + 1))
/-- what Full answers: nothing where the last one's end is beyond all days -/
def full (y m d u n : Int) (k : Nat) : List Spn.Sp := if day y m d u n k = 0 then [] else spn y m d u n k
theorem spn_len (y m d u n : Int) (k : Nat) : (spn y m d u n k).length = k := by simp [spn]
theorem spn_succ (y m d u n : Int) (k : Nat) : spn y m d u n (k + 1) = spn y m d u n k ++ [(day y m d u n k, day y m d u n (k + 1))] := by
  unfold spn; rw [List.range_succ, List.map_append]; rfl
theorem full_len (y m d u n : Int) (k : Nat) : (full y m d u n k).length ≤ k := by
  unfold full; split
  · simp
  · rw [spn_len]; exact Nat.le_refl _
/-- where the end of an earlier term is beyond all days, that of a later one is -/
theorem day_gone (y m d u n : Int) (h : Cal.vld y m d) (hn : 1 ≤ n) (a b : Nat) (hab : a ≤ b) (ha : day y m d u n a = 0) : day y m d u n b = 0 := by
  by_cases c : day y m d u n b = 0
  · exact c
  · exact absurd ha (day_mono y m d y m d u n a b h h hn (by omega) (by omega) (Int.le_refl _) c).1
end Trm
end Go.Proofs.YtehopfpcikbaiaaDoor
