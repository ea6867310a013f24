/- The walks of package term: the search, and Find. The walk of term.Full: the first so many terms, a span each. The walks of the document's own answers (the reference): they come to the same plain mathematics; nothing old in memory turns. -/
import Derived.Test.YtandlmnbnjkklaaDoorTFst
import Derived.Laws.Shifts
import Derived.Shelf.Abstract
import Derived.Test.YtandlmnbnjkklaaDoorOwnS
import Derived.Test.YtandlmnbnjkklaaDoorCore
import Derived.Deep.RegionWith
namespace Go.Proofs.YtandlmnbnjkklaaDoor
open Go.RowKit

/-- the three boxes that the search's closure reads -/
def FBox (W : World) (b : Nat) (s u n N : Int) : Prop :=
  b + 2 < W.heap.size ∧ W.cell? ⟨b, 0, none⟩ = some (.int .i64 s) ∧ W.cell? ⟨b + 1, 0, none⟩ = some (.int .i64 u) ∧ W.cell? ⟨b + 1, 1, none⟩ = some (.int .i64 n) ∧ W.cell? ⟨b + 2, 0, none⟩ = some (.int .i64 N)
theorem FBox.below {W W' : World} {b : Nat} {s u n N : Int} (h : FBox W b s u n N) (hb : Below W.heap.size W W') : FBox W' b s u n N := by
  obtain ⟨h1, h2, h3, h4, h5⟩ := h
  obtain ⟨hc, _⟩ := bcell hb
  refine ⟨Nat.lt_of_lt_of_le h1 hb.size, ?_, ?_, ?_, ?_⟩
  · rw [hc b 0 (by omega)]; exact h2
  · rw [hc (b + 1) 0 (by omega)]; exact h3
  · rw [hc (b + 1) 1 (by omega)]; exact h4
  · rw [hc (b + 2) 0 h1]; exact h5
namespace Trm
/-- why a day lies in no term: 0 where nothing stands in the way yet -/
def fbad (u n s N : Int) : Int := if chk u n = 0 then (if s < 1 ∨ 3652059 < s ∨ N < 1 ∨ 3652059 < N then 3 else if N < s then 4 else 0) else chk u n
theorem fbad_zero (u n s N : Int) (h : fbad u n s N = 0) : chk u n = 0 ∧ 1 ≤ s ∧ s ≤ N ∧ N ≤ 3652059 := by
  unfold fbad at h
  split at h
  · rename_i c
    split at h
    · cases h
    · split at h
      · cases h
      · exact ⟨c, by omega⟩
  · rename_i c; exact absurd h c
theorem fbad_cases (u n s N c : Int) (h : fbad u n s N = c) (hc : c ≠ 0) : (chk u n = c) ∨ (chk u n = 0 ∧ c = 3 ∧ (s < 1 ∨ 3652059 < s)) ∨ (chk u n = 0 ∧ c = 3 ∧ 1 ≤ s ∧ s ≤ 3652059 ∧ (N < 1 ∨ 3652059 < N)) ∨ (chk u n = 0 ∧ c = 4 ∧ 1 ≤ s ∧ s ≤ 3652059 ∧ 1 ≤ N ∧ N ≤ 3652059 ∧ N < s) := by
  unfold fbad at h
  split at h
  · rename_i g
    split at h
    · by_cases g2 : s < 1 ∨ 3652059 < s
      · exact .inr (.inl ⟨g, by omega, g2⟩)
      · exact .inr (.inr (.inl ⟨g, by omega, by omega, by omega, by omega⟩))
    · split at h
      · exact .inr (.inr (.inr ⟨g, by omega, by omega, by omega, by omega, by omega, by omega⟩))
      · exact absurd h.symm hc
  · exact .inl h
end Trm
theorem has1_new (W : World) (v : Value) (t : TypeId) : (W.alloc (.cells #[v] t)).cell? ⟨W.heap.size, 0, none⟩ = some v := by
  rw [World.cell?_alloc_at _ _ _ _ (by simp)]; rfl
theorem fbox_new (w : World) (s u n N : Int) : FBox (((w.alloc (.cells #[.int .i64 s] 3)).alloc (.cells #[.int .i64 u, .int .i64 n] 26)).alloc (.cells #[.int .i64 N] 3)) w.heap.size s u n N := by
  have a1 := has2_new (w.alloc (.cells #[.int .i64 s] 3)) u n 26
  rw [World.size_alloc] at a1
  have a0 : (w.alloc (.cells #[.int .i64 s] 3)).cell? ⟨w.heap.size, 0, none⟩ = some (.int .i64 s) := by simp
  have a2 : (((w.alloc (.cells #[.int .i64 s] 3)).alloc (.cells #[.int .i64 u, .int .i64 n] 26)).alloc (.cells #[.int .i64 N] 3)).cell? ⟨((w.alloc (.cells #[.int .i64 s] 3)).alloc (.cells #[.int .i64 u, .int .i64 n] 26)).heap.size, 0, none⟩ = some (.int .i64 N) := has1_new _ _ _
  rw [World.size_alloc, World.size_alloc] at a2
  exact ⟨by simp, (World.cell?_alloc_past _ _ _ (by simp; omega)).trans ((World.cell?_alloc_past _ _ _ (by simp)).trans a0), (World.cell?_alloc_past _ _ _ (by simp)).trans a1.1, (World.cell?_alloc_past _ _ _ (by simp)).trans a1.2, a2⟩
theorem below_three (w : World) (o1 o2 o3 : Obj) : Below w.heap.size w (((w.alloc o1).alloc o2).alloc o3) :=
  ((below_box w o1).alloc (by simp) o2).alloc (by simp; omega) o3
end Go.Proofs.YtandlmnbnjkklaaDoor
namespace Go.Proofs.YtandlmnbnjkklaaDoor
open Go.RowKit

namespace Trm
/-- the first k terms, a span each -/
def spn (y m d u n : Int) (k : Nat) : List Spn.Sp := (List.range k).map fun i : Nat => (day y m d u n i, day y m d u n (i + 1))
/-- what Full answers: nothing where the last one's end is beyond all days -/
def full (y m d u n : Int) (k : Nat) : List Spn.Sp := if day y m d u n k = 0 then [] else spn y m d u n k
theorem spn_len (y m d u n : Int) (k : Nat) : (spn y m d u n k).length = k := by simp [spn]
theorem spn_succ (y m d u n : Int) (k : Nat) : spn y m d u n (k + 1) = spn y m d u n k ++ [(day y m d u n k, day y m d u n (k + 1))] := by
  unfold spn; rw [List.range_succ, List.map_append]; rfl
theorem full_len (y m d u n : Int) (k : Nat) : (full y m d u n k).length ≤ k := by
  unfold full; split
  · simp
  · rw [spn_len]; exact Nat.le_refl _
/-- where the end of an earlier term is beyond all days, that of a later one is -/
theorem day_gone (y m d u n : Int) (h : Cal.vld y m d) (hn : 1 ≤ n) (a b : Nat) (hab : a ≤ b) (ha : day y m d u n a = 0) : day y m d u n b = 0 := by
  by_cases c : day y m d u n b = 0
  · exact c
  · exact absurd ha (day_mono y m d y m d u n a b h h hn (by omega) (by omega) (Int.le_refl _) c).1
end Trm
end Go.Proofs.YtandlmnbnjkklaaDoor
namespace Go.Proofs.YtandlmnbnjkklaaDoor
open Go.RowKit

set_option maxHeartbeats 400000 in
theorem monthDays_ok (y m : Int) (w : World) (h1 : 1 ≤ y) (h2 : y ≤ 9999) (h3 : 1 ≤ m) (h4 : m ≤ 12) :
    Calls Tryd.prog 66 #[.int .i64 y, .int .i64 m] w fun e w' => e = .returned (.int .i64 (Cal.mlen y m)) ∧ w' = w := by
  by_cases hm : m = 2
  · subst hm
    rcases Cal.lp_cases y with ⟨hp, hy⟩ | ⟨hp, hy⟩
    · have e : Cal.mlen y 2 = 29 := by simp [Cal.mlen, hp]
      rw [e]; clear e hp
      go_enter Tryd.func66, Tryd.ntmps66
      go_wp2_with (go_at_call 75; refine (refLeap_any _ _).mono ?_; rintro e w' ⟨rfl, rfl⟩)
      go_ret
      exact ⟨rfl, rfl⟩
    · have e : Cal.mlen y 2 = 28 := by simp [Cal.mlen, hp]
      rw [e]; clear e hp
      go_enter Tryd.func66, Tryd.ntmps66
      go_wp2_with (go_at_call 75; refine (refLeap_any _ _).mono ?_; rintro e w' ⟨rfl, rfl⟩)
      go_ret
      exact ⟨rfl, rfl⟩
  · have : m = 1 ∨ m = 3 ∨ m = 4 ∨ m = 5 ∨ m = 6 ∨ m = 7 ∨ m = 8 ∨ m = 9 ∨ m = 10 ∨ m = 11 ∨ m = 12 := by omega
    clear h3 h4 hm
    rcases this with rfl | rfl | rfl | rfl | rfl | rfl | rfl | rfl | rfl | rfl | rfl
    all_goals
      simp [Cal.mlen]
      go_enter Tryd.func66, Tryd.ntmps66
      go_wp2
      go_ret
      exact ⟨rfl, rfl⟩
set_option maxHeartbeats 400000 in
theorem monthDays_no (y m : Int) (w : World) (h : ¬ (1 ≤ y ∧ y ≤ 9999 ∧ 1 ≤ m ∧ m ≤ 12)) :
    Calls Tryd.prog 66 #[.int .i64 y, .int .i64 m] w fun e w' => e = .returned (.int .i64 0) ∧ w' = w := by
  by_cases h1 : y < 1
  · clear h
    go_enter Tryd.func66, Tryd.ntmps66
    go_wp2
    go_ret
    exact ⟨rfl, rfl⟩
  by_cases h2 : 9999 < y
  · clear h
    go_enter Tryd.func66, Tryd.ntmps66
    go_wp2
    go_ret
    exact ⟨rfl, rfl⟩
  by_cases h3 : m < 1
  · clear h
    go_enter Tryd.func66, Tryd.ntmps66
    go_wp2
    go_ret
    exact ⟨rfl, rfl⟩
  · have h4 : 12 < m := by omega
    clear h
    go_enter Tryd.func66, Tryd.ntmps66
    go_wp2
    go_ret
    exact ⟨rfl, rfl⟩
theorem floor_any (a : Int) (w : World) (h1 : 0 ≤ a) (h2 : a ≤ 20000) :
    Calls Tryd.prog 76 #[.int .i64 a, .int .i64 400] w fun e w' => e = .returned (.int .i64 (a / 400)) ∧ w' = w := by
  by_cases h : a % 400 = 0
  all_goals
    go_enter Tryd.func76, Tryd.ntmps76
    go_wp2
    go_ret
    exact ⟨rfl, rfl⟩
set_option maxHeartbeats 400000 in
theorem dayOf_any (y m d : Int) (w : World) (h1 : 1 ≤ y) (h2 : y ≤ 10000) (h3 : 1 ≤ m) (h4 : m ≤ 12) (h5 : 1 ≤ d) (h6 : d ≤ 31) :
    Calls Tryd.prog 67 #[.agg #[.int .i64 y, .int .i64 m, .int .i64 d]] w fun e w' => e = .returned (.int .i64 (Cal.num y m d)) ∧ Below w.heap.size w w' := by
  by_cases hm : 3 ≤ m
  · have HN : Hid (_) := Cal.dayOf_hi y m d hm
    go_enter Tryd.func67, Tryd.ntmps67
    go_wp2_with (go_at_call 76; refine (floor_any _ _ (by omega) (by omega)).mono ?_; rintro e w' ⟨rfl, rfl⟩)
    go_ret
    exact ⟨ret_int HN.out, below_box _ _⟩
  · have HN : Hid (_) := Cal.dayOf_lo y m d h3 (by omega)
    go_enter Tryd.func67, Tryd.ntmps67
    go_wp2_with (go_at_call 76; refine (floor_any _ _ (by omega) (by omega)).mono ?_; rintro e w' ⟨rfl, rfl⟩)
    go_ret
    exact ⟨ret_int HN.out, below_box _ _⟩
set_option maxHeartbeats 400000 in
theorem dateOf_err (n : Int) (w : World) (h : n < 1 ∨ 3652059 < n) :
    Calls Tryd.prog 65 #[.int .i64 n] w fun e w' => e = .returned (.tuple #[.agg #[.int .i64 0, .int .i64 0, .int .i64 0], .int .i64 3]) ∧ Below w.heap.size w w' := by
  by_cases h1 : n < 1
  · clear h
    go_enter Tryd.func65, Tryd.ntmps65
    go_wp2
    exact bodyPost_ret (v := .tuple #[.agg #[.int .i64 0, .int .i64 0, .int .i64 0], .int .i64 3]) (by simp [results, Tryd.results65, go_sem]) rfl ⟨rfl, below_box _ _⟩
  · have h2 : 3652059 < n := by omega
    clear h
    go_enter Tryd.func65, Tryd.ntmps65
    go_wp2
    exact bodyPost_ret (v := .tuple #[.agg #[.int .i64 0, .int .i64 0, .int .i64 0], .int .i64 3]) (by simp [results, Tryd.results65, go_sem]) rfl ⟨rfl, below_box _ _⟩
set_option maxHeartbeats 1000000 in
theorem dateOf_ok (n y mo d : Int) (w : World) (hv : Cal.vld y mo d) (hn : Cal.num y mo d = n) :
    Calls Tryd.prog 65 #[.int .i64 n] w fun e w' => e = .returned (.tuple #[.agg #[.int .i64 y, .int .i64 mo, .int .i64 d], .int .i64 0]) ∧ Below w.heap.size w w' := by
  have hi := Cal.num_in y mo d hv
  obtain ⟨e, r, doy, m, e0, e1, r0, r1, d0, d1, m0, m1, f1, f2, f3, f4, f5, f6⟩ := Cal.era_facts y mo d hv
  rw [hn] at hi f1 f2
  have hs : Cal.st r + doy - (365 * r + r / 4 - r / 100) = doy := by unfold Cal.st; omega
  have hb := Cal.st_bd r doy r0 r1 d0 d1
  unfold Cal.ff at f3
  generalize Cal.st r + doy = D at *
  clear hn hv
  obtain ⟨h1, h2⟩ := hi
  rcases f6 with ⟨g1, g2, g3⟩ | ⟨g1, g2, g3⟩
  · have g4 : m + 3 ≤ 12 := by omega
    subst g2 g3
    go_enter Tryd.func65, Tryd.ntmps65
    go_wp2
    exact bodyPost_ret (v := .tuple #[.agg #[.int .i64 (e * 400 + r), .int .i64 (m + 3), .int .i64 d], .int .i64 0]) (by simp [results, Tryd.results65, go_sem]) rfl ⟨rfl, (below_box _ _).alloc (by simp) _⟩
  · have g4 : 12 < m + 3 := by omega
    have g5 : m + 3 - 12 = m - 9 := by omega
    subst g2 g3
    go_enter Tryd.func65, Tryd.ntmps65
    go_wp2
    exact bodyPost_ret (v := .tuple #[.agg #[.int .i64 (e * 400 + r + 1), .int .i64 (m - 9), .int .i64 d], .int .i64 0]) (by simp [results, Tryd.results65, go_sem]) rfl ⟨rfl, (below_box _ _).alloc (by simp) _⟩
end Go.Proofs.YtandlmnbnjkklaaDoor
