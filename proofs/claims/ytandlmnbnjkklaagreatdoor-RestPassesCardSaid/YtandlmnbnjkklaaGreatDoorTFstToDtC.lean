/- The walks of package term: months behind a day, the first day of a term. The walks of package term: the search, and Find. The walk of term.Full: the first so many terms, a span each. The walks of the document's own answers (the reference): they come to the same plain mathematics; nothing old in memory turns. The reference's terms: the look, the first day of a term, month by month. The reference's terms: Nth and Find. The first day of a term, of the program and of the document's word, as one function. -/
import Derived.Test.YtandlmnbnjkklaaGreatDoorCoreToTWk
import Derived.Laws.Shifts
import Derived.Shelf.Abstract
import Derived.Test.YtandlmnbnjkklaaGreatDoorOwnS
import Derived.Deep.RegionWith
import Derived.Test.YtandlmnbnjkklaaGreatDoorTrmToTg
namespace Go.Proofs.YtandlmnbnjkklaaGreatDoor
open Go.RowKit

set_option maxHeartbeats 1000000 in
theorem monthsBehind_any (s y m d q : Int) (w : World) (hw : Laid w) (hv : Cal.vld y m d) (hs : Cal.num y m d = s) (h3 : 0 ≤ q) (h4 : q ≤ 2000000) :
    Calls Tryz.prog 84 #[.int .i64 s, .int .i64 q] w fun e w' => e = .returned (.tuple #[.int .i64 (Trm.mon y m d q), .int .i64 (Trm.over (Trm.mon y m d q))]) ∧ Below w.heap.size w w' := by
  have HV : Hid (Cal.vld y m d) := hv
  have HS : Hid (Cal.num y m d = s) := hs
  have HW : Hid (Laid w) := hw
  obtain ⟨v1, v2, v3, v4, v5, v6⟩ := hv
  have hml := Cal.mlen_bd y m
  have v7 : d ≤ 31 := by omega
  clear hw hs v6 hml
  by_cases h : 9999 < y + (m - 1 + q) / 12
  · have e : Trm.mon y m d q = 0 := by unfold Trm.mon; rw [if_pos h]
    have e2 : Trm.over 0 = 8 := rfl
    rw [e, e2]; clear e e2
    have eq1 : q + (m - 1) = m - 1 + q := by omega
    go_enter Tryz.func84, Tryz.ntmps84
    go_wp2_with fail
    refine (of_at s y m d _ HW.out HV.out HS.out).mono ?_; rintro e w1 ⟨rfl, b1⟩
    have B1 : Hid (Below w.heap.size w w1) := b1
    clear b1
    go_wp2_with fail
    go_ret2
    exact ⟨rfl, below_next B1.out (Nat.le_refl _) (below_box _ _)⟩
  · have e : Trm.mon y m d q = Cal.num (y + (m - 1 + q) / 12) ((m - 1 + q) % 12 + 1) (min d (Cal.mlen (y + (m - 1 + q) / 12) ((m - 1 + q) % 12 + 1))) := by unfold Trm.mon; rw [if_neg h]
    have hp := Cal.num_in _ _ _ (Trm.vld_mon y m d q HV.out h3 (by omega))
    have e2 : Trm.over (Trm.mon y m d q) = 0 := by unfold Trm.over; rw [if_neg (by rw [e]; omega)]
    rw [e2, e]; clear e e2 hp
    have eq1 : q + (m - 1) = m - 1 + q := by omega
    have l1 : 1 ≤ y + (m - 1 + q) / 12 := by omega
    have l2 : y + (m - 1 + q) / 12 ≤ 9999 := by omega
    have l3 : 1 ≤ (m - 1 + q) % 12 + 1 := by omega
    have l4 : (m - 1 + q) % 12 + 1 ≤ 12 := by omega
    go_enter Tryz.func84, Tryz.ntmps84
    go_wp2_with fail
    refine (of_at s y m d _ HW.out HV.out HS.out).mono ?_; rintro e w1 ⟨rfl, b1⟩
    have B1 : Hid (Below w.heap.size w w1) := b1
    clear b1
    go_wp2_with fail
    refine (inMonth_any _ _ _ _ ((HW.out.below B1.out).alloc _) l1 l2 l3 l4 v5 v7).mono ?_; rintro e w2 ⟨rfl, b2⟩
    go_wp2_with fail
    go_ret2
    exact ⟨rfl, below_next (below_next B1.out (Nat.le_refl _) (below_box _ _)) (Nat.le_refl _) b2⟩
set_option maxHeartbeats 1000000 in
theorem first_any (s y m d u n k : Int) (w : World) (hw : Laid w) (hv : Cal.vld y m d) (hs : Cal.num y m d = s) (hu1 : 1 ≤ u) (hu2 : u ≤ 4) (hn1 : 1 ≤ n) (hn2 : n ≤ 120) (hk1 : 0 ≤ k) (hk2 : k ≤ 1001) :
    Calls Tryz.prog 70 #[.int .i64 s, .agg #[.int .i64 u, .int .i64 n], .int .i64 k] w fun e w' => e = .returned (.tuple #[.int .i64 (Trm.day y m d u n k), .int .i64 (Trm.over (Trm.day y m d u n k))]) ∧ Below w.heap.size w w' := by
  have hq := Trm.mul_in k n hk1 hk2 hn1 hn2
  have hi := Cal.num_in y m d hv
  rw [hs] at hi
  have HV : Hid (Cal.vld y m d) := hv
  have HS : Hid (Cal.num y m d = s) := hs
  have HL : Hid (Laid (w.alloc (.cells #[.int .i64 u, .int .i64 n] 26))) := hw.alloc _
  clear hv hw
  have hu : u = 1 ∨ u = 2 ∨ u = 3 ∨ u = 4 := by omega
  clear hu1 hu2
  rcases hu with rfl | rfl | rfl | rfl
  · have e : Trm.day y m d 1 n k = Trm.days s (k * n) := by unfold Trm.day; rw [if_pos rfl, hs]
    rw [e]; clear e hs
    go_enter Tryz.func70, Tryz.ntmps70
    go_wp2_with (go_at_call 83; refine (daysBehind_any _ _ _ (by omega) (by omega) (by omega) (by omega)).mono ?_; rintro e w1 ⟨rfl, b1⟩)
    go_ret2
    exact ⟨rfl, below_next (below_box _ _) (Nat.le_refl _) b1⟩
  · have e : Trm.day y m d 2 n k = Trm.days s (k * n * 7) := by unfold Trm.day; rw [if_neg (by decide), if_pos rfl, hs]
    rw [e]; clear e hs
    go_enter Tryz.func70, Tryz.ntmps70
    go_wp2_with (go_at_call 83; refine (daysBehind_any _ _ _ (by omega) (by omega) (by omega) (by omega)).mono ?_; rintro e w1 ⟨rfl, b1⟩)
    go_ret2
    exact ⟨rfl, below_next (below_box _ _) (Nat.le_refl _) b1⟩
  · have e : Trm.day y m d 3 n k = Trm.mon y m d (k * n) := by unfold Trm.day; rw [if_neg (by decide), if_neg (by decide), if_pos rfl]
    rw [e]; clear e hs
    go_enter Tryz.func70, Tryz.ntmps70
    go_wp2_with (go_at_call 84; refine (monthsBehind_any _ y m d _ _ HL.out HV.out HS.out (by omega) (by omega)).mono ?_; rintro e w1 ⟨rfl, b1⟩)
    go_ret2
    exact ⟨rfl, below_next (below_box _ _) (Nat.le_refl _) b1⟩
  · have e : Trm.day y m d 4 n k = Trm.mon y m d (k * n * 12) := by unfold Trm.day; rw [if_neg (by decide), if_neg (by decide), if_neg (by decide)]
    rw [e]; clear e hs
    go_enter Tryz.func70, Tryz.ntmps70
    go_wp2_with (go_at_call 84; refine (monthsBehind_any _ y m d _ _ HL.out HV.out HS.out (by omega) (by omega)).mono ?_; rintro e w1 ⟨rfl, b1⟩)
    go_ret2
    exact ⟨rfl, below_next (below_box _ _) (Nat.le_refl _) b1⟩
theorem first_at (s y m d u n k x c : Int) (w : World) (hw : Laid w) (hv : Cal.vld y m d) (hs : Cal.num y m d = s) (hu1 : 1 ≤ u) (hu2 : u ≤ 4) (hn1 : 1 ≤ n) (hn2 : n ≤ 120) (hk1 : 0 ≤ k) (hk2 : k ≤ 1001) (hx : Trm.day y m d u n k = x) (hc : Trm.over x = c) :
    Calls Tryz.prog 70 #[.int .i64 s, .agg #[.int .i64 u, .int .i64 n], .int .i64 k] w fun e w' => e = .returned (.tuple #[.int .i64 x, .int .i64 c]) ∧ Below w.heap.size w w' := by
  subst hx hc; exact first_any s y m d u n k w hw hv hs hu1 hu2 hn1 hn2 hk1 hk2
theorem tcheck_at (u n c : Int) (w : World) (h : Trm.chk u n = c) :
    Calls Tryz.prog 67 #[.agg #[.int .i64 u, .int .i64 n]] w fun e w' => e = .returned (.int .i64 c) ∧ Below w.heap.size w w' := by
  subst h; exact tcheck_any u n w
namespace Trm
/-- why there is no kth term to be told, or no such list: 0 where nothing stands in the way yet -/
def bad (u n s k M : Int) : Int := if chk u n = 0 then (if s < 1 ∨ 3652059 < s ∨ k < 0 ∨ M < k then 3 else 0) else chk u n
theorem bad_zero (u n s k M : Int) (h : bad u n s k M = 0) : chk u n = 0 ∧ 1 ≤ s ∧ s ≤ 3652059 ∧ 0 ≤ k ∧ k ≤ M := by
  unfold bad at h
  split at h
  · rename_i c
    split at h
    · cases h
    · exact ⟨c, by omega⟩
  · rename_i c; exact absurd h c
end Trm
/-- the look at a start and a number, as Nth and Full have it -/
theorem bad_cases (u n s k M c : Int) (h : Trm.bad u n s k M = c) (hc : c ≠ 0) : (Trm.chk u n = c) ∨ (Trm.chk u n = 0 ∧ c = 3 ∧ (s < 1 ∨ 3652059 < s)) ∨ (Trm.chk u n = 0 ∧ c = 3 ∧ 1 ≤ s ∧ s ≤ 3652059 ∧ (k < 0 ∨ M < k)) := by
  unfold Trm.bad at h
  split at h
  · rename_i g
    split at h
    · by_cases g2 : s < 1 ∨ 3652059 < s
      · exact .inr (.inl ⟨g, by omega, g2⟩)
      · exact .inr (.inr ⟨g, by omega, by omega, by omega, by omega⟩)
    · exact absurd h.symm hc
  · exact .inl h
theorem has2_new (w : World) (x y : Int) (t : TypeId) : (w.alloc (.cells #[.int .i64 x, .int .i64 y] t)).cell? ⟨w.heap.size, 0, none⟩ = some (.int .i64 x) ∧ (w.alloc (.cells #[.int .i64 x, .int .i64 y] t)).cell? ⟨w.heap.size, 1, none⟩ = some (.int .i64 y) := ⟨by simp, by simp⟩
set_option maxHeartbeats 1000000 in
theorem nth_bad (s u n k c : Int) (w : World) (h : Trm.bad u n s k 1000 = c) (hc : c ≠ 0) :
    Calls Tryz.prog 49 #[.int .i64 s, .agg #[.int .i64 u, .int .i64 n], .int .i64 k] w fun e w' => e = .returned (.tuple #[.int .i64 0, .int .i64 c]) ∧ Below w.heap.size w w' := by
  have hc1 : (c != 0) = true := by simpa using hc
  rcases bad_cases u n s k 1000 c h hc with g | ⟨g, rfl, g2⟩ | ⟨g, rfl, g2, g3, g4⟩
  · have G : Hid (_) := g
    clear g h hc
    go_enter Tryz.func49, Tryz.ntmps49
    go_wp2_with fail
    refine (tcheck_at _ _ _ _ G.out).mono ?_; rintro e w1 ⟨rfl, b1⟩
    go_wp2_with fail
    go_ret2
    exact ⟨rfl, below_next (below_box _ _) (Nat.le_refl _) b1⟩
  · have G : Hid (_) := g
    have G2 : Hid (_) := g2
    clear g g2 h hc
    go_enter Tryz.func49, Tryz.ntmps49
    go_wp2_with fail
    refine (tcheck_at _ _ _ _ G.out).mono ?_; rintro e w1 ⟨rfl, b1⟩
    go_wp2_with (go_at_call 68; refine (tday_no _ _ G2.out).mono ?_; rintro e w' ⟨rfl, rfl⟩)
    go_ret2
    exact ⟨rfl, below_next (below_box _ _) (Nat.le_refl _) b1⟩
  · have G : Hid (_) := g
    have G4 : Hid (_) := g4
    clear g g4 h hc
    go_enter Tryz.func49, Tryz.ntmps49
    go_wp2_with fail
    refine (tcheck_at _ _ _ _ G.out).mono ?_; rintro e w1 ⟨rfl, b1⟩
    go_wp2_with (first
      | (go_at_call 68; refine (tday_yes _ _ g2 g3).mono ?_; rintro e w' ⟨rfl, rfl⟩)
      | (go_at_call 69; refine (twithin_no _ _ _ _ G4.out).mono ?_; rintro e w' ⟨rfl, rfl⟩))
    go_ret2
    exact ⟨rfl, below_next (below_box _ _) (Nat.le_refl _) b1⟩
set_option maxHeartbeats 1000000 in
theorem nth_ok (s y m d u n k x c : Int) (w : World) (hw : Laid w) (hv : Cal.vld y m d) (hs : Cal.num y m d = s) (hu1 : 1 ≤ u) (hu2 : u ≤ 4) (hn1 : 1 ≤ n) (hn2 : n ≤ 120) (hk1 : 0 ≤ k) (hk2 : k ≤ 1000) (hx : Trm.day y m d u n k = x) (hc : Trm.over x = c) :
    Calls Tryz.prog 49 #[.int .i64 s, .agg #[.int .i64 u, .int .i64 n], .int .i64 k] w fun e w' => e = .returned (.tuple #[.int .i64 x, .int .i64 c]) ∧ Below w.heap.size w w' := by
  have hi := Cal.num_in y m d hv
  rw [hs] at hi
  have G : Hid (Trm.chk u n = 0) := Trm.chk_ok u n hu1 hu2 hn1 hn2
  have HV : Hid (Cal.vld y m d ∧ Cal.num y m d = s ∧ Trm.day y m d u n k = x ∧ Trm.over x = c) := ⟨hv, hs, hx, hc⟩
  have HL : Hid (Laid (w.alloc (.cells #[.int .i64 u, .int .i64 n] 26))) := hw.alloc _
  clear hv hw hs hx hc
  go_enter Tryz.func49, Tryz.ntmps49
  go_wp2_with fail
  refine (tcheck_at _ _ _ _ G.out).mono ?_; rintro e w1 ⟨rfl, b1⟩
  have HB : Hid (_) := below_next (below_box w _) (Nat.le_refl _) b1
  have HL1 : Hid (Laid w1) := HL.out.below b1
  have c0 := (bcell b1).1 w.heap.size 0 (by simp)
  have c1 := (bcell b1).1 w.heap.size 1 (by simp)
  rw [(has2_new w u n 26).1] at c0
  rw [(has2_new w u n 26).2] at c1
  clear b1
  go_wp2_with (first
    | (go_at_call 68; refine (tday_yes _ _ hi.1 hi.2).mono ?_; rintro e w' ⟨rfl, rfl⟩)
    | (go_at_call 69; refine (twithin_yes _ _ _ _ hk1 hk2).mono ?_; rintro e w' ⟨rfl, rfl⟩)
    | (go_at_call 70; refine (first_at _ y m d _ _ _ x c _ HL1.out HV.out.1 HV.out.2.1 hu1 hu2 hn1 hn2 hk1 (by omega) HV.out.2.2.1 HV.out.2.2.2).mono ?_; rintro e w2 ⟨rfl, b2⟩))
  go_ret2
  exact ⟨rfl, below_next HB.out (Nat.le_refl _) b2⟩
end Go.Proofs.YtandlmnbnjkklaaGreatDoor
namespace Go.Proofs.YtandlmnbnjkklaaGreatDoor
open Go.RowKit

/-- the three boxes that the search's closure reads -/
def FBox (W : World) (b : Nat) (s u n N : Int) : Prop :=
  b + 2 < W.heap.size ∧ W.cell? ⟨b, 0, none⟩ = some (.int .i64 s) ∧ W.cell? ⟨b + 1, 0, none⟩ = some (.int .i64 u) ∧ W.cell? ⟨b + 1, 1, none⟩ = some (.int .i64 n) ∧ W.cell? ⟨b + 2, 0, none⟩ = some (.int .i64 N)
theorem FBox.below {W W' : World} {b : Nat} {s u n N : Int} (h : FBox W b s u n N) (hb : Below W.heap.size W W') : FBox W' b s u n N := by
  obtain ⟨h1, h2, h3, h4, h5⟩ := h
  obtain ⟨hc, _⟩ := bcell hb
  refine ⟨Nat.lt_of_lt_of_le h1 hb.size, ?_, ?_, ?_, ?_⟩
  · rw [hc b 0 (by omega)]; exact h2
  · rw [hc (b + 1) 0 (by omega)]; exact h3
  · rw [hc (b + 1) 1 (by omega)]; exact h4
  · rw [hc (b + 2) 0 h1]; exact h5
namespace Trm
/-- why a day lies in no term: 0 where nothing stands in the way yet -/
def fbad (u n s N : Int) : Int := if chk u n = 0 then (if s < 1 ∨ 3652059 < s ∨ N < 1 ∨ 3652059 < N then 3 else if N < s then 4 else 0) else chk u n
theorem fbad_zero (u n s N : Int) (h : fbad u n s N = 0) : chk u n = 0 ∧ 1 ≤ s ∧ s ≤ N ∧ N ≤ 3652059 := by
  unfold fbad at h
  split at h
  · rename_i c
    split at h
    · cases h
    · split at h
      · cases h
      · exact ⟨c, by omega⟩
  · rename_i c; exact absurd h c
theorem fbad_cases (u n s N c : Int) (h : fbad u n s N = c) (hc : c ≠ 0) : (chk u n = c) ∨ (chk u n = 0 ∧ c = 3 ∧ (s < 1 ∨ 3652059 < s)) ∨ (chk u n = 0 ∧ c = 3 ∧ 1 ≤ s ∧ s ≤ 3652059 ∧ (N < 1 ∨ 3652059 < N)) ∨ (chk u n = 0 ∧ c = 4 ∧ 1 ≤ s ∧ s ≤ 3652059 ∧ 1 ≤ N ∧ N ≤ 3652059 ∧ N < s) := by
  unfold fbad at h
  split at h
  · rename_i g
    split at h
    · by_cases g2 : s < 1 ∨ 3652059 < s
      · exact .inr (.inl ⟨g, by omega, g2⟩)
      · exact .inr (.inr (.inl ⟨g, by omega, by omega, by omega, by omega⟩))
    · split at h
      · exact .inr (.inr (.inr ⟨g, by omega, by omega, by omega, by omega, by omega, by omega⟩))
      · exact absurd h.symm hc
  · exact .inl h
end Trm
theorem has1_new (W : World) (v : Value) (t : TypeId) : (W.alloc (.cells #[v] t)).cell? ⟨W.heap.size, 0, none⟩ = some v := by
  rw [World.cell?_alloc_at _ _ _ _ (by simp)]; rfl
theorem fbox_new (w : World) (s u n N : Int) : FBox (((w.alloc (.cells #[.int .i64 s] 3)).alloc (.cells #[.int .i64 u, .int .i64 n] 26)).alloc (.cells #[.int .i64 N] 3)) w.heap.size s u n N := by
  have a1 := has2_new (w.alloc (.cells #[.int .i64 s] 3)) u n 26
  rw [World.size_alloc] at a1
  have a0 : (w.alloc (.cells #[.int .i64 s] 3)).cell? ⟨w.heap.size, 0, none⟩ = some (.int .i64 s) := by simp
  have a2 : (((w.alloc (.cells #[.int .i64 s] 3)).alloc (.cells #[.int .i64 u, .int .i64 n] 26)).alloc (.cells #[.int .i64 N] 3)).cell? ⟨((w.alloc (.cells #[.int .i64 s] 3)).alloc (.cells #[.int .i64 u, .int .i64 n] 26)).heap.size, 0, none⟩ = some (.int .i64 N) := has1_new _ _ _
  rw [World.size_alloc, World.size_alloc] at a2
  exact ⟨by simp, (World.cell?_alloc_past _ _ _ (by simp; omega)).trans ((World.cell?_alloc_past _ _ _ (by simp)).trans a0), (World.cell?_alloc_past _ _ _ (by simp)).trans a1.1, (World.cell?_alloc_past _ _ _ (by simp)).trans a1.2, a2⟩
theorem below_three (w : World) (o1 o2 o3 : Obj) : Below w.heap.size w (((w.alloc o1).alloc o2).alloc o3) :=
  ((below_box w o1).alloc (by simp) o2).alloc (by simp; omega) o3
end Go.Proofs.YtandlmnbnjkklaaGreatDoor
namespace Go.Proofs.YtandlmnbnjkklaaGreatDoor
open Go.RowKit

namespace Trm
/-- the first k terms, a span each -/
def spn (y m d u n : Int) (k : Nat) : List Spn.Sp := (List.range k).map fun i : Nat => (day y m d u n i, day y m d u n (i + 1))
/-- what Full answers: nothing where the last one's end is beyond all days -/
def full (y m d u n : Int) (k : Nat) : List Spn.Sp := if day y m d u n k = 0 then [] else spn y m d u n k
theorem spn_len (y m d u n : Int) (k : Nat) : (spn y m d u n k).length = k := by simp [spn]
theorem spn_succ (y m d u n : Int) (k : Nat) : spn y m d u n (k + 1) = spn y m d u n k ++ [(day y m d u n k, day y m d u n (k + 1))] := by
  unfold spn; rw [List.range_succ, List.map_append]; rfl
theorem full_len (y m d u n : Int) (k : Nat) : (full y m d u n k).length ≤ k := by
  unfold full; split
  · simp
  · rw [spn_len]; exact Nat.le_refl _
/-- where the end of an earlier term is beyond all days, that of a later one is -/
theorem day_gone (y m d u n : Int) (h : Cal.vld y m d) (hn : 1 ≤ n) (a b : Nat) (hab : a ≤ b) (ha : day y m d u n a = 0) : day y m d u n b = 0 := by
  by_cases c : day y m d u n b = 0
  · exact c
  · exact absurd ha (day_mono y m d y m d u n a b h h hn (by omega) (by omega) (Int.le_refl _) c).1
end Trm
end Go.Proofs.YtandlmnbnjkklaaGreatDoor
namespace Go.Proofs.YtandlmnbnjkklaaGreatDoor
open Go.RowKit

end Go.Proofs.YtandlmnbnjkklaaGreatDoor
namespace Go.Proofs.YtandlmnbnjkklaaGreatDoor
open Go.RowKit

theorem Has3.put {w : World} {b : Nat} {x y z : Int} (h : Has3 w b x y z) (t : Int) : Has3 (w.setCell ⟨b, 2, none⟩ (.int .i64 t)) b x y t :=
  ⟨by rw [World.size_setCell]; exact h.1, by rw [World.cell?_setCell_other _ _ _ _ (fun h => by cases h)]; exact h.2.1, by rw [World.cell?_setCell_other _ _ _ _ (fun h => by cases h)]; exact h.2.2.1, by rw [World.cell?_setCell_same' _ _ _ (by rw [h.2.2.2]; rfl)]⟩
end Go.Proofs.YtandlmnbnjkklaaGreatDoor
namespace Go.Proofs.YtandlmnbnjkklaaGreatDoor
open Go.RowKit

end Go.Proofs.YtandlmnbnjkklaaGreatDoor
namespace Go.Proofs.YtandlmnbnjkklaaGreatDoor
open Go.RowKit

namespace Trm
/-- the first day of the kth term from day s on, or why not -/
def nthF (s u n k : Int) : Int × Int := if bad u n s k 1000 = 0 then (match Cal.dt s with
  | some t => (day t.1 t.2.1 t.2.2 u n k, over (day t.1 t.2.1 t.2.2 u n k))
  | none => (0, 0)) else (0, bad u n s k 1000)
theorem nthF_is (s u n k : Int) : (bad u n s k 1000 ≠ 0 ∧ nthF s u n k = (0, bad u n s k 1000)) ∨ (∃ y m d, Cal.vld y m d ∧ Cal.num y m d = s ∧ 1 ≤ u ∧ u ≤ 4 ∧ 1 ≤ n ∧ n ≤ 120 ∧ 0 ≤ k ∧ k ≤ 1000 ∧ nthF s u n k = (day y m d u n k, over (day y m d u n k))) := by
  by_cases h : bad u n s k 1000 = 0
  · obtain ⟨h1, h2, h3, h4, h5⟩ := bad_zero _ _ _ _ _ h
    obtain ⟨a, b, c, d⟩ := chk_zero _ _ h1
    obtain ⟨y, m, dd, hv, hn⟩ := Cal.ex_date s h2 h3
    refine .inr ⟨y, m, dd, hv, hn, a, b, c, d, h4, h5, ?_⟩
    unfold nthF
    rw [if_pos h, Cal.dt_is hv hn]
  · exact .inl ⟨h, by unfold nthF; rw [if_neg h]⟩
end Trm
theorem pNthF (s u n k : Int) (w : World) (hw : Laid w) :
    Calls Tryz.prog 49 #[.int .i64 s, .agg #[.int .i64 u, .int .i64 n], .int .i64 k] w fun e w' => e = .returned (.tuple #[.int .i64 (Trm.nthF s u n k).1, .int .i64 (Trm.nthF s u n k).2]) ∧ Below w.heap.size w w' := by
  rcases Trm.nthF_is s u n k with ⟨h1, h2⟩ | ⟨y, m, d, h1, h2, h3, h4, h5, h6, h7, h8, h9⟩
  · rw [h2]; exact nth_bad s u n k _ w rfl h1
  · rw [h9]; exact nth_ok s y m d u n k _ _ w hw h1 h2 h3 h4 h5 h6 h7 h8 rfl rfl
end Go.Proofs.YtandlmnbnjkklaaGreatDoor
