/- The reference's persons: turns. -/
import Derived.Test.YtfncfbbkkpdhkaaDoorPnRef
import Derived.Test.YtfncfbbkkpdhkaaDoorPnPl
namespace Go.Proofs.YtfncfbbkkpdhkaaDoor
open Go.RowKit

theorem noDay_is (s : Int) (b : Bool) (w : World) (h : decide (Prs.bad s) = b) : Calls Tryd.prog 22 #[.int .i64 s] w fun e w' => e = .returned (.bool b) ∧ w = w' := by
  subst h
  by_cases h : Prs.bad s
  · rw [decide_eq_true h]; exact (pnoDay_yes s w h).mono fun _ _ h => ⟨h.1, h.2.symm⟩
  · rw [decide_eq_false h]; unfold Prs.bad at h; exact (pnoDay_no s w (by omega) (by omega)).mono fun _ _ h => ⟨h.1, h.2.symm⟩
theorem turnDay_of (s a v : Int) (w : World) (hs : ¬ Prs.bad s) (ha : 0 ≤ a) (ha2 : a ≤ 10000) (ht : Prs.tns s a = v) :
    Calls Tryd.prog 24 #[.int .i64 s, .int .i64 a] w fun e w' => e = .returned (.int .i64 v) ∧ Below w.heap.size w w' := by
  obtain ⟨y, m, d, hv, hn⟩ := Prs.date_of hs
  exact turnDay_at s y m d a v w hv hn ha ha2 ((Prs.tns_is hv hn a).symm.trans ht)
set_option maxRecDepth 100000 in
set_option maxHeartbeats 2000000 in
theorem turnsOf_any (s a : Int) (w : World) :
    Calls Tryd.prog 12 #[.int .i64 s, .int .i64 a] w fun e w' => e = .returned (.tuple #[.int .i64 (Prs.turnsV s a), .int .i64 (Prs.turnsE s a)]) ∧ Below w.heap.size w w' := by
  by_cases h : Prs.bad s ∨ a < 0 ∨ 150 < a
  · have e1 : Prs.turnsV s a = 0 := by unfold Prs.turnsV; rw [if_pos h]
    have e2 : Prs.turnsE s a = 3 := by unfold Prs.turnsE; rw [if_pos h]
    rw [e1, e2]
    clear e1 e2
    by_cases hb : Prs.bad s
    · have HB : Hid (decide (Prs.bad s) = true) := decide_eq_true hb
      clear hb h
      go_enter Tryd.func12, Tryd.ntmps12
      go_wp2_with (go_at_call 22; refine (noDay_is _ true _ HB.out).mono ?_; rintro e w' ⟨rfl, rfl⟩)
      go_ret2
      exact ⟨rfl, Below.refl _ _⟩
    · have HB : Hid (decide (Prs.bad s) = false) := decide_eq_false hb
      have h2 : a < 0 ∨ 150 < a := by rcases h with h | h; exact absurd h hb; exact h
      clear hb h
      rcases h2 with h2 | h2
      all_goals
        go_enter Tryd.func12, Tryd.ntmps12
        go_wp2_with (go_at_call 22; refine (noDay_is _ false _ HB.out).mono ?_; rintro e w' ⟨rfl, rfl⟩)
        go_ret2
        exact ⟨rfl, Below.refl _ _⟩
  · have hb : ¬ Prs.bad s := fun e => h (.inl e)
    have HB : Hid (decide (Prs.bad s) = false) := decide_eq_false hb
    have HN : Hid (¬ Prs.bad s) := hb
    obtain ⟨t, ht⟩ : ∃ t, Prs.tns s a = t := ⟨_, rfl⟩
    have e1 : Prs.turnsV s a = t := by unfold Prs.turnsV; rw [if_neg h, ht]
    have e2 : Prs.turnsE s a = if t = 0 then 8 else 0 := by unfold Prs.turnsE; rw [if_neg h, ht]
    rw [e1, e2]
    have HT : Hid (Prs.tns s a = t) := ht
    have h1 : 0 ≤ a := by omega
    have h2 : a ≤ 150 := by omega
    clear hb h e1 e2 ht
    by_cases h0 : t = 0
    · subst h0
      rw [if_pos rfl]
      go_enter Tryd.func12, Tryd.ntmps12
      go_wp2_with (go_at_call 22; refine (noDay_is _ false _ HB.out).mono ?_; rintro e w' ⟨rfl, rfl⟩)
      refine (turnDay_of s a 0 _ HN.out h1 (by omega) HT.out).mono ?_
      rintro e w1 ⟨rfl, hb⟩
      have B1 : Hid (Below w.heap.size w w1) := hb
      clear hb
      go_wp2
      go_ret2
      exact ⟨rfl, B1.out⟩
    · have h0' : (t == 0) = false := by simpa using h0
      rw [if_neg h0]
      clear h0
      go_enter Tryd.func12, Tryd.ntmps12
      go_wp2_with (go_at_call 22; refine (noDay_is _ false _ HB.out).mono ?_; rintro e w' ⟨rfl, rfl⟩)
      refine (turnDay_of s a t _ HN.out h1 (by omega) HT.out).mono ?_
      rintro e w1 ⟨rfl, hb⟩
      have B1 : Hid (Below w.heap.size w w1) := hb
      clear hb
      go_wp2
      go_ret2
      exact ⟨rfl, B1.out⟩
theorem turnsOf_at (s a v c : Int) (w : World) (hv : Prs.turnsV s a = v) (hc : Prs.turnsE s a = c) :
    Calls Tryd.prog 12 #[.int .i64 s, .int .i64 a] w fun e w' => e = .returned (.tuple #[.int .i64 v, .int .i64 c]) ∧ Below w.heap.size w w' := by
  subst hv hc; exact turnsOf_any s a w
end Go.Proofs.YtfncfbbkkpdhkaaDoor
