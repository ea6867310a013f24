/- The program's persons: the day on which an age is turned; windows. -/
import Derived.Test.YtfncfbbkkpdhkaaDoorPnQ1
namespace Go.Proofs.YtfncfbbkkpdhkaaDoor
open Go.RowKit

theorem pTurns_at (s a v c : Int) (w : World) (hw : Laid w) (hv : Prs.turnsV s a = v) (hc : Prs.turnsE s a = c) :
    Calls Tryd.prog 8 #[.int .i64 s, .int .i64 a] w fun e w' => e = .returned (.tuple #[.int .i64 v, .int .i64 c]) ∧ Below w.heap.size w w' := by
  subst hv hc
  by_cases hb : Prs.bad s
  · have e1 : Prs.turnsV s a = 0 := by unfold Prs.turnsV; rw [if_pos (.inl hb)]
    have e2 : Prs.turnsE s a = 3 := by unfold Prs.turnsE; rw [if_pos (.inl hb)]
    rw [e1, e2]
    have HB : Hid (decide (¬ Prs.bad s) = false) := decide_eq_false (fun q => q hb)
    clear e1 e2 hb hw
    go_enter Tryd.func8, Tryd.ntmps8
    go_wp2_with (go_at_call 16; refine (qday_is _ _ _ HB.out).mono ?_; rintro e w' ⟨rfl, rfl⟩)
    go_ret2
    exact ⟨rfl, Below.refl _ _⟩
  · have HB : Hid (decide (¬ Prs.bad s) = true) := decide_eq_true hb
    by_cases ha : a < 0 ∨ 150 < a
    · have e1 : Prs.turnsV s a = 0 := by unfold Prs.turnsV; rw [if_pos (.inr ha)]
      have e2 : Prs.turnsE s a = 3 := by unfold Prs.turnsE; rw [if_pos (.inr ha)]
      rw [e1, e2]
      have HA : Hid (decide (0 ≤ a ∧ a ≤ 150) = false) := decide_eq_false (by omega)
      clear e1 e2 hb hw ha
      go_enter Tryd.func8, Tryd.ntmps8
      go_wp2_with (first
        | (go_at_call 16; refine (qday_is _ _ _ HB.out).mono ?_; rintro e w' ⟨rfl, rfl⟩)
        | (go_at_call 20; refine (qwithin_is _ _ _ _ _ HA.out).mono ?_; rintro e w' ⟨rfl, rfl⟩))
      go_ret2
      exact ⟨rfl, Below.refl _ _⟩
    · have hn : ¬ (Prs.bad s ∨ a < 0 ∨ 150 < a) := fun q => q.elim hb ha
      have e1 : Prs.turnsV s a = Prs.tns s a := by unfold Prs.turnsV; rw [if_neg hn]
      have e2 : Prs.turnsE s a = Trm.over (Prs.tns s a) := by unfold Prs.turnsE Trm.over; rw [if_neg hn]
      rw [e1, e2]
      have HA : Hid (decide (0 ≤ a ∧ a ≤ 150) = true) := decide_eq_true (by omega)
      have HC : Hid (Calls Tryd.prog 19 #[.int .i64 s, .int .i64 a] w fun e w' => e = .returned (.tuple #[.int .i64 (Prs.tns s a), .int .i64 (Trm.over (Prs.tns s a))]) ∧ Below w.heap.size w w') := turned_is s a _ _ w hw hb (by omega) (by omega) rfl rfl
      clear e1 e2 hb hw ha hn
      go_enter Tryd.func8, Tryd.ntmps8
      go_wp2_with (first
        | (go_at_call 16; refine (qday_is _ _ _ HB.out).mono ?_; rintro e w' ⟨rfl, rfl⟩)
        | (go_at_call 20; refine (qwithin_is _ _ _ _ _ HA.out).mono ?_; rintro e w' ⟨rfl, rfl⟩)
        | (go_at_call 19; refine HC.out.mono ?_; rintro e w' ⟨rfl, hb⟩))
      go_ret2
      exact ⟨rfl, hb⟩
theorem has3_keep {w w' : World} {x y z : Value} {t : TypeId} (hb : Below (w.alloc (.cells #[x, y, z] t)).heap.size (w.alloc (.cells #[x, y, z] t)) w') :
    w'.cell? ⟨w.heap.size, 0, none⟩ = some x ∧ w'.cell? ⟨w.heap.size, 1, none⟩ = some y ∧ w'.cell? ⟨w.heap.size, 2, none⟩ = some z := by
  have hlt : w.heap.size < (w.alloc (.cells #[x, y, z] t)).heap.size := by simp
  exact ⟨(hb.cell (p := ⟨w.heap.size, 0, none⟩) hlt).trans (by simp), (hb.cell (p := ⟨w.heap.size, 1, none⟩) hlt).trans (by simp), (hb.cell (p := ⟨w.heap.size, 2, none⟩) hlt).trans (by simp)⟩
theorem isClass_is (f t p : Int) (b : Bool) (w : World) (h : decide (¬ Prs.Kl.bad ⟨f, t, p⟩) = b) :
    Calls Tryd.prog 21 #[.agg #[.int .i64 f, .int .i64 t, .int .i64 p]] w fun e w' => e = .returned (.bool b) ∧ Below w.heap.size w w' := by
  have hb : b = (decide (0 ≤ t ∧ t ≤ 149) && decide (0 ≤ f ∧ f ≤ t) && decide (0 ≤ p ∧ p ≤ 100)) := by
    rw [← h, Bool.eq_iff_iff]
    unfold Prs.Kl.bad
    simp only [decide_eq_true_eq, Bool.and_eq_true]
    omega
  clear h
  by_cases h1 : 0 ≤ t ∧ t ≤ 149
  · have H1 : Hid (decide (0 ≤ t ∧ t ≤ 149) = true) := decide_eq_true h1
    rw [H1.out] at hb
    by_cases h2 : 0 ≤ f ∧ f ≤ t
    · have H2 : Hid (decide (0 ≤ f ∧ f ≤ t) = true) := decide_eq_true h2
      have H3 : Hid (decide (0 ≤ p ∧ p ≤ 100) = b) := by show _ = _; rw [hb, H2.out]; rfl
      clear hb h1 h2
      go_enter Tryd.func21, Tryd.ntmps21
      go_wp2_with fail
      refine (qwithin_is t 0 149 _ _ H1.out).mono ?_; rintro e w' ⟨rfl, rfl⟩
      go_wp2_with fail
      refine (qwithin_is f 0 t _ _ H2.out).mono ?_; rintro e w' ⟨rfl, rfl⟩
      go_wp2_with fail
      refine (qwithin_is p 0 100 _ _ H3.out).mono ?_; rintro e w' ⟨rfl, rfl⟩
      go_wp2
      go_ret
      exact ⟨rfl, below_box _ _⟩
    · have H2 : Hid (decide (0 ≤ f ∧ f ≤ t) = false) := decide_eq_false h2
      obtain rfl : b = false := by rw [hb, H2.out]; rfl
      clear hb h1 h2
      go_enter Tryd.func21, Tryd.ntmps21
      go_wp2_with fail
      refine (qwithin_is t 0 149 _ _ H1.out).mono ?_; rintro e w' ⟨rfl, rfl⟩
      go_wp2_with fail
      refine (qwithin_is f 0 t _ _ H2.out).mono ?_; rintro e w' ⟨rfl, rfl⟩
      go_wp2
      go_ret
      exact ⟨rfl, below_box _ _⟩
  · have H1 : Hid (decide (0 ≤ t ∧ t ≤ 149) = false) := decide_eq_false h1
    obtain rfl : b = false := by rw [hb, H1.out]; rfl
    clear hb h1
    go_enter Tryd.func21, Tryd.ntmps21
    go_wp2_with fail
    refine (qwithin_is t 0 149 _ _ H1.out).mono ?_; rintro e w' ⟨rfl, rfl⟩
    go_wp2
    go_ret
    exact ⟨rfl, below_box _ _⟩
end Go.Proofs.YtfncfbbkkpdhkaaDoor
