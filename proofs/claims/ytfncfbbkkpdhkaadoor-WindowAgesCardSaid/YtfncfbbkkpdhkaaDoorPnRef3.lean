/- The reference's persons: how old somebody is on a day. -/
import Derived.Test.YtfncfbbkkpdhkaaDoorPnRef2
namespace Go.Proofs.YtfncfbbkkpdhkaaDoor
open Go.RowKit

set_option maxRecDepth 100000 in
set_option maxHeartbeats 4000000 in
theorem ageOf_any (s n X E : Int) (w : World) (h : Prs.AgeAns s n X E) :
    Calls Tryd.prog 11 #[.int .i64 s, .int .i64 n] w fun e w' => e = .returned (.tuple #[.int .i64 X, .int .i64 E]) ∧ Below w.heap.size w w' := by
  by_cases hb : Prs.bad s
  · have e : X = 0 ∧ E = 3 := by
      rcases h with h | h | h
      · exact h.2
      · exact absurd hb h.1
      · exact absurd hb h.1
    obtain ⟨rfl, rfl⟩ := e
    have HB : Hid (decide (Prs.bad s) = true) := decide_eq_true hb
    clear hb h
    go_enter Tryd.func11, Tryd.ntmps11
    go_wp2_with (go_at_call 22; refine (noDay_is _ true _ HB.out).mono ?_; rintro e w' ⟨rfl, rfl⟩)
    go_ret2
    exact ⟨rfl, Below.refl _ _⟩
  by_cases hb2 : Prs.bad n
  · have e : X = 0 ∧ E = 3 := by
      rcases h with h | h | h
      · exact h.2
      · exact absurd hb2 h.2.1
      · exact absurd hb2 h.2.1
    obtain ⟨rfl, rfl⟩ := e
    have HB : Hid (decide (Prs.bad s) = false) := decide_eq_false hb
    have HB2 : Hid (decide (Prs.bad n) = true) := decide_eq_true hb2
    clear hb hb2 h
    go_enter Tryd.func11, Tryd.ntmps11
    go_wp2_with (go_at_call 22; first | (refine (noDay_is s false _ HB.out).mono ?_; rintro e w' ⟨rfl, rfl⟩) | (refine (noDay_is n true _ HB2.out).mono ?_; rintro e w' ⟨rfl, rfl⟩))
    go_ret2
    exact ⟨rfl, Below.refl _ _⟩
  have HB : Hid (decide (Prs.bad s) = false) := decide_eq_false hb
  have HB2 : Hid (decide (Prs.bad n) = false) := decide_eq_false hb2
  by_cases hlt : n < s
  · have e : X = 0 ∧ E = 4 := by
      rcases h with h | h | h
      · rcases h.1 with q | q
        · exact absurd q hb
        · exact absurd q hb2
      · exact ⟨h.2.2.2.1, h.2.2.2.2⟩
      · have := h.2.2.1; omega
    obtain ⟨rfl, rfl⟩ := e
    clear hb hb2 h
    go_enter Tryd.func11, Tryd.ntmps11
    go_wp2_with (go_at_call 22; first | (refine (noDay_is s false _ HB.out).mono ?_; rintro e w' ⟨rfl, rfl⟩) | (refine (noDay_is n false _ HB2.out).mono ?_; rintro e w' ⟨rfl, rfl⟩))
    go_ret2
    exact ⟨rfl, Below.refl _ _⟩
  obtain ⟨y, m, d, v, en⟩ := Prs.date_of hb
  obtain ⟨yn, mn, dn, vn, enn⟩ := Prs.date_of hb2
  have h1 := Prs.age_one h v en vn enn (by omega)
  obtain ⟨i1, _⟩ := Trm.num_index _ _ _ _ _ _ v vn (by omega)
  have HV : Hid (Cal.vld y m d ∧ Cal.num y m d = s) := ⟨v, en⟩
  have HVN : Hid (Cal.vld yn mn dn ∧ Cal.num yn mn dn = n) := ⟨vn, enn⟩
  have y1 : 1 ≤ y := v.1
  have y2 : yn ≤ 9999 := vn.2.1
  have y3 : y ≤ yn := by
    have := v.2.2.2.1
    have := v.2.2.1
    have := vn.2.2.1
    have := vn.2.2.2.1
    omega
  have hle : s ≤ n := by omega
  obtain ⟨t, ht⟩ : ∃ t, Prs.tn y m d (yn - y) = t := ⟨_, rfl⟩
  have HT : Hid (Prs.tn y m d (yn - y) = t) := ht
  unfold Prs.byDate at h1
  rw [ht] at h1
  have HH : Hid (_) := h1
  clear hb hb2 h v vn en enn i1 ht h1 hlt
  go_enter Tryd.func11, Tryd.ntmps11
  go_wp2_with (go_at_call 22; first | (refine (noDay_is s false _ HB.out).mono ?_; rintro e w' ⟨rfl, rfl⟩) | (refine (noDay_is n false _ HB2.out).mono ?_; rintro e w' ⟨rfl, rfl⟩))
  refine (dateOf_ok s y m d _ HV.out.1 HV.out.2).mono ?_
  rintro e w1 ⟨rfl, hb⟩
  have B1 : Hid (Below w.heap.size w w1) := hb
  clear hb
  go_wp2_with fail
  refine (dateOf_ok n yn mn dn _ HVN.out.1 HVN.out.2).mono ?_
  rintro e w2 ⟨rfl, hb⟩
  have B2 : Hid (Below w.heap.size w w2) := below_next (below_next B1.out (Nat.le_refl _) (below_box _ _)) (Nat.le_refl _) hb
  have k0 : (w2.alloc (.cells #[.int .i64 yn, .int .i64 mn, .int .i64 dn] 42)).cell? ⟨w1.heap.size, 0, none⟩ = some (.int .i64 y) := ((Has3.below (Has3.new w1 y m d 42) hb).alloc _).2.1
  have B3 : Hid (Below w.heap.size w (w2.alloc (.cells #[.int .i64 yn, .int .i64 mn, .int .i64 dn] 42))) := below_next B2.out (Nat.le_refl _) (below_box _ _)
  clear hb
  go_wp2_with fail
  refine (turnDay_at s y m d (yn - y) t _ HV.out.1 HV.out.2 (by omega) (by omega) HT.out).mono ?_
  rintro e w3 ⟨rfl, hb⟩
  have B4 : Hid (Below w.heap.size w w3) := below_next B3.out (Nat.le_refl _) hb
  clear hb k0
  by_cases c : n < t
  · have HH2 : Hid ((150 < yn - y - 1 ∧ X = 0 ∧ E = 2) ∨ (yn - y - 1 ≤ 150 ∧ X = yn - y - 1 ∧ E = 0)) := by have := HH.out; rw [if_pos c] at this; exact this
    clear HH
    obtain ⟨c2, rfl, rfl⟩ | ⟨c2, rfl, rfl⟩ := HH2.out
    all_goals
      clear HH2
      go_wp2
      go_ret2
      exact ⟨rfl, B4.out⟩
  · have HH2 : Hid ((150 < yn - y ∧ X = 0 ∧ E = 2) ∨ (yn - y ≤ 150 ∧ X = yn - y ∧ E = 0)) := by have := HH.out; rw [if_neg c] at this; exact this
    clear HH
    obtain ⟨c2, rfl, rfl⟩ | ⟨c2, rfl, rfl⟩ := HH2.out
    all_goals
      clear HH2
      go_wp2
      go_ret2
      exact ⟨rfl, B4.out⟩
end Go.Proofs.YtfncfbbkkpdhkaaDoor
