/- The walk of AgeTurns. -/
import Derived.Test.YtfncfbbkkpdhkaaDoorPnBeg
namespace Go.Proofs.YtfncfbbkkpdhkaaDoor
open Go.RowKit Go.BigFrame

namespace Prs
theorem at_one {s n a b f : Int} (h : AgeAns s n a 0) (hn : s < n) (h' : AgeAns s (n - 1) b f) : f = 0 ∧ turnsE s a = 0 ∧ ((a = b + 1 ∧ turnsV s a = n) ∨ (a = b ∧ turnsV s a < n)) := by
  rcases h with h | h | ⟨g1, g2, _, y1, m1, d1, p, v, e, ha, h⟩
  · exact absurd h.2.2 (by decide)
  · exact absurd h.2.2.2.2 (by decide)
  have hp : p = a ∧ p ≤ 150 := by omega
  obtain ⟨rfl, hp⟩ := hp
  have g3 : ¬ bad (n - 1) := by unfold bad at g1 g2 ⊢; omega
  rcases h' with h' | h' | ⟨_, _, _, y2, m2, d2, q, v', e', ha', h'⟩
  · rcases h'.1 with k | k
    · exact absurd k g1
    · exact absurd k g3
  · have := h'.2.2.1; omega
  obtain ⟨rfl, rfl, rfl⟩ := Cal.num_inj _ _ _ _ _ _ v' v (e'.trans e.symm)
  obtain ⟨k1, k2⟩ := age_next v ha ha'
  have hq : q ≤ 150 := by omega
  have hqb : q = b ∧ f = 0 := by omega
  obtain ⟨rfl, rfl⟩ := hqb
  have hnb : ¬ (bad s ∨ p < 0 ∨ 150 < p) := by
    have := ha.a0
    rintro (k | k | k)
    · exact g1 k
    · omega
    · omega
  have ht : tns s p = tn y2 m2 d2 p := tns_is v e p
  have hE : turnsE s p = 0 := by unfold turnsE; rw [if_neg hnb, ht, if_neg ha.ne]
  have hV : turnsV s p = tn y2 m2 d2 p := by unfold turnsV; rw [if_neg hnb, ht]
  refine ⟨rfl, hE, ?_⟩
  rw [hV]
  have hle := ha.le
  rcases k2 with k2 | k2
  · exact .inr ⟨k2, by
      have : tn y2 m2 d2 p ≠ n := fun k => by have := k1.2 k; omega
      omega⟩
  · exact .inl ⟨k2, k1.1 k2⟩
theorem ans_day {s n x : Int} (h : AgeAns s n x 0) : 1 ≤ n ∧ n ≤ 3652059 := by
  rcases h with h | h | ⟨_, g2, _⟩
  · exact absurd h.2.2 (by decide)
  · exact absurd h.2.2.2.2 (by decide)
  · unfold bad at g2; omega
theorem ans_bd {s n x e : Int} (h : AgeAns s n x e) : 0 ≤ x ∧ x ≤ 150 := by
  rcases h with h | h | ⟨_, _, _, _, _, _, p, _, _, ha, h⟩
  · have := h.2.1; omega
  · have := h.2.2.2.1; omega
  · have := ha.a0; omega
theorem at_three {s a : Int} (h : turnsE s a ≠ 0) : turnsV s a = 0 := by
  unfold turnsE at h
  unfold turnsV
  by_cases c : bad s ∨ a < 0 ∨ 150 < a
  · rw [if_pos c]
  · rw [if_neg c] at h ⊢
    by_cases c2 : tns s a = 0
    · exact c2
    · rw [if_neg c2] at h; exact absurd rfl h
theorem at_two {s a t : Int} (hv : turnsV s a = t) (h : turnsE s a = 0) : AgeAns s t a 0 := by
  unfold turnsE at h
  unfold turnsV at hv
  by_cases c : bad s ∨ a < 0 ∨ 150 < a
  · rw [if_pos c] at h; exact absurd h (by decide)
  · rw [if_neg c] at h hv
    have hb : ¬ bad s := fun k => c (.inl k)
    have ha : 0 ≤ a ∧ a ≤ 150 := by
      constructor
      · rcases Int.lt_or_le a 0 with k | k
        · exact absurd (.inr (.inl k)) c
        · exact k
      · rcases Int.lt_or_le 150 a with k | k
        · exact absurd (.inr (.inr k)) c
        · exact k
    by_cases c2 : tns s a = 0
    · rw [if_pos c2] at h; exact absurd h (by decide)
    · obtain ⟨y, m, d, v, e⟩ := date_of hb
      have ht := tns_is v e a
      rw [ht] at hv c2
      subst hv
      have hin := tn_in y m d a v ha.1
      have hm := (tn_mono y m d 0 y m d a v v (by omega) ha.1 (Int.le_refl _) c2).2.1
      rw [tn_zero y m d v, e] at hm
      exact .inr (.inr ⟨hb, by unfold bad; omega, hm, y, m, d, a, v, e, age_turn v ha.1 c2, .inr ⟨ha.2, rfl, rfl⟩⟩)
end Prs
set_option maxRecDepth 100000 in
set_option maxHeartbeats 4000000 in
theorem atw_Az (born n age : Int) (w : World) (hw : Laid w) (a b : Int) (h1 : Prs.AgeAns born n a 0) (hn : born < n) (h2 : Prs.AgeAns born (n - 1) b 0) (hv : Prs.turnsV born a = n) (he : Prs.turnsE born a = 0) (hab : a = b + 1) (h5 : Prs.turnsE born age = 0) :
    Calls Tryd.prog 4 #[.int .i64 born, .int .i64 n, .int .i64 age] w fun e w' => e = .returned (.bool true) ∧ Below w.heap.size w w' := by
  have HW : Hid (Laid w) := hw
  obtain ⟨v, hv5⟩ : ∃ v, Prs.turnsV born age = v := ⟨_, rfl⟩
  have H5 : Hid (Prs.turnsV born age = v ∧ Prs.turnsE born age = 0) := ⟨hv5, h5⟩
  have H6 : Hid (Prs.AgeAns born v age 0) := Prs.at_two hv5 h5
  clear hv5
  subst hab
  have H1 : Hid (Prs.AgeAns born n (b + 1) 0) := h1
  have H2 : Hid (Prs.AgeAns born (n - 1) b 0) := h2
  have H3 : Hid (Prs.turnsV born (b + 1) = n ∧ Prs.turnsE born (b + 1) = 0) := ⟨hv, he⟩
  have hbb := Prs.ans_bd h2
  have hnn := Prs.ans_day h1
  obtain ⟨b1, b2⟩ := hbb
  obtain ⟨n1, n2⟩ := hnn
  clear h1 h2 hv he
  clear hw h5
  go_enter Tryd.func4, Tryd.ntmps4
  go_wp2_with fail
  refine (pAge_any born n (b + 1) 0 _ HW.out H1.out).mono ?_; rintro e w1 ⟨rfl, hb⟩
  have B1 : Hid (Below w.heap.size w w1) := hb
  clear hb
  go_wp2_with fail
  refine (pbegun_any _ (HW.out.below B1.out)).mono ?_; rintro e w2 ⟨rfl, hb⟩
  have B2 : Hid (Below w.heap.size w w2) := below_next B1.out (Nat.le_refl _) hb
  clear hb
  go_wp2_with fail
  refine (pAge_any born (n - 1) b 0 _ (HW.out.below B2.out) H2.out).mono ?_; rintro e w3 ⟨rfl, hb⟩
  have B3 : Hid (Below w.heap.size w w3) := below_next B2.out (Nat.le_refl _) hb
  clear hb
  go_wp2_with fail
  refine (pTurns_at born (b + 1) n 0 _ (HW.out.below B3.out) H3.out.1 H3.out.2).mono ?_; rintro e w4 ⟨rfl, hb⟩
  have B4 : Hid (Below w.heap.size w w4) := below_next B3.out (Nat.le_refl _) hb
  clear hb
  go_wp2_with fail
  refine (pTurns_at born age v 0 _ (HW.out.below B4.out) H5.out.1 H5.out.2).mono ?_; rintro e w5 ⟨rfl, hb⟩
  have B5 : Hid (Below w.heap.size w w5) := below_next B4.out (Nat.le_refl _) hb
  clear hb
  go_wp2_with fail
  refine (pAge_any born v age 0 _ (HW.out.below B5.out) H6.out).mono ?_; rintro e w6 ⟨rfl, hb⟩
  have B6 : Hid (Below w.heap.size w w6) := below_next B5.out (Nat.le_refl _) hb
  clear hb
  go_wp2
  go_ret
  exact ⟨rfl, B6.out⟩
set_option maxRecDepth 100000 in
set_option maxHeartbeats 4000000 in
theorem atw_An (born n age : Int) (w : World) (hw : Laid w) (a b : Int) (h1 : Prs.AgeAns born n a 0) (hn : born < n) (h2 : Prs.AgeAns born (n - 1) b 0) (hv : Prs.turnsV born a = n) (he : Prs.turnsE born a = 0) (hab : a = b + 1) (h5 : Prs.turnsE born age ≠ 0) :
    Calls Tryd.prog 4 #[.int .i64 born, .int .i64 n, .int .i64 age] w fun e w' => e = .returned (.bool true) ∧ Below w.heap.size w w' := by
  have HW : Hid (Laid w) := hw
  obtain ⟨c5, hc5⟩ : ∃ v, Prs.turnsE born age = v := ⟨_, rfl⟩
  have H5 : Hid (Prs.turnsV born age = 0 ∧ Prs.turnsE born age = c5) := ⟨Prs.at_three h5, hc5⟩
  have hc6 : (c5 != 0) = true := by rw [← hc5]; simpa using h5
  clear hc5
  subst hab
  have H1 : Hid (Prs.AgeAns born n (b + 1) 0) := h1
  have H2 : Hid (Prs.AgeAns born (n - 1) b 0) := h2
  have H3 : Hid (Prs.turnsV born (b + 1) = n ∧ Prs.turnsE born (b + 1) = 0) := ⟨hv, he⟩
  have hbb := Prs.ans_bd h2
  have hnn := Prs.ans_day h1
  obtain ⟨b1, b2⟩ := hbb
  obtain ⟨n1, n2⟩ := hnn
  clear h1 h2 hv he
  clear hw h5
  go_enter Tryd.func4, Tryd.ntmps4
  go_wp2_with fail
  refine (pAge_any born n (b + 1) 0 _ HW.out H1.out).mono ?_; rintro e w1 ⟨rfl, hb⟩
  have B1 : Hid (Below w.heap.size w w1) := hb
  clear hb
  go_wp2_with fail
  refine (pbegun_any _ (HW.out.below B1.out)).mono ?_; rintro e w2 ⟨rfl, hb⟩
  have B2 : Hid (Below w.heap.size w w2) := below_next B1.out (Nat.le_refl _) hb
  clear hb
  go_wp2_with fail
  refine (pAge_any born (n - 1) b 0 _ (HW.out.below B2.out) H2.out).mono ?_; rintro e w3 ⟨rfl, hb⟩
  have B3 : Hid (Below w.heap.size w w3) := below_next B2.out (Nat.le_refl _) hb
  clear hb
  go_wp2_with fail
  refine (pTurns_at born (b + 1) n 0 _ (HW.out.below B3.out) H3.out.1 H3.out.2).mono ?_; rintro e w4 ⟨rfl, hb⟩
  have B4 : Hid (Below w.heap.size w w4) := below_next B3.out (Nat.le_refl _) hb
  clear hb
  go_wp2_with fail
  refine (pTurns_at born age 0 c5 _ (HW.out.below B4.out) H5.out.1 H5.out.2).mono ?_; rintro e w5 ⟨rfl, hb⟩
  have B5 : Hid (Below w.heap.size w w5) := below_next B4.out (Nat.le_refl _) hb
  clear hb
  go_wp2
  go_ret
  exact ⟨rfl, B5.out⟩
set_option maxRecDepth 100000 in
set_option maxHeartbeats 4000000 in
theorem atw_Bz (born n age : Int) (w : World) (hw : Laid w) (a t : Int) (h1 : Prs.AgeAns born n a 0) (hn : born < n) (h2 : Prs.AgeAns born (n - 1) a 0) (hv : Prs.turnsV born a = t) (he : Prs.turnsE born a = 0) (ht : t < n) (h5 : Prs.turnsE born age = 0) :
    Calls Tryd.prog 4 #[.int .i64 born, .int .i64 n, .int .i64 age] w fun e w' => e = .returned (.bool true) ∧ Below w.heap.size w w' := by
  have HW : Hid (Laid w) := hw
  obtain ⟨v, hv5⟩ : ∃ v, Prs.turnsV born age = v := ⟨_, rfl⟩
  have H5 : Hid (Prs.turnsV born age = v ∧ Prs.turnsE born age = 0) := ⟨hv5, h5⟩
  have H6 : Hid (Prs.AgeAns born v age 0) := Prs.at_two hv5 h5
  clear hv5
  have H1 : Hid (Prs.AgeAns born n a 0) := h1
  have H2 : Hid (Prs.AgeAns born (n - 1) a 0) := h2
  have H3 : Hid (Prs.turnsV born a = t ∧ Prs.turnsE born a = 0) := ⟨hv, he⟩
  have hbb := Prs.ans_bd h2
  have hnn := Prs.ans_day h1
  obtain ⟨b1, b2⟩ := hbb
  obtain ⟨n1, n2⟩ := hnn
  have ne1 : (a == a + 1) = false := by simp; omega
  have ne2 : (t == n) = false := by simp; omega
  clear h1 h2 hv he
  clear hw h5
  go_enter Tryd.func4, Tryd.ntmps4
  go_wp2_with fail
  refine (pAge_any born n a 0 _ HW.out H1.out).mono ?_; rintro e w1 ⟨rfl, hb⟩
  have B1 : Hid (Below w.heap.size w w1) := hb
  clear hb
  go_wp2_with fail
  refine (pbegun_any _ (HW.out.below B1.out)).mono ?_; rintro e w2 ⟨rfl, hb⟩
  have B2 : Hid (Below w.heap.size w w2) := below_next B1.out (Nat.le_refl _) hb
  clear hb
  go_wp2_with fail
  refine (pAge_any born (n - 1) a 0 _ (HW.out.below B2.out) H2.out).mono ?_; rintro e w3 ⟨rfl, hb⟩
  have B3 : Hid (Below w.heap.size w w3) := below_next B2.out (Nat.le_refl _) hb
  clear hb
  go_wp2_with fail
  refine (pTurns_at born a t 0 _ (HW.out.below B3.out) H3.out.1 H3.out.2).mono ?_; rintro e w4 ⟨rfl, hb⟩
  have B4 : Hid (Below w.heap.size w w4) := below_next B3.out (Nat.le_refl _) hb
  clear hb
  go_wp2_with fail
  refine (pTurns_at born age v 0 _ (HW.out.below B4.out) H5.out.1 H5.out.2).mono ?_; rintro e w5 ⟨rfl, hb⟩
  have B5 : Hid (Below w.heap.size w w5) := below_next B4.out (Nat.le_refl _) hb
  clear hb
  go_wp2_with fail
  refine (pAge_any born v age 0 _ (HW.out.below B5.out) H6.out).mono ?_; rintro e w6 ⟨rfl, hb⟩
  have B6 : Hid (Below w.heap.size w w6) := below_next B5.out (Nat.le_refl _) hb
  clear hb
  go_wp2
  go_ret
  exact ⟨rfl, B6.out⟩
set_option maxRecDepth 100000 in
set_option maxHeartbeats 4000000 in
theorem atw_Bn (born n age : Int) (w : World) (hw : Laid w) (a t : Int) (h1 : Prs.AgeAns born n a 0) (hn : born < n) (h2 : Prs.AgeAns born (n - 1) a 0) (hv : Prs.turnsV born a = t) (he : Prs.turnsE born a = 0) (ht : t < n) (h5 : Prs.turnsE born age ≠ 0) :
    Calls Tryd.prog 4 #[.int .i64 born, .int .i64 n, .int .i64 age] w fun e w' => e = .returned (.bool true) ∧ Below w.heap.size w w' := by
  have HW : Hid (Laid w) := hw
  obtain ⟨c5, hc5⟩ : ∃ v, Prs.turnsE born age = v := ⟨_, rfl⟩
  have H5 : Hid (Prs.turnsV born age = 0 ∧ Prs.turnsE born age = c5) := ⟨Prs.at_three h5, hc5⟩
  have hc6 : (c5 != 0) = true := by rw [← hc5]; simpa using h5
  clear hc5
  have H1 : Hid (Prs.AgeAns born n a 0) := h1
  have H2 : Hid (Prs.AgeAns born (n - 1) a 0) := h2
  have H3 : Hid (Prs.turnsV born a = t ∧ Prs.turnsE born a = 0) := ⟨hv, he⟩
  have hbb := Prs.ans_bd h2
  have hnn := Prs.ans_day h1
  obtain ⟨b1, b2⟩ := hbb
  obtain ⟨n1, n2⟩ := hnn
  have ne1 : (a == a + 1) = false := by simp; omega
  have ne2 : (t == n) = false := by simp; omega
  clear h1 h2 hv he
  clear hw h5
  go_enter Tryd.func4, Tryd.ntmps4
  go_wp2_with fail
  refine (pAge_any born n a 0 _ HW.out H1.out).mono ?_; rintro e w1 ⟨rfl, hb⟩
  have B1 : Hid (Below w.heap.size w w1) := hb
  clear hb
  go_wp2_with fail
  refine (pbegun_any _ (HW.out.below B1.out)).mono ?_; rintro e w2 ⟨rfl, hb⟩
  have B2 : Hid (Below w.heap.size w w2) := below_next B1.out (Nat.le_refl _) hb
  clear hb
  go_wp2_with fail
  refine (pAge_any born (n - 1) a 0 _ (HW.out.below B2.out) H2.out).mono ?_; rintro e w3 ⟨rfl, hb⟩
  have B3 : Hid (Below w.heap.size w w3) := below_next B2.out (Nat.le_refl _) hb
  clear hb
  go_wp2_with fail
  refine (pTurns_at born a t 0 _ (HW.out.below B3.out) H3.out.1 H3.out.2).mono ?_; rintro e w4 ⟨rfl, hb⟩
  have B4 : Hid (Below w.heap.size w w4) := below_next B3.out (Nat.le_refl _) hb
  clear hb
  go_wp2_with fail
  refine (pTurns_at born age 0 c5 _ (HW.out.below B4.out) H5.out.1 H5.out.2).mono ?_; rintro e w5 ⟨rfl, hb⟩
  have B5 : Hid (Below w.heap.size w w5) := below_next B4.out (Nat.le_refl _) hb
  clear hb
  go_wp2
  go_ret
  exact ⟨rfl, B5.out⟩
set_option maxRecDepth 100000 in
set_option maxHeartbeats 4000000 in
theorem atw_Cz (born n age : Int) (w : World) (hw : Laid w) (a e : Int) (h1 : Prs.AgeAns born n a e) (hen : e ≠ 0) (h5 : Prs.turnsE born age = 0) :
    Calls Tryd.prog 4 #[.int .i64 born, .int .i64 n, .int .i64 age] w fun e w' => e = .returned (.bool true) ∧ Below w.heap.size w w' := by
  have HW : Hid (Laid w) := hw
  obtain ⟨v, hv5⟩ : ∃ v, Prs.turnsV born age = v := ⟨_, rfl⟩
  have H5 : Hid (Prs.turnsV born age = v ∧ Prs.turnsE born age = 0) := ⟨hv5, h5⟩
  have H6 : Hid (Prs.AgeAns born v age 0) := Prs.at_two hv5 h5
  clear hv5
  have H1 : Hid (Prs.AgeAns born n a e) := h1
  have he0 : (e == 0) = false := by simpa using hen
  clear h1 hen
  clear hw h5
  go_enter Tryd.func4, Tryd.ntmps4
  go_wp2_with fail
  refine (pAge_any born n a e _ HW.out H1.out).mono ?_; rintro e w1 ⟨rfl, hb⟩
  have B1 : Hid (Below w.heap.size w w1) := hb
  clear hb
  go_wp2_with fail
  refine (pbegun_any _ (HW.out.below B1.out)).mono ?_; rintro e w2 ⟨rfl, hb⟩
  have B2 : Hid (Below w.heap.size w w2) := below_next B1.out (Nat.le_refl _) hb
  clear hb
  go_wp2_with fail
  refine (pTurns_at born age v 0 _ (HW.out.below B2.out) H5.out.1 H5.out.2).mono ?_; rintro e w3 ⟨rfl, hb⟩
  have B3 : Hid (Below w.heap.size w w3) := below_next B2.out (Nat.le_refl _) hb
  clear hb
  go_wp2_with fail
  refine (pAge_any born v age 0 _ (HW.out.below B3.out) H6.out).mono ?_; rintro e w4 ⟨rfl, hb⟩
  have B4 : Hid (Below w.heap.size w w4) := below_next B3.out (Nat.le_refl _) hb
  clear hb
  go_wp2
  go_ret
  exact ⟨rfl, B4.out⟩
set_option maxRecDepth 100000 in
set_option maxHeartbeats 4000000 in
theorem atw_Cn (born n age : Int) (w : World) (hw : Laid w) (a e : Int) (h1 : Prs.AgeAns born n a e) (hen : e ≠ 0) (h5 : Prs.turnsE born age ≠ 0) :
    Calls Tryd.prog 4 #[.int .i64 born, .int .i64 n, .int .i64 age] w fun e w' => e = .returned (.bool true) ∧ Below w.heap.size w w' := by
  have HW : Hid (Laid w) := hw
  obtain ⟨c5, hc5⟩ : ∃ v, Prs.turnsE born age = v := ⟨_, rfl⟩
  have H5 : Hid (Prs.turnsV born age = 0 ∧ Prs.turnsE born age = c5) := ⟨Prs.at_three h5, hc5⟩
  have hc6 : (c5 != 0) = true := by rw [← hc5]; simpa using h5
  clear hc5
  have H1 : Hid (Prs.AgeAns born n a e) := h1
  have he0 : (e == 0) = false := by simpa using hen
  clear h1 hen
  clear hw h5
  go_enter Tryd.func4, Tryd.ntmps4
  go_wp2_with fail
  refine (pAge_any born n a e _ HW.out H1.out).mono ?_; rintro e w1 ⟨rfl, hb⟩
  have B1 : Hid (Below w.heap.size w w1) := hb
  clear hb
  go_wp2_with fail
  refine (pbegun_any _ (HW.out.below B1.out)).mono ?_; rintro e w2 ⟨rfl, hb⟩
  have B2 : Hid (Below w.heap.size w w2) := below_next B1.out (Nat.le_refl _) hb
  clear hb
  go_wp2_with fail
  refine (pTurns_at born age 0 c5 _ (HW.out.below B2.out) H5.out.1 H5.out.2).mono ?_; rintro e w3 ⟨rfl, hb⟩
  have B3 : Hid (Below w.heap.size w w3) := below_next B2.out (Nat.le_refl _) hb
  clear hb
  go_wp2
  go_ret
  exact ⟨rfl, B3.out⟩
set_option maxRecDepth 100000 in
set_option maxHeartbeats 4000000 in
theorem atw_Dz (born n age : Int) (w : World) (hw : Laid w) (a e : Int) (h1 : Prs.AgeAns born n a e) (hn : n ≤ born) (h0 : e = 0) (h5 : Prs.turnsE born age = 0) :
    Calls Tryd.prog 4 #[.int .i64 born, .int .i64 n, .int .i64 age] w fun e w' => e = .returned (.bool true) ∧ Below w.heap.size w w' := by
  have HW : Hid (Laid w) := hw
  obtain ⟨v, hv5⟩ : ∃ v, Prs.turnsV born age = v := ⟨_, rfl⟩
  have H5 : Hid (Prs.turnsV born age = v ∧ Prs.turnsE born age = 0) := ⟨hv5, h5⟩
  have H6 : Hid (Prs.AgeAns born v age 0) := Prs.at_two hv5 h5
  clear hv5
  subst h0
  have H1 : Hid (Prs.AgeAns born n a 0) := h1
  clear h1
  clear hw h5
  go_enter Tryd.func4, Tryd.ntmps4
  go_wp2_with fail
  refine (pAge_any born n a 0 _ HW.out H1.out).mono ?_; rintro e w1 ⟨rfl, hb⟩
  have B1 : Hid (Below w.heap.size w w1) := hb
  clear hb
  go_wp2_with fail
  refine (pbegun_any _ (HW.out.below B1.out)).mono ?_; rintro e w2 ⟨rfl, hb⟩
  have B2 : Hid (Below w.heap.size w w2) := below_next B1.out (Nat.le_refl _) hb
  clear hb
  go_wp2_with fail
  refine (pTurns_at born age v 0 _ (HW.out.below B2.out) H5.out.1 H5.out.2).mono ?_; rintro e w3 ⟨rfl, hb⟩
  have B3 : Hid (Below w.heap.size w w3) := below_next B2.out (Nat.le_refl _) hb
  clear hb
  go_wp2_with fail
  refine (pAge_any born v age 0 _ (HW.out.below B3.out) H6.out).mono ?_; rintro e w4 ⟨rfl, hb⟩
  have B4 : Hid (Below w.heap.size w w4) := below_next B3.out (Nat.le_refl _) hb
  clear hb
  go_wp2
  go_ret
  exact ⟨rfl, B4.out⟩
set_option maxRecDepth 100000 in
set_option maxHeartbeats 4000000 in
theorem atw_Dn (born n age : Int) (w : World) (hw : Laid w) (a e : Int) (h1 : Prs.AgeAns born n a e) (hn : n ≤ born) (h0 : e = 0) (h5 : Prs.turnsE born age ≠ 0) :
    Calls Tryd.prog 4 #[.int .i64 born, .int .i64 n, .int .i64 age] w fun e w' => e = .returned (.bool true) ∧ Below w.heap.size w w' := by
  have HW : Hid (Laid w) := hw
  obtain ⟨c5, hc5⟩ : ∃ v, Prs.turnsE born age = v := ⟨_, rfl⟩
  have H5 : Hid (Prs.turnsV born age = 0 ∧ Prs.turnsE born age = c5) := ⟨Prs.at_three h5, hc5⟩
  have hc6 : (c5 != 0) = true := by rw [← hc5]; simpa using h5
  clear hc5
  subst h0
  have H1 : Hid (Prs.AgeAns born n a 0) := h1
  clear h1
  clear hw h5
  go_enter Tryd.func4, Tryd.ntmps4
  go_wp2_with fail
  refine (pAge_any born n a 0 _ HW.out H1.out).mono ?_; rintro e w1 ⟨rfl, hb⟩
  have B1 : Hid (Below w.heap.size w w1) := hb
  clear hb
  go_wp2_with fail
  refine (pbegun_any _ (HW.out.below B1.out)).mono ?_; rintro e w2 ⟨rfl, hb⟩
  have B2 : Hid (Below w.heap.size w w2) := below_next B1.out (Nat.le_refl _) hb
  clear hb
  go_wp2_with fail
  refine (pTurns_at born age 0 c5 _ (HW.out.below B2.out) H5.out.1 H5.out.2).mono ?_; rintro e w3 ⟨rfl, hb⟩
  have B3 : Hid (Below w.heap.size w w3) := below_next B2.out (Nat.le_refl _) hb
  clear hb
  go_wp2
  go_ret
  exact ⟨rfl, B3.out⟩
theorem ageTurns_any (born n age : Int) (w : World) (hw : Laid w) :
    Calls Tryd.prog 4 #[.int .i64 born, .int .i64 n, .int .i64 age] w fun e w' => e = .returned (.bool true) ∧ Below w.heap.size w w' := by
  obtain ⟨a, e, h1⟩ := Prs.age_ex born n
  obtain ⟨b, f, h2⟩ := Prs.age_ex born (n - 1)
  by_cases h5 : Prs.turnsE born age = 0
  all_goals
    by_cases he : e = 0
    · by_cases hn : born < n
      · subst he
        obtain ⟨rfl, h3, ⟨h4, h6⟩ | ⟨rfl, h6⟩⟩ := Prs.at_one h1 hn h2
        · first | exact atw_Az born n age w hw a b h1 hn h2 h6 h3 h4 h5 | exact atw_An born n age w hw a b h1 hn h2 h6 h3 h4 h5
        · first | exact atw_Bz born n age w hw a _ h1 hn h2 rfl h3 h6 h5 | exact atw_Bn born n age w hw a _ h1 hn h2 rfl h3 h6 h5
      · first | exact atw_Dz born n age w hw a e h1 (by omega) he h5 | exact atw_Dn born n age w hw a e h1 (by omega) he h5
    · first | exact atw_Cz born n age w hw a e h1 he h5 | exact atw_Cn born n age w hw a e h1 he h5
end Go.Proofs.YtfncfbbkkpdhkaaDoor
