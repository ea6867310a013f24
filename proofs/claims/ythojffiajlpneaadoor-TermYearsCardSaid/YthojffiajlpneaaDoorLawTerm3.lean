/- The walk of TermYears: it answers true, whatever it is handed. -/
import Derived.Test.YthojffiajlpneaaDoorTLaw
namespace Go.Proofs.YthojffiajlpneaaDoor
open Go.RowKit Go.BigFrame

namespace Trm
theorem bad_alike (u u' n n' s k M : Int) (h : chk u n = 0) (h' : chk u' n' = 0) : bad u n s k M = bad u' n' s k M := by
  unfold bad; rw [if_pos h, if_pos h']
theorem nth_years (s n k x c : Int) (n1 : 1 ≤ n) (n2 : n ≤ 10) (h : NthIs s 4 n k x c) : NthIs s 3 (12 * n) k x c := by
  have e1 := chk_ok 4 n (by omega) (by omega) n1 (by omega)
  have e2 := chk_ok 3 (12 * n) (by omega) (by omega) (by omega) (by omega)
  rcases h with ⟨h1, h2, h3⟩ | ⟨y, m, d, h1, h2, h3, h4, h5, h6, h7, h8, h9, h10⟩
  · exact .inl ⟨(bad_alike _ _ _ _ _ _ _ e1 e2).symm.trans h1, h2, h3⟩
  · refine .inr ⟨y, m, d, h1, h2, by omega, by omega, by omega, by omega, h7, h8, ?_, h10⟩
    rw [← h9]; unfold day
    rw [if_neg (by decide), if_neg (by decide), if_pos rfl, if_neg (by decide), if_neg (by decide), if_neg (by decide), Int.mul_comm 12 n, Int.mul_assoc]
theorem nth_weeks (s n k x c : Int) (n1 : 1 ≤ n) (n2 : n ≤ 10) (h : NthIs s 2 n k x c) : NthIs s 1 (7 * n) k x c := by
  have e1 := chk_ok 2 n (by omega) (by omega) n1 (by omega)
  have e2 := chk_ok 1 (7 * n) (by omega) (by omega) (by omega) (by omega)
  rcases h with ⟨h1, h2, h3⟩ | ⟨y, m, d, h1, h2, h3, h4, h5, h6, h7, h8, h9, h10⟩
  · exact .inl ⟨(bad_alike _ _ _ _ _ _ _ e1 e2).symm.trans h1, h2, h3⟩
  · refine .inr ⟨y, m, d, h1, h2, by omega, by omega, by omega, by omega, h7, h8, ?_, h10⟩
    rw [← h9]; unfold day
    rw [if_pos rfl, if_neg (by decide), if_pos rfl, Int.mul_comm 7 n, Int.mul_assoc]
theorem nth_adds (s n k j C x c : Int) (h : NthIs s 2 n k C 0) (hj : 0 ≤ j) (hj2 : j ≤ 1000 - k) (h' : NthIs C 2 n j x c) : 0 ≤ k ∧ k ≤ 1000 ∧ NthIs s 2 n (k + j) x c := by
  rcases h with ⟨_, g, _⟩ | ⟨y, m, d, h1, h2, h3, h4, h5, h6, h7, h8, h9, h10⟩
  · exact absurd rfl g
  · have hC : day y m d 2 n k ≠ 0 := by
      rw [h9]; intro e; rw [e] at h10; exact absurd h10 (by decide)
    have hin := day_in y m d 2 n k h1 h7 h5
    have e1 : day y m d 2 n k = s + k * n * 7 := by
      unfold day at hC ⊢
      rw [if_neg (by decide), if_pos rfl, h2] at hC ⊢
      unfold days at hC ⊢
      split
      · rename_i g; rw [if_pos g] at hC; exact absurd rfl hC
      · rfl
    refine ⟨h7, h8, .inr ⟨y, m, d, h1, h2, h3, h4, h5, h6, by omega, by omega, ?_⟩⟩
    rcases h' with ⟨g1, g2, _⟩ | ⟨y', m', d', g1, g2, g3, g4, g5, g6, g7, g8, g9, g10⟩
    · exfalso
      apply g2
      rw [← g1]; unfold bad
      rw [if_pos (chk_ok 2 n h3 h4 h5 h6), if_neg (by omega)]
    · refine ⟨?_, g10⟩
      rw [← g9]; unfold day
      rw [if_neg (by decide), if_pos rfl, if_neg (by decide), if_pos rfl, h2, g2]
      have e2 : (k + j) * n * 7 = k * n * 7 + j * n * 7 := by rw [Int.add_mul, Int.add_mul]
      have e3 : C = s + k * n * 7 := by rw [← e1, h9]
      rw [e2, e3]; unfold days
      rw [Int.add_assoc]
end Trm
set_option maxHeartbeats 1000000 in
theorem termYears_out (s n k j : Int) (w : World) (hw : Laid w) (h : n < 1 ∨ 10 < n) :
    Calls Tryd.prog 5 #[.int .i64 s, .int .i64 n, .int .i64 k, .int .i64 j] w fun e w' => e = .returned (.bool true) ∧ Below w.heap.size w w' := by
  have HW : Hid (Laid w) := hw
  clear hw
  by_cases h1 : n < 1
  · clear h
    go_enter Tryd.func5, Tryd.ntmps5
    go_wp2_with fail
    refine (tbegun_any _ HW.out).mono ?_; rintro e w1 ⟨rfl, b1⟩
    go_wp2_with fail
    go_ret
    exact ⟨rfl, b1⟩
  · have h2 : 10 < n := by omega
    have h1' : decide (n < 1) = false := by simpa using h1
    clear h
    go_enter Tryd.func5, Tryd.ntmps5
    go_wp2_with fail
    refine (tbegun_any _ HW.out).mono ?_; rintro e w1 ⟨rfl, b1⟩
    go_wp2_with fail
    go_ret
    exact ⟨rfl, b1⟩
set_option maxHeartbeats 1000000 in
theorem termYears_any (s n k j : Int) (w : World) (hw : Laid w) :
    Calls Tryd.prog 5 #[.int .i64 s, .int .i64 n, .int .i64 k, .int .i64 j] w fun e w' => e = .returned (.bool true) ∧ Below w.heap.size w w' := by
  by_cases hn : n < 1 ∨ 10 < n
  · exact termYears_out s n k j w hw hn
  have n1 : 1 ≤ n := by omega
  have n2 : n ≤ 10 := by omega
  obtain ⟨a, e0, h1⟩ := Trm.nth_ex s 4 n k
  obtain ⟨C, g, h2⟩ := Trm.nth_ex s 2 n k
  have H1 : Hid (_) := h1
  have H2 : Hid (_) := h2
  have H3 : Hid (_) := Trm.nth_years s n k a e0 n1 n2 h1
  have H4 : Hid (_) := Trm.nth_weeks s n k C g n1 n2 h2
  have HW : Hid (Laid w) := hw
  have q1 : decide (n < 1) = false := by simp; omega
  have q2 : decide (10 < n) = false := by simp; omega
  have cs : (g != 0) = true ∨ ((g != 0) = false ∧ decide (j < 0) = true) ∨ ((g != 0) = false ∧ decide (j < 0) = false ∧ 0 ≤ k ∧ k ≤ 1000 ∧ decide (1000 - k < j) = true) ∨
      (∃ x i, (g != 0) = false ∧ decide (j < 0) = false ∧ 0 ≤ k ∧ k ≤ 1000 ∧ 0 ≤ j ∧ j ≤ 1000 - k ∧ decide (1000 - k < j) = false ∧ Hid (Trm.NthIs C 2 n j x i ∧ Trm.NthIs s 2 n (k + j) x i)) := by
    by_cases g1 : g = 0
    · subst g1
      have hk : 0 ≤ k ∧ k ≤ 1000 := by
        rcases h2 with ⟨_, g, _⟩ | ⟨_, _, _, _, _, _, _, _, _, r1, r2, _, _⟩
        · exact absurd rfl g
        · exact ⟨r1, r2⟩
      by_cases g2 : j < 0
      · exact .inr (.inl ⟨rfl, by simpa using g2⟩)
      · by_cases g3 : 1000 - k < j
        · exact .inr (.inr (.inl ⟨rfl, by simpa using g2, hk.1, hk.2, by simpa using g3⟩))
        · obtain ⟨x, i, h5⟩ := Trm.nth_ex C 2 n j
          exact .inr (.inr (.inr ⟨x, i, rfl, by simpa using g2, hk.1, hk.2, by omega, by omega, by simpa using g3, h5, (Trm.nth_adds s n k j C x i h2 (by omega) (by omega) h5).2.2⟩))
    · exact .inl (by simpa using g1)
  clear h1 h2 hw hn
  rcases cs with g1 | ⟨g1, g2⟩ | ⟨g1, g2, hk1, hk2, g3⟩ | ⟨x, i, g1, g2, hk1, hk2, hj1, hj2, g3, HA⟩
  rotate_left 3
  · go_enter Tryd.func5, Tryd.ntmps5
    go_wp2_with fail
    refine (tbegun_any _ HW.out).mono ?_; rintro e w1 ⟨rfl, b1⟩
    have B1 : Hid (Below w.heap.size w w1) := b1
    clear b1
    go_wp2_with fail
    refine (nth_is _ _ _ _ _ _ _ (HW.out.below B1.out) H1.out).mono ?_; rintro e w2 ⟨rfl, b2⟩
    have B2 : Hid (Below w.heap.size w w2) := below_next B1.out (Nat.le_refl _) b2
    clear b2 B1
    go_wp2_with fail
    refine (mkMonths_any _ _).mono ?_; rintro e w3 ⟨rfl, b3⟩
    have B3 : Hid (Below w.heap.size w w3) := below_next B2.out (Nat.le_refl _) b3
    clear b3 B2
    go_wp2_with fail
    refine (nth_is _ _ _ _ _ _ _ (HW.out.below B3.out) H3.out).mono ?_; rintro e w4 ⟨rfl, b4⟩
    have B4 : Hid (Below w.heap.size w w4) := below_next B3.out (Nat.le_refl _) b4
    clear b4 B3
    go_wp2_with fail
    refine (nth_is _ _ _ _ _ _ _ (HW.out.below B4.out) H2.out).mono ?_; rintro e w5 ⟨rfl, b5⟩
    have B5 : Hid (Below w.heap.size w w5) := below_next B4.out (Nat.le_refl _) b5
    clear b5 B4
    go_wp2_with fail
    refine (nth_is _ _ _ _ _ _ _ (HW.out.below B5.out) H4.out).mono ?_; rintro e w6 ⟨rfl, b6⟩
    have B6 : Hid (Below w.heap.size w w6) := below_next B5.out (Nat.le_refl _) b6
    clear b6 B5
    go_wp2_with fail
    refine (nth_is _ _ _ _ _ _ _ (HW.out.below B6.out) HA.out.1).mono ?_; rintro e w7 ⟨rfl, b7⟩
    have B7 : Hid (Below w.heap.size w w7) := below_next B6.out (Nat.le_refl _) b7
    clear b7 B6
    go_wp2_with fail
    refine (nth_is _ _ _ _ _ _ _ (HW.out.below B7.out) HA.out.2).mono ?_; rintro e w8 ⟨rfl, b8⟩
    have B8 : Hid (Below w.heap.size w w8) := below_next B7.out (Nat.le_refl _) b8
    clear b8 B7
    go_wp2_with fail
    go_ret
    exact ⟨rfl, B8.out⟩
  all_goals
    go_enter Tryd.func5, Tryd.ntmps5
    go_wp2_with fail
    refine (tbegun_any _ HW.out).mono ?_; rintro e w1 ⟨rfl, b1⟩
    have B1 : Hid (Below w.heap.size w w1) := b1
    clear b1
    go_wp2_with fail
    refine (nth_is _ _ _ _ _ _ _ (HW.out.below B1.out) H1.out).mono ?_; rintro e w2 ⟨rfl, b2⟩
    have B2 : Hid (Below w.heap.size w w2) := below_next B1.out (Nat.le_refl _) b2
    clear b2 B1
    go_wp2_with fail
    refine (mkMonths_any _ _).mono ?_; rintro e w3 ⟨rfl, b3⟩
    have B3 : Hid (Below w.heap.size w w3) := below_next B2.out (Nat.le_refl _) b3
    clear b3 B2
    go_wp2_with fail
    refine (nth_is _ _ _ _ _ _ _ (HW.out.below B3.out) H3.out).mono ?_; rintro e w4 ⟨rfl, b4⟩
    have B4 : Hid (Below w.heap.size w w4) := below_next B3.out (Nat.le_refl _) b4
    clear b4 B3
    go_wp2_with fail
    refine (nth_is _ _ _ _ _ _ _ (HW.out.below B4.out) H2.out).mono ?_; rintro e w5 ⟨rfl, b5⟩
    have B5 : Hid (Below w.heap.size w w5) := below_next B4.out (Nat.le_refl _) b5
    clear b5 B4
    go_wp2_with fail
    refine (nth_is _ _ _ _ _ _ _ (HW.out.below B5.out) H4.out).mono ?_; rintro e w6 ⟨rfl, b6⟩
    have B6 : Hid (Below w.heap.size w w6) := below_next B5.out (Nat.le_refl _) b6
    clear b6 B5
    go_wp2_with fail
    go_ret
    exact ⟨rfl, B6.out⟩
end Go.Proofs.YthojffiajlpneaaDoor
