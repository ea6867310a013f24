/- The walk of TermDay: it answers true, whatever it is handed. -/
import Derived.Test.YthojffiajlpneaaDoorLawTerm5
namespace Go.Proofs.YthojffiajlpneaaDoor
open Go.RowKit Go.BigFrame

namespace Trm
/-- a month's term begins in the month that is so many behind, at the start's day or at the month's last one -/
theorem nth_month (s n k a : Int) (h : NthIs s 3 n k a 0) : 1 ≤ n ∧ n ≤ 120 ∧ 0 ≤ k ∧ k ≤ 1000 ∧ ∃ y m d Y M D, Cal.vld y m d ∧ Cal.num y m d = s ∧ Cal.vld Y M D ∧ Cal.num Y M D = a ∧ 12 * Y + M = 12 * y + m + n * k ∧ (D = d ∨ (D < d ∧ D = Cal.mlen Y M)) := by
  rcases h with ⟨_, g, _⟩ | ⟨y, m, d, h1, h2, h3, h4, h5, h6, h7, h8, h9, h10⟩
  · exact absurd rfl g
  refine ⟨h5, h6, h7, h8, y, m, d, ?_⟩
  have hq := mul_in k n h7 (by omega) h5 h6
  have hne : a ≠ 0 := by intro e; rw [e] at h10; exact absurd h10 (by decide)
  have e : day y m d 3 n k = mon y m d (k * n) := by unfold day; rw [if_neg (by decide), if_neg (by decide), if_pos rfl]
  rw [e] at h9
  have hY : ¬ 9999 < y + (m - 1 + k * n) / 12 := by
    intro c; apply hne; rw [← h9]; unfold mon; rw [if_pos c]
  have v := vld_mon y m d (k * n) h1 hq.1 (by omega)
  have e2 : mon y m d (k * n) = Cal.num (y + (m - 1 + k * n) / 12) ((m - 1 + k * n) % 12 + 1) (min d (Cal.mlen (y + (m - 1 + k * n) / 12) ((m - 1 + k * n) % 12 + 1))) := by unfold mon; rw [if_neg hY]
  refine ⟨_, _, _, h1, h2, v, e2.symm.trans h9, ?_, ?_⟩
  · rw [Int.mul_comm n k]; omega
  · omega
end Trm
set_option maxHeartbeats 2000000 in
theorem termDay_any (s n k : Int) (w : World) (hw : Laid w) :
    Calls Tryd.prog 6 #[.int .i64 s, .int .i64 n, .int .i64 k] w fun e w' => e = .returned (.bool true) ∧ Below w.heap.size w w' := by
  obtain ⟨a, c, h1⟩ := Trm.nth_ex s 3 n k
  have H1 : Hid (Trm.NthIs s 3 n k a c) := h1
  have HW : Hid (Laid w) := hw
  by_cases hc : c = 0
  · subst hc
    obtain ⟨n1, n2, k1, k2, y, m, d, Y, M, D, v1, v2, v3, v4, v5, v6⟩ := Trm.nth_month s n k a h1
    have hq := Trm.mul_in k n k1 (by omega) n1 n2
    rw [Int.mul_comm k n] at hq
    have V1 : Hid (Cal.vld y m d ∧ Cal.num y m d = s) := ⟨v1, v2⟩
    have V3 : Hid (Cal.vld Y M D ∧ Cal.num Y M D = a) := ⟨v3, v4⟩
    obtain ⟨y1, y2, y3, y4, y5, y6⟩ := v1
    obtain ⟨z1, z2, z3, z4, z5, z6⟩ := v3
    have m1 := Cal.mlen_bd y m
    have m2 := Cal.mlen_bd Y M
    have y7 : d ≤ 31 := by omega
    have hE : (12 * Y + M == 12 * y + m + n * k) = true := by simpa using v5
    clear v2 v4 v5 h1 hw y6 z6 m1 m2
    rcases v6 with rfl | ⟨v6, v7⟩
    · go_enter Tryd.func6, Tryd.ntmps6
      go_wp2_with fail
      refine (mkMonths_any _ _).mono ?_; rintro e w1 ⟨rfl, b1⟩
      have B1 : Hid (Below w.heap.size w w1) := b1
      clear b1
      go_wp2_with fail
      refine (nth_is _ _ _ _ _ _ _ (HW.out.below B1.out) H1.out).mono ?_; rintro e w2 ⟨rfl, b2⟩
      have B2 : Hid (Below w.heap.size w w2) := below_next B1.out (Nat.le_refl _) b2
      clear b2 B1
      go_wp2_with fail
      refine (tbegun_any _ (HW.out.below B2.out)).mono ?_; rintro e w3 ⟨rfl, b3⟩
      have B3 : Hid (Below w.heap.size w w3) := below_next B2.out (Nat.le_refl _) b3
      clear b3 B2
      go_wp2_with fail
      refine (of_at s y m D _ (HW.out.below B3.out) V1.out.1 V1.out.2).mono ?_; rintro e w4 ⟨rfl, b4⟩
      have B4 : Hid (Below w.heap.size w (w4.alloc (.cells #[.int .i64 y, .int .i64 m, .int .i64 D] 38))) := below_next (below_next B3.out (Nat.le_refl _) b4) (Nat.le_refl _) (below_box _ _)
      have X4 : Hid (Has3 (w4.alloc (.cells #[.int .i64 y, .int .i64 m, .int .i64 D] 38)) w4.heap.size y m D) := Has3.new _ _ _ _ _
      clear b4 B3
      go_wp2_with fail
      refine (of_at a Y M D _ (HW.out.below B4.out) V3.out.1 V3.out.2).mono ?_; rintro e w5 ⟨rfl, b5⟩
      have B5 : Hid (Below w.heap.size w (w5.alloc (.cells #[.int .i64 Y, .int .i64 M, .int .i64 D] 38))) := below_next (below_next B4.out (Nat.le_refl _) b5) (Nat.le_refl _) (below_box _ _)
      have X5 := (Has3.below X4.out b5).alloc (.cells #[.int .i64 Y, .int .i64 M, .int .i64 D] 38)
      obtain ⟨-, x0, x1, x2⟩ := X5
      clear b5 B4 X4
      go_wp2_with fail
      go_quiet (fail)
      go_wp2_with fail
      go_ret
      exact ⟨rfl, below_drewN B5.out _⟩
    · have e1 : (D == d) = false := by simp; omega
      have V7 : Hid (D = Cal.mlen Y M) := v7
      clear v7
      go_enter Tryd.func6, Tryd.ntmps6
      go_wp2_with fail
      refine (mkMonths_any _ _).mono ?_; rintro e w1 ⟨rfl, b1⟩
      have B1 : Hid (Below w.heap.size w w1) := b1
      clear b1
      go_wp2_with fail
      refine (nth_is _ _ _ _ _ _ _ (HW.out.below B1.out) H1.out).mono ?_; rintro e w2 ⟨rfl, b2⟩
      have B2 : Hid (Below w.heap.size w w2) := below_next B1.out (Nat.le_refl _) b2
      clear b2 B1
      go_wp2_with fail
      refine (tbegun_any _ (HW.out.below B2.out)).mono ?_; rintro e w3 ⟨rfl, b3⟩
      have B3 : Hid (Below w.heap.size w w3) := below_next B2.out (Nat.le_refl _) b3
      clear b3 B2
      go_wp2_with fail
      refine (of_at s y m d _ (HW.out.below B3.out) V1.out.1 V1.out.2).mono ?_; rintro e w4 ⟨rfl, b4⟩
      have B4 : Hid (Below w.heap.size w (w4.alloc (.cells #[.int .i64 y, .int .i64 m, .int .i64 d] 38))) := below_next (below_next B3.out (Nat.le_refl _) b4) (Nat.le_refl _) (below_box _ _)
      have X4 : Hid (Has3 (w4.alloc (.cells #[.int .i64 y, .int .i64 m, .int .i64 d] 38)) w4.heap.size y m d) := Has3.new _ _ _ _ _
      clear b4 B3
      go_wp2_with fail
      refine (of_at a Y M D _ (HW.out.below B4.out) V3.out.1 V3.out.2).mono ?_; rintro e w5 ⟨rfl, b5⟩
      have B5 : Hid (Below w.heap.size w (w5.alloc (.cells #[.int .i64 Y, .int .i64 M, .int .i64 D] 38))) := below_next (below_next B4.out (Nat.le_refl _) b5) (Nat.le_refl _) (below_box _ _)
      have X5 := (Has3.below X4.out b5).alloc (.cells #[.int .i64 Y, .int .i64 M, .int .i64 D] 38)
      obtain ⟨-, x0, x1, x2⟩ := X5
      clear b5 B4 X4
      go_wp2_with fail
      go_quiet ((go_at_call 20; exact Calls.quiet_of_same (monthDays_ok _ _ _ (by omega) (by omega) (by omega) (by omega))))
      go_wp2_with fail
      go_ret
      exact ⟨ret_bool (by rw [← V7.out]; simp), below_drewN B5.out _⟩
  · have hz := Trm.nth_err s 3 n k a c h1 hc
    have hc1 : (c != 0) = true := by simpa using hc
    subst hz
    clear h1 hc hw
    go_enter Tryd.func6, Tryd.ntmps6
    go_wp2_with fail
    refine (mkMonths_any _ _).mono ?_; rintro e w1 ⟨rfl, b1⟩
    have B1 : Hid (Below w.heap.size w w1) := b1
    clear b1
    go_wp2_with fail
    refine (nth_is _ _ _ _ _ _ _ (HW.out.below B1.out) H1.out).mono ?_; rintro e w2 ⟨rfl, b2⟩
    have B2 : Hid (Below w.heap.size w w2) := below_next B1.out (Nat.le_refl _) b2
    clear b2 B1
    go_wp2_with fail
    refine (tbegun_any _ (HW.out.below B2.out)).mono ?_; rintro e w3 ⟨rfl, b3⟩
    have B3 : Hid (Below w.heap.size w w3) := below_next B2.out (Nat.le_refl _) b3
    clear b3 B2
    go_wp2_with fail
    go_ret
    exact ⟨rfl, B3.out⟩
end Go.Proofs.YthojffiajlpneaaDoor
