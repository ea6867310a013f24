/- The walk of TermRises: it answers true, whatever it is handed. -/
import Derived.Test.YthojffiajlpneaaDoorTLaw
namespace Go.Proofs.YthojffiajlpneaaDoor
open Go.RowKit Go.BigFrame

namespace Trm
theorem nth_rises (a b u n k j x y : Int) (h1 : NthIs a u n k x 0) (h2 : NthIs b u n j y 0) (hab : a ≤ b) (hkj : k ≤ j) : x ≤ y ∧ (k < j → x < y) := by
  rcases h1 with ⟨_, g, _⟩ | ⟨y1, m1, d1, a1, a2, a3, a4, a5, a6, a7, a8, a9, a10⟩
  · exact absurd rfl g
  · rcases h2 with ⟨_, g, _⟩ | ⟨y2, m2, d2, b1, b2, b3, b4, b5, b6, b7, b8, b9, b10⟩
    · exact absurd rfl g
    · have hne : day y2 m2 d2 u n j ≠ 0 := by
        rw [b9]; intro e; rw [e] at b10; exact absurd b10 (by decide)
      have := day_mono y1 m1 d1 y2 m2 d2 u n k j a1 b1 a5 a7 hkj (by omega) hne
      omega
end Trm
set_option maxHeartbeats 1000000 in
theorem termRises_any (a b u n k j : Int) (w : World) (hw : Laid w) :
    Calls Tryd.prog 4 #[.int .i64 a, .int .i64 b, .agg #[.int .i64 u, .int .i64 n], .int .i64 k, .int .i64 j] w fun e w' => e = .returned (.bool true) ∧ Below w.heap.size w w' := by
  obtain ⟨x, c, h1⟩ := Trm.nth_ex a u n k
  obtain ⟨y, f, h2⟩ := Trm.nth_ex b u n j
  have H1 : Hid (_) := h1
  have H2 : Hid (_) := h2
  have T0 : Hid (_) := TL.new (u := u) (n := n) hw
  have cases5 : (c != 0) = true ∨ ((c != 0) = false ∧ (f != 0) = true) ∨ ((c != 0) = false ∧ (f != 0) = false ∧ decide (b < a) = true) ∨ ((c != 0) = false ∧ (f != 0) = false ∧ decide (b < a) = false ∧ decide (j < k) = true) ∨
      ((c != 0) = false ∧ (f != 0) = false ∧ decide (b < a) = false ∧ decide (j < k) = false ∧ decide (x ≤ y) = true ∧ (((k == j) = true) ∨ ((k == j) = false ∧ decide (x < y) = true))) := by
    by_cases g1 : c = 0
    · by_cases g2 : f = 0
      · by_cases g3 : b < a
        · exact .inr (.inr (.inl ⟨by simpa using g1, by simpa using g2, by simpa using g3⟩))
        · by_cases g4 : j < k
          · exact .inr (.inr (.inr (.inl ⟨by simpa using g1, by simpa using g2, by simpa using g3, by simpa using g4⟩)))
          · subst g1 g2
            obtain ⟨m1, m2⟩ := Trm.nth_rises a b u n k j x y h1 h2 (by omega) (by omega)
            refine .inr (.inr (.inr (.inr ⟨rfl, rfl, by simpa using g3, by simpa using g4, by simpa using m1, ?_⟩)))
            by_cases g5 : k = j
            · exact .inl (by simpa using g5)
            · exact .inr ⟨by simpa using g5, by simpa using m2 (by omega)⟩
      · exact .inr (.inl ⟨by simpa using g1, by simpa using g2⟩)
    · exact .inl (by simpa using g1)
  clear h1 h2 hw
  rcases cases5 with g1 | ⟨g1, g2⟩ | ⟨g1, g2, g3⟩ | ⟨g1, g2, g3, g4⟩ | ⟨g1, g2, g3, g4, g5, g6⟩
  rotate_left 4
  · rcases g6 with g6 | ⟨g6, g7⟩
    all_goals
      go_enter Tryd.func4, Tryd.ntmps4
      go_wp2_with fail
      refine (nth_is _ _ _ _ _ _ _ T0.out.lay H1.out).mono ?_; rintro e w1 ⟨rfl, b1⟩
      have T1 : Hid (TL w u n w1) := T0.out.on b1
      obtain ⟨p0, p1⟩ := T1.out.cells
      clear b1
      go_wp2_with fail
      refine (nth_is _ _ _ _ _ _ _ T1.out.lay H2.out).mono ?_; rintro e w2 ⟨rfl, b2⟩
      have T2 : Hid (TL w u n w2) := T1.out.on b2
      clear b2 p0 p1
      go_wp2_with fail
      refine (tbegun_any _ T2.out.lay).mono ?_; rintro e w3 ⟨rfl, b3⟩
      have T3 : Hid (TL w u n w3) := T2.out.on b3
      clear b3
      go_wp2_with fail
      go_ret
      exact ⟨rfl, T3.out.fin⟩
  all_goals
    go_enter Tryd.func4, Tryd.ntmps4
    go_wp2_with fail
    refine (nth_is _ _ _ _ _ _ _ T0.out.lay H1.out).mono ?_; rintro e w1 ⟨rfl, b1⟩
    have T1 : Hid (TL w u n w1) := T0.out.on b1
    obtain ⟨p0, p1⟩ := T1.out.cells
    clear b1
    go_wp2_with fail
    refine (nth_is _ _ _ _ _ _ _ T1.out.lay H2.out).mono ?_; rintro e w2 ⟨rfl, b2⟩
    have T2 : Hid (TL w u n w2) := T1.out.on b2
    clear b2 p0 p1
    go_wp2_with fail
    refine (tbegun_any _ T2.out.lay).mono ?_; rintro e w3 ⟨rfl, b3⟩
    have T3 : Hid (TL w u n w3) := T2.out.on b3
    clear b3
    go_wp2_with fail
    go_ret
    exact ⟨rfl, T3.out.fin⟩
end Go.Proofs.YthojffiajlpneaaDoor
