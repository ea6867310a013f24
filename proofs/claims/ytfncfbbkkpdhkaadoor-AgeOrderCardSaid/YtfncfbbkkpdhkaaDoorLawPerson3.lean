/- The walk of AgeOrder. -/
import Derived.Test.YtfncfbbkkpdhkaaDoorPnBeg
namespace Go.Proofs.YtfncfbbkkpdhkaaDoor
open Go.RowKit Go.BigFrame

namespace Prs
theorem ans_order {a n x b m y : Int} (h : AgeAns a n x 0) (h' : AgeAns b m y 0) (hb : b ≤ a) (hn : n ≤ m) : x ≤ y := by
  rcases h with h | h | ⟨_, _, _, y1, m1, d1, p, v, e, ha, h⟩
  · exact absurd h.2.2 (by decide)
  · exact absurd h.2.2.2.2 (by decide)
  rcases h' with h' | h' | ⟨_, _, _, y2, m2, d2, q, v', e', ha', h'⟩
  · exact absurd h'.2.2 (by decide)
  · exact absurd h'.2.2.2.2 (by decide)
  have := age_order v v' (by omega) hn ha ha'
  omega
end Prs
set_option maxRecDepth 100000 in
set_option maxHeartbeats 4000000 in
theorem ageOrder_any (a b n m : Int) (w : World) (hw : Laid w) :
    Calls Tryd.prog 5 #[.int .i64 a, .int .i64 b, .int .i64 n, .int .i64 m] w fun e w' => e = .returned (.bool true) ∧ Below w.heap.size w w' := by
  obtain ⟨x, e, hx⟩ := Prs.age_ex a n
  obtain ⟨y, f, hy⟩ := Prs.age_ex b m
  have HX : Hid (Prs.AgeAns a n x e) := hx
  have HY : Hid (Prs.AgeAns b m y f) := hy
  have HW : Hid (Laid w) := hw
  have hc : e ≠ 0 ∨ (e = 0 ∧ f ≠ 0) ∨ (e = 0 ∧ f = 0 ∧ a < b) ∨ (e = 0 ∧ f = 0 ∧ b ≤ a ∧ m < n) ∨ (e = 0 ∧ f = 0 ∧ b ≤ a ∧ n ≤ m ∧ x ≤ y) := by
    by_cases h1 : e = 0
    · by_cases h2 : f = 0
      · by_cases h3 : a < b
        · exact .inr (.inr (.inl ⟨h1, h2, h3⟩))
        · by_cases h4 : m < n
          · exact .inr (.inr (.inr (.inl ⟨h1, h2, by omega, h4⟩)))
          · subst h1 h2
            exact .inr (.inr (.inr (.inr ⟨rfl, rfl, by omega, by omega, Prs.ans_order hx hy (by omega) (by omega)⟩)))
      · exact .inr (.inl ⟨h1, h2⟩)
    · exact .inl h1
  clear hx hy hw
  rcases hc with h1 | ⟨rfl, h2⟩ | ⟨rfl, rfl, h3⟩ | ⟨rfl, rfl, h3, h4⟩ | ⟨rfl, rfl, h3, h4, h5⟩
  all_goals
    try (have h1' : (e != 0) = true := by simpa using h1)
    try (have h2' : (f != 0) = true := by simpa using h2)
    go_enter Tryd.func5, Tryd.ntmps5
    go_wp2_with fail
    refine (pAge_any _ _ _ _ _ HW.out HX.out).mono ?_; rintro e w1 ⟨rfl, b1⟩
    have B1 : Hid (Below w.heap.size w w1) := b1
    clear b1
    go_wp2_with fail
    refine (pAge_any _ _ _ _ _ (HW.out.below B1.out) HY.out).mono ?_; rintro e w2 ⟨rfl, b2⟩
    have B2 : Hid (Below w.heap.size w w2) := below_next B1.out (Nat.le_refl _) b2
    clear b2
    go_wp2_with fail
    refine (pbegun_any _ (HW.out.below B2.out)).mono ?_; rintro e w3 ⟨rfl, b3⟩
    have B3 : Hid (Below w.heap.size w w3) := below_next B2.out (Nat.le_refl _) b3
    clear b3
    go_wp2
    all_goals
      go_ret
      exact ⟨rfl, B3.out⟩
end Go.Proofs.YtfncfbbkkpdhkaaDoor
