/- The walk of PenceRises: it answers true, whatever it is handed. -/
import Derived.Test.YtmlkfjgbomoneaaPBegun
namespace Go.Proofs.Ytmlkfjgbomoneaa
open Go.RowKit

set_option maxHeartbeats 1000000 in
theorem penceRises_any (a b num d way : Int) (w : World) :
    Calls Try.prog 5 #[.int .i64 a, .int .i64 b, .int .i64 num, .int .i64 d, .int .i64 way] w fun e w' => e = .returned (.bool true) ∧ Below w.heap.size w w' := by
  obtain ⟨y, f, hy, hf⟩ : ∃ y f, Pen.part b num d way = y ∧ Pen.partE b num d way = f := ⟨_, _, rfl, rfl⟩
  have HY : Hid (Pen.part b num d way = y) := hy
  have HF : Hid (Pen.partE b num d way = f) := hf
  by_cases h : Pen.partE a num d way = 0
  · obtain ⟨ha, hw1, hw2, h1, h2, h3, h4⟩ := Pen.ok_of a num d way h
    obtain ⟨g1, g2⟩ := Pen.part_neg a num d way h
    obtain ⟨x, hx⟩ : ∃ x, Pen.part a num d way = x := ⟨_, rfl⟩
    have e2 := (Pen.ok_raw a num d way h).2
    rw [← (Pen.ok_raw a num d way h).1] at e2
    have hxb := Pen.amt_yes _ e2
    have hab := Pen.amt_yes _ ha
    rw [hx] at hxb g2
    have HX : Hid (Pen.part a num d way = x) := hx
    have HE : Hid (Pen.partE a num d way = 0) := h
    have G1 : Hid (Pen.partE (-a) num d way = 0) := g1
    have G2 : Hid (Pen.part (-a) num d way = -x) := g2
    have hle : f = 0 → a ≤ b → x ≤ y := fun c1 c2 => by
      have := Pen.part_mono a b num d way h (hf.trans c1) c2
      omega
    clear h e2 ha hx g1 g2 hy hf h1 h2 h3 h4 hw1 hw2
    by_cases hf0 : f = 0
    · subst hf0
      replace hle := hle rfl
      by_cases hab2 : a ≤ b
      · replace hle := hle hab2
        have hab3 : decide (b < a) = false := by simp; omega
        go_enter Try.func5, Try.ntmps5
        go_wp2_with fail
        refine (pPart_at _ _ _ _ x 0 _ HX.out HE.out).mono ?_; rintro e w1 ⟨rfl, b1⟩
        go_wp2_with fail
        refine (pPart_at _ _ _ _ y 0 _ HY.out HF.out).mono ?_; rintro e w2 ⟨rfl, b2⟩
        have B2 := below_on b1 (Nat.le_refl _) b2
        clear b1 b2
        go_wp2_with fail
        refine (pbegun_any _).mono ?_; rintro e w3 ⟨rfl, b3⟩
        have B3 := below_on B2 (Nat.le_refl _) b3
        clear B2 b3
        go_wp2_with fail
        refine (pPart_at _ _ _ _ (-x) 0 _ G2.out G1.out).mono ?_; rintro e w4 ⟨rfl, b4⟩
        have B4 := below_on B3 (Nat.le_refl _) b4
        clear B3 b4
        go_wp2
        go_ret
        exact ⟨rfl, B4⟩
      · clear hle
        have hab3 : decide (b < a) = true := by simp; omega
        go_enter Try.func5, Try.ntmps5
        go_wp2_with fail
        refine (pPart_at _ _ _ _ x 0 _ HX.out HE.out).mono ?_; rintro e w1 ⟨rfl, b1⟩
        go_wp2_with fail
        refine (pPart_at _ _ _ _ y 0 _ HY.out HF.out).mono ?_; rintro e w2 ⟨rfl, b2⟩
        have B2 := below_on b1 (Nat.le_refl _) b2
        clear b1 b2
        go_wp2_with fail
        refine (pbegun_any _).mono ?_; rintro e w3 ⟨rfl, b3⟩
        have B3 := below_on B2 (Nat.le_refl _) b3
        clear B2 b3
        go_wp2_with fail
        refine (pPart_at _ _ _ _ (-x) 0 _ G2.out G1.out).mono ?_; rintro e w4 ⟨rfl, b4⟩
        have B4 := below_on B3 (Nat.le_refl _) b4
        clear B3 b4
        go_wp2
        go_ret
        exact ⟨rfl, B4⟩
    · clear hle
      have hf1 : (f != 0) = true := by simpa using hf0
      go_enter Try.func5, Try.ntmps5
      go_wp2_with fail
      refine (pPart_at _ _ _ _ x 0 _ HX.out HE.out).mono ?_; rintro e w1 ⟨rfl, b1⟩
      go_wp2_with fail
      refine (pPart_at _ _ _ _ y f _ HY.out HF.out).mono ?_; rintro e w2 ⟨rfl, b2⟩
      have B2 := below_on b1 (Nat.le_refl _) b2
      clear b1 b2
      go_wp2_with fail
      refine (pbegun_any _).mono ?_; rintro e w3 ⟨rfl, b3⟩
      have B3 := below_on B2 (Nat.le_refl _) b3
      clear B2 b3
      go_wp2_with fail
      refine (pPart_at _ _ _ _ (-x) 0 _ G2.out G1.out).mono ?_; rintro e w4 ⟨rfl, b4⟩
      have B4 := below_on B3 (Nat.le_refl _) b4
      clear B3 b4
      go_wp2
      go_ret
      exact ⟨rfl, B4⟩
  · have hz := Pen.err_zero a num d way h
    obtain ⟨E, hE⟩ : ∃ E, Pen.partE a num d way = E := ⟨_, rfl⟩
    rw [hE] at h
    have he : (E != 0) = true := by simpa using h
    have HZ : Hid (Pen.part a num d way = 0) := hz
    have HQ : Hid (Pen.partE a num d way = E) := hE
    clear hz h hE hy hf
    go_enter Try.func5, Try.ntmps5
    go_wp2_with fail
    refine (pPart_at _ _ _ _ 0 E _ HZ.out HQ.out).mono ?_; rintro e w1 ⟨rfl, b1⟩
    go_wp2_with fail
    refine (pPart_at _ _ _ _ y f _ HY.out HF.out).mono ?_; rintro e w2 ⟨rfl, b2⟩
    have B2 := below_on b1 (Nat.le_refl _) b2
    clear b1 b2
    go_wp2_with fail
    refine (pbegun_any _).mono ?_; rintro e w3 ⟨rfl, b3⟩
    have B3 := below_on B2 (Nat.le_refl _) b3
    clear B2 b3
    go_wp2
    go_ret
    exact ⟨rfl, B3⟩
end Go.Proofs.Ytmlkfjgbomoneaa
