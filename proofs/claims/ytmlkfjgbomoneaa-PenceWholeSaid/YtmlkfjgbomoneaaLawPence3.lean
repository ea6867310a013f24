/- The walk of PenceWhole: it answers true, whatever it is handed. -/
import Derived.Test.YtmlkfjgbomoneaaPBegun
namespace Go.Proofs.Ytmlkfjgbomoneaa
open Go.RowKit

set_option maxHeartbeats 1000000 in
theorem penceWhole_out (p num d a b k : Int) (w : World) (h : ¬ (-1000000 ≤ p ∧ p ≤ 1000000 ∧ -1000 ≤ k ∧ k ≤ 1000 ∧ 0 ≤ num ∧ num ≤ 1000 ∧ 1 ≤ d ∧ d ≤ 1000)) :
    Calls Try.prog 6 #[.int .i64 p, .int .i64 num, .int .i64 d, .int .i64 a, .int .i64 b, .int .i64 k] w fun e w' => e = .returned (.bool true) ∧ Below w.heap.size w w' := by
  by_cases g1 : p < -1000000
  · clear h
    go_enter Try.func6, Try.ntmps6
    go_wp2_with (go_at_call 12; refine (pbegun_any _).mono ?_; rintro e w2 ⟨rfl, b2⟩)
    go_ret
    exact ⟨rfl, b2⟩
  by_cases g2 : 1000000 < p
  · clear h
    go_enter Try.func6, Try.ntmps6
    go_wp2_with (go_at_call 12; refine (pbegun_any _).mono ?_; rintro e w2 ⟨rfl, b2⟩)
    go_ret
    exact ⟨rfl, b2⟩
  by_cases g3 : k < -1000
  · clear h
    go_enter Try.func6, Try.ntmps6
    go_wp2_with (go_at_call 12; refine (pbegun_any _).mono ?_; rintro e w2 ⟨rfl, b2⟩)
    go_ret
    exact ⟨rfl, b2⟩
  by_cases g4 : 1000 < k
  · clear h
    go_enter Try.func6, Try.ntmps6
    go_wp2_with (go_at_call 12; refine (pbegun_any _).mono ?_; rintro e w2 ⟨rfl, b2⟩)
    go_ret
    exact ⟨rfl, b2⟩
  by_cases g5 : num < 0
  · clear h
    go_enter Try.func6, Try.ntmps6
    go_wp2_with (go_at_call 12; refine (pbegun_any _).mono ?_; rintro e w2 ⟨rfl, b2⟩)
    go_ret
    exact ⟨rfl, b2⟩
  by_cases g6 : 1000 < num
  · clear h
    go_enter Try.func6, Try.ntmps6
    go_wp2_with (go_at_call 12; refine (pbegun_any _).mono ?_; rintro e w2 ⟨rfl, b2⟩)
    go_ret
    exact ⟨rfl, b2⟩
  by_cases g7 : d < 1
  · clear h
    go_enter Try.func6, Try.ntmps6
    go_wp2_with (go_at_call 12; refine (pbegun_any _).mono ?_; rintro e w2 ⟨rfl, b2⟩)
    go_ret
    exact ⟨rfl, b2⟩
  · have g8 : 1000 < d := by omega
    clear h
    go_enter Try.func6, Try.ntmps6
    go_wp2_with (go_at_call 12; refine (pbegun_any _).mono ?_; rintro e w2 ⟨rfl, b2⟩)
    go_ret
    exact ⟨rfl, b2⟩
set_option maxHeartbeats 4000000 in
/-- the walk inside, over letters: c1: the first two agree; c2: one more by whole parts; c3: all of it -/
theorem penceWhole_walk (p num d a b k PD KD PN KN x e y f v wn z i : Int) (w : World) (hp1 : -1000000 ≤ p) (hp2 : p ≤ 1000000) (hk1 : -1000 ≤ k) (hk2 : k ≤ 1000) (hn1 : 0 ≤ num) (hn2 : num ≤ 1000) (hd1 : 1 ≤ d) (hd2 : d ≤ 1000)
    (hPD : p * d = PD) (hKD : k * d = KD) (hPN : p * num = PN) (hKN : k * num = KN) (b1 : -1000000000 ≤ PD ∧ PD ≤ 1000000000) (b2 : -1000000 ≤ KD ∧ KD ≤ 1000000) (b3 : -1000000000 ≤ PN ∧ PN ≤ 1000000000) (b4 : -1000000 ≤ KN ∧ KN ≤ 1000000)
    (X : Hid (Pen.part PD num d a = x)) (E : Hid (Pen.partE PD num d a = e)) (Y : Hid (Pen.part PD num d b = y)) (F : Hid (Pen.partE PD num d b = f)) (V : Hid (Pen.part p num d 1 = v)) (V0 : Hid (Pen.partE p num d 1 = 0)) (W : Hid (Pen.part (p + KD) num d 1 = wn)) (W0 : Hid (Pen.partE (p + KD) num d 1 = 0))
    (Z : Hid (Pen.part p d d a = z)) (I : Hid (Pen.partE p d d a = i)) (hx : e = 0 → x = PN) (hy : f = 0 → y = PN) (hv : -2000000000 ≤ v ∧ v ≤ 2000000000) (hw : 0 ≤ p → 0 ≤ k → wn = v + KN) (hz : i = 0 → z = p) :
    Calls Try.prog 6 #[.int .i64 p, .int .i64 num, .int .i64 d, .int .i64 a, .int .i64 b, .int .i64 k] w fun e w' => e = .returned (.bool true) ∧ Below w.heap.size w w' := by
  have c1 : ((e == 0) = false) ∨ ((e == 0) = true ∧ (f == 0) = false) ∨ ((e == 0) = true ∧ (f == 0) = true ∧ (x != PN) = false ∧ (y != x) = false) := by
    by_cases h1 : e = 0
    · by_cases h2 : f = 0
      · refine .inr (.inr ⟨by simpa using h1, by simpa using h2, by simp [hx h1], by simp [hx h1, hy h2]⟩)
      · exact .inr (.inl ⟨by simpa using h1, by simpa using h2⟩)
    · exact .inl (by simpa using h1)
  have c2 : (decide (p < 0) = true) ∨ (decide (p < 0) = false ∧ decide (k < 0) = true) ∨ (decide (p < 0) = false ∧ decide (k < 0) = false ∧ (wn == v + KN) = true) := by
    by_cases h1 : p < 0
    · exact .inl (by simpa using h1)
    · by_cases h2 : k < 0
      · exact .inr (.inl ⟨by simpa using h1, by simpa using h2⟩)
      · exact .inr (.inr ⟨by simpa using h1, by simpa using h2, by simp [hw (by omega) (by omega)]⟩)
  have c3 : ((i != 0) = true) ∨ ((i != 0) = false ∧ (z == p) = true) := by
    by_cases h1 : i = 0
    · exact .inr ⟨by simpa using h1, by simp [hz h1]⟩
    · exact .inl (by simpa using h1)
  clear hx hy hw hz
  rcases c1 with h1 | ⟨h1, h2⟩ | ⟨h1, h2, h3, h4⟩
  all_goals
    rcases c2 with h5 | ⟨h5, h6⟩ | ⟨h5, h6, h7⟩
    all_goals
      rcases c3 with h8 | ⟨h8, h9⟩
      all_goals
        go_enter Try.func6, Try.ntmps6
        go_wp2_with fail
        refine (pbegun_any _).mono ?_; rintro _ w1 ⟨rfl, q1⟩
        go_wp2_with fail
        refine (pPart_at _ _ _ _ x e _ X.out E.out).mono ?_; rintro _ w2 ⟨rfl, q2⟩
        have B2 := below_on q1 (Nat.le_refl _) q2
        clear q1 q2
        go_wp2_with fail
        refine (pPart_at _ _ _ _ y f _ Y.out F.out).mono ?_; rintro _ w3 ⟨rfl, q3⟩
        have B3 := below_on B2 (Nat.le_refl _) q3
        clear B2 q3
        go_wp2_with fail
        refine (pPart_at _ _ _ _ v 0 _ V.out V0.out).mono ?_; rintro _ w4 ⟨rfl, q4⟩
        have B4 := below_on B3 (Nat.le_refl _) q4
        clear B3 q4
        go_wp2_with fail
        refine (pPart_at _ _ _ _ wn 0 _ W.out W0.out).mono ?_; rintro _ w5 ⟨rfl, q5⟩
        have B5 := below_on B4 (Nat.le_refl _) q5
        clear B4 q5
        go_wp2_with fail
        refine (pPart_at _ _ _ _ z i _ Z.out I.out).mono ?_; rintro _ w6 ⟨rfl, q6⟩
        have B6 := below_on B5 (Nat.le_refl _) q6
        clear B5 q6
        go_wp2
        go_ret
        exact ⟨rfl, B6⟩
theorem penceWhole_any (p num d a b k : Int) (w : World) :
    Calls Try.prog 6 #[.int .i64 p, .int .i64 num, .int .i64 d, .int .i64 a, .int .i64 b, .int .i64 k] w fun e w' => e = .returned (.bool true) ∧ Below w.heap.size w w' := by
  by_cases h : -1000000 ≤ p ∧ p ≤ 1000000 ∧ -1000 ≤ k ∧ k ≤ 1000 ∧ 0 ≤ num ∧ num ≤ 1000 ∧ 1 ≤ d ∧ d ≤ 1000
  · obtain ⟨p1, p2, k1, k2, n1, n2, d1, d2⟩ := h
    have q1 := Pen.mul_bd2 p d 1000000 1000 p1 p2 (by omega) d2
    have q2 := Pen.mul_bd2 k d 1000 1000 k1 k2 (by omega) d2
    have q3 := Pen.mul_bd2 p num 1000000 1000 p1 p2 n1 n2
    have q4 := Pen.mul_bd2 k num 1000 1000 k1 k2 n1 n2
    have q5 := Pen.mul_bd2 (p + k * d) num 2000000 1000 (by omega) (by omega) n1 n2
    have r1 := Pen.raw_bd p num d 1 1000000000 d1 n1 (by omega) (by omega)
    have r2 := Pen.raw_bd (p + k * d) num d 1 2000000000 d1 n1 (by omega) (by omega)
    obtain ⟨V0, V⟩ := Pen.ok_mk p num d 1 (Pen.amt_mk _ (by omega) (by omega)) (by omega) (by omega) n1 (by omega) d1 (by omega) (Pen.amt_mk _ (by omega) (by omega))
    obtain ⟨W0, W⟩ := Pen.ok_mk (p + k * d) num d 1 (Pen.amt_mk _ (by omega) (by omega)) (by omega) (by omega) n1 (by omega) d1 (by omega) (Pen.amt_mk _ (by omega) (by omega))
    have even : ∀ way, Pen.partE (p * d) num d way = 0 → Pen.part (p * d) num d way = p * num := fun way hE => by
      rw [(Pen.ok_raw _ _ _ _ hE).1]
      exact Pen.raw_even _ _ _ _ _ (by omega) (by rw [Int.mul_assoc, Int.mul_assoc, Int.mul_comm d num])
    have all : Pen.partE p d d a = 0 → Pen.part p d d a = p := fun hE => by
      rw [(Pen.ok_raw _ _ _ _ hE).1]
      exact Pen.raw_even _ _ _ _ _ (by omega) rfl
    refine penceWhole_walk p num d a b k (p * d) (k * d) (p * num) (k * num) _ _ _ _ _ _ _ _ w p1 p2 k1 k2 n1 n2 d1 d2 rfl rfl rfl rfl (by omega) (by omega) (by omega) (by omega) rfl rfl rfl rfl rfl V0 rfl W0 rfl rfl (even a) (even b) (by rw [V]; omega) ?_ all
    intro c1 c2
    rw [V, W]
    exact Pen.raw_more p num d k c1 c2 (by omega)
  · exact penceWhole_out p num d a b k w h
end Go.Proofs.Ytmlkfjgbomoneaa
