/- The walk of JeffersonBest: it answers true, whatever it is handed. Made by mk_lshare6.py. -/
import Derived.Test.YthbobmanicnplaaLawShare5
namespace Go.Proofs.Ythbobmanicnplaa
open Go.RowKit Go.BigFrame Go.Sort

set_option maxHeartbeats 1000000 in
theorem jefBest_no (T : Int) (l : List Int) (a : Option Addr) (cap : Nat) (i k c : Int) (w : World) (hl : l.length ≤ maxLen) (hc : Shr.code T l = c) (hn : c ≠ 0) (hr : Row1 w a l) :
    Calls Try.prog 8 #[.int .i64 T, .slice a l.length cap, .int .i64 i, .int .i64 k] w fun e w' => e = .returned (.bool true) ∧ Below w.heap.size w w' := by
  have hb := Shr.code_bd T l
  have HX : Hid (Shr.jeff T l = []) := jeff_nil T l (by rw [hc]; exact hn)
  rw [hc] at hb
  have HC : Hid (Shr.code T l = c) := hc
  have hc0 : 0 < c := by omega
  have e1 : (c != 0) = true := by simpa using hn
  have e2 : (c == 0) = false := by simpa using hn
  clear hc hn
  go_enter Try.func8, Try.ntmps8
  go_wp2_with fail
  refine (pJeff_at T l _ _ [] c _ hl hr HX.out HC.out).mono ?_; rintro e w1 ⟨a1, k1, rfl, r1, b1⟩
  go_wp2_with fail
  refine (hbegun_any _).mono ?_; rintro e w2 ⟨rfl, b2⟩
  have B2 := below_on b1 (Nat.le_refl _) b2
  clear b1 b2
  go_wp2
  all_goals first | (exfalso; rename_i hq; simp at hq; omega) | skip
  go_ret
  exact ⟨rfl, B2⟩
set_option maxHeartbeats 1000000 in
theorem jefBest_out (T : Int) (l : List Int) (a : Option Addr) (cap : Nat) (xs : List Int) (i k : Int) (w : World) (hl : l.length ≤ maxLen) (hc : Shr.code T l = 0) (hx : Shr.jeff T l = xs) (hr : Row1 w a l) (h : i < 0 ∨ k < 0 ∨ (l.length : Int) ≤ i ∨ (l.length : Int) ≤ k) :
    Calls Try.prog 8 #[.int .i64 T, .slice a l.length cap, .int .i64 i, .int .i64 k] w fun e w' => e = .returned (.bool true) ∧ Below w.heap.size w w' := by
  have HC : Hid (Shr.code T l = 0) := hc
  have HX : Hid (Shr.jeff T l = xs) := hx
  have hml := hl
  unfold maxLen at hl
  clear hc hx
  by_cases c1 : i < 0
  · clear h
    go_enter Try.func8, Try.ntmps8
    go_wp2_with fail
    refine (pJeff_at T l _ _ xs 0 _ hml hr HX.out HC.out).mono ?_; rintro e w1 ⟨a1, k1, rfl, r1, b1⟩
    go_wp2_with fail
    refine (hbegun_any _).mono ?_; rintro e w2 ⟨rfl, b2⟩
    have B2 := below_on b1 (Nat.le_refl _) b2
    clear b1 b2
    go_wp2
    all_goals first | (exfalso; omega) | skip
    go_ret
    exact ⟨rfl, B2⟩
  by_cases c2 : k < 0
  · clear h
    go_enter Try.func8, Try.ntmps8
    go_wp2_with fail
    refine (pJeff_at T l _ _ xs 0 _ hml hr HX.out HC.out).mono ?_; rintro e w1 ⟨a1, k1, rfl, r1, b1⟩
    go_wp2_with fail
    refine (hbegun_any _).mono ?_; rintro e w2 ⟨rfl, b2⟩
    have B2 := below_on b1 (Nat.le_refl _) b2
    clear b1 b2
    go_wp2
    all_goals first | (exfalso; omega) | skip
    go_ret
    exact ⟨rfl, B2⟩
  by_cases c3 : (l.length : Int) ≤ i
  · clear h
    go_enter Try.func8, Try.ntmps8
    go_wp2_with fail
    refine (pJeff_at T l _ _ xs 0 _ hml hr HX.out HC.out).mono ?_; rintro e w1 ⟨a1, k1, rfl, r1, b1⟩
    go_wp2_with fail
    refine (hbegun_any _).mono ?_; rintro e w2 ⟨rfl, b2⟩
    have B2 := below_on b1 (Nat.le_refl _) b2
    clear b1 b2
    go_wp2
    all_goals first | (exfalso; omega) | skip
    go_ret
    exact ⟨rfl, B2⟩
  have c4 : (l.length : Int) ≤ k := by omega
  clear h
  go_enter Try.func8, Try.ntmps8
  go_wp2_with fail
  refine (pJeff_at T l _ _ xs 0 _ hml hr HX.out HC.out).mono ?_; rintro e w1 ⟨a1, k1, rfl, r1, b1⟩
  go_wp2_with fail
  refine (hbegun_any _).mono ?_; rintro e w2 ⟨rfl, b2⟩
  have B2 := below_on b1 (Nat.le_refl _) b2
  clear b1 b2
  go_wp2
  all_goals first | (exfalso; omega) | skip
  go_ret
  exact ⟨rfl, B2⟩
set_option maxHeartbeats 2000000 in
theorem jefBest_in (T : Int) (l : List Int) (a : Option Addr) (cap : Nat) (xs : List Int) (i k : Nat) (w : World) (ok : Shr.Ok T l) (hc : Shr.code T l = 0) (H : JefL T l xs) (hr : Row1 w a l) (hi : i < l.length) (hk : k < l.length) :
    Calls Try.prog 8 #[.int .i64 T, .slice a l.length cap, .int .i64 i, .int .i64 k] w fun e w' => e = .returned (.bool true) ∧ Below w.heap.size w w' := by
  have hl := ok.len
  have hs0 := ok.sum
  have hs1 := ok.sum1
  have ht0 := ok.t0
  have ht1 := ok.t1
  have hml : l.length ≤ maxLen := by unfold maxLen; omega
  have HC : Hid (Shr.code T l = 0) := hc
  have HH : Hid (JefL T l xs) := H
  have HOK : Hid (Shr.Ok T l) := ok
  have mz : ((xs.length : Int)) = (l.length : Int) := by have := H.len; omega
  have mz1 : xs.length ≤ l.length := by have := H.len; omega
  have mz2 : l.length ≤ xs.length := by have := H.len; omega
  have iz : (i : Int) < (l.length : Int) := by omega
  have kz : (k : Int) < (l.length : Int) := by omega
  clear hc H ok
  go_enter Try.func8, Try.ntmps8
  go_wp2_with fail
  refine (pJeff_at T l _ _ xs 0 _ hml hr HH.out.eq HC.out).mono ?_; rintro e w1 ⟨a1, k1, rfl, r1, b1⟩
  have h1 := hr.below b1
  go_wp2_with fail
  refine (hbegun_any _).mono ?_; rintro e w2 ⟨rfl, b2⟩
  have B2 := below_on b1 (Nat.le_refl _) b2
  replace r1 := r1.below b2
  have h2 := h1.below b2
  have HB2 : Hid (Below w.heap.size w w2) := B2
  clear b1 b2 h1 B2 hr
  go_wp2_with fail
  all_goals first | (exfalso; omega) | skip
  refine (total_any l _ _ _ (by omega) (fun i => by have := HOK.out.get i; omega) h2).mono ?_; rintro e w3 ⟨rfl, rfl⟩
  obtain ⟨bx, ox, rfl, hcx⟩ := row1_cells r1 (by omega)
  obtain ⟨bl, ol, rfl, hcl⟩ := row1_cells h2 (by omega)
  have dxi := cell_regrown (hcx i (by omega))
  have dxk := cell_regrown (hcx k (by omega))
  have dli := cell_regrown (hcl i hi)
  have dlk := cell_regrown (hcl k hk)
  have hxi := HH.out.bd i
  have hxk := HH.out.bd k
  have hwi := HOK.out.get i
  have hwk := HOK.out.get k
  have HA1 : Hid (0 < Shr.at' xs i → Shr.at' l k * Shr.at' xs i ≤ Shr.at' l i * (Shr.at' xs k + 1)) := fun h => HH.out.best i k hi hk h
  have hqu := HH.out.quota i hi
  clear r1 h2 hcx hcl HH HOK
  generalize Shr.at' xs i = xi at *
  generalize Shr.at' xs k = xk at *
  generalize Shr.at' l i = wi at *
  generalize Shr.at' l k = wk at *
  generalize hS : l.sum = S at *
  clear hS
  have p1 := Shr.mul_bd wi (xk + 1) 100000 100001 hwi.1 hwi.2 (by omega) (by omega)
  have p2 := Shr.mul_bd wk xi 100000 100000 hwk.1 hwk.2 hxi.1 hxi.2
  have p3 := Shr.mul_bd (xi + 1) S 100001 3200000 (by omega) (by omega) (by omega) hs1
  have p4 := Shr.mul_bd T wi 100000 100000 ht0 ht1 hwi.1 hwi.2
  have izx : (i : Int) < (xs.length : Int) := by omega
  have kzx : (k : Int) < (xs.length : Int) := by omega
  have e5 : decide (T * wi < (xi + 1) * S) = true := by simpa using hqu
  by_cases hx : xi = 0
  · have e1 : (xi == 0) = true := by simpa using hx
    clear hx
    go_wp2_with fail
    refine wp_region_quiet_below (by kernel_rfl) (by kernel_rfl) ?_
    repeat go_big_quiet_step (fail)
    refine wpQuiet_nil ?_
    intro _ hw'
    obtain ⟨⟨dq, osq⟩, hw''⟩ := hw'
    subst hw''
    go_wp2
    go_ret
    exact ⟨rfl, below_on HB2.out (Nat.le_refl _) (below_regrown _ _ _)⟩
  · have e1 : (xi == 0) = false := by simpa using hx
    have hq := HA1.out (by omega)
    have e2 : decide (wk * xi ≤ wi * (xk + 1)) = true := by simpa using hq
    clear hx
    go_wp2_with fail
    refine wp_region_quiet_below (by kernel_rfl) (by kernel_rfl) ?_
    repeat go_big_quiet_step (fail)
    refine wpQuiet_nil ?_
    intro _ hw'
    obtain ⟨⟨dq, osq⟩, hw''⟩ := hw'
    subst hw''
    go_wp2
    go_ret
    exact ⟨rfl, below_on HB2.out (Nat.le_refl _) (below_regrown _ _ _)⟩
theorem jeffersonBest_any (T : Int) (l : List Int) (a : Option Addr) (cap : Nat) (i k : Int) (w : World) (hl : l.length ≤ maxLen) (hr : Row1 w a l) :
    Calls Try.prog 8 #[.int .i64 T, .slice a l.length cap, .int .i64 i, .int .i64 k] w fun e w' => e = .returned (.bool true) ∧ Below w.heap.size w w' := by
  by_cases h : Shr.code T l = 0
  · obtain ⟨xs, H⟩ := jefL T l h
    by_cases c : i < 0 ∨ k < 0 ∨ (l.length : Int) ≤ i ∨ (l.length : Int) ≤ k
    · exact jefBest_out T l a cap xs i k w hl h H.eq hr c
    · obtain ⟨i', rfl⟩ := Int.eq_ofNat_of_zero_le (show 0 ≤ i by omega)
      obtain ⟨k', rfl⟩ := Int.eq_ofNat_of_zero_le (show 0 ≤ k by omega)
      exact jefBest_in T l a cap xs i' k' w (Shr.ok_of T l h) h H hr (by omega) (by omega)
  · exact jefBest_no T l a cap i k _ w hl rfl h hr
end Go.Proofs.Ythbobmanicnplaa
