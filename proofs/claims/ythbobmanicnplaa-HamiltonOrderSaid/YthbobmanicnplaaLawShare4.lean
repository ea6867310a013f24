/- The walk of HamiltonOrder: it answers true, whatever it is handed. Made by mk_lshare4.py. -/
import Derived.Test.YthbobmanicnplaaLawShare3
namespace Go.Proofs.Ythbobmanicnplaa
open Go.RowKit Go.BigFrame Go.Sort

set_option maxHeartbeats 1000000 in
theorem hamOrder_no (T : Int) (l : List Int) (a : Option Addr) (cap : Nat) (i k c : Int) (w : World) (hl : l.length ≤ maxLen) (hc : Shr.code T l = c) (hn : c ≠ 0) (hr : Row1 w a l) :
    Calls Try.prog 6 #[.int .i64 T, .slice a l.length cap, .int .i64 i, .int .i64 k] w fun e w' => e = .returned (.bool true) ∧ Below w.heap.size w w' := by
  have hb := Shr.code_bd T l
  have HX : Hid (Shr.ham T l = []) := ham_nil T l (by rw [hc]; exact hn)
  rw [hc] at hb
  have HC : Hid (Shr.code T l = c) := hc
  have hc0 : 0 < c := by omega
  have e1 : (c != 0) = true := by simpa using hn
  have e2 : (c == 0) = false := by simpa using hn
  clear hc hn
  go_enter Try.func6, Try.ntmps6
  go_wp2_with fail
  refine (pHam_at T l _ _ [] c _ hl hr HX.out HC.out).mono ?_; rintro e w1 ⟨a1, k1, rfl, r1, b1⟩
  go_wp2_with fail
  refine (hbegun_any _).mono ?_; rintro e w2 ⟨rfl, b2⟩
  have B2 := below_on b1 (Nat.le_refl _) b2
  clear b1 b2
  go_wp2
  all_goals first | (exfalso; rename_i hq; simp at hq; omega) | skip
  go_ret
  exact ⟨rfl, B2⟩
set_option maxHeartbeats 1000000 in
theorem hamOrder_out (T : Int) (l : List Int) (a : Option Addr) (cap : Nat) (xs : List Int) (i k : Int) (w : World) (hl : l.length ≤ maxLen) (hc : Shr.code T l = 0) (hx : Shr.ham T l = xs) (hr : Row1 w a l) (h : i < 0 ∨ k < 0 ∨ (l.length : Int) ≤ i ∨ (l.length : Int) ≤ k) :
    Calls Try.prog 6 #[.int .i64 T, .slice a l.length cap, .int .i64 i, .int .i64 k] w fun e w' => e = .returned (.bool true) ∧ Below w.heap.size w w' := by
  have HC : Hid (Shr.code T l = 0) := hc
  have HX : Hid (Shr.ham T l = xs) := hx
  have hml := hl
  unfold maxLen at hl
  clear hc hx
  by_cases c1 : i < 0
  · clear h
    go_enter Try.func6, Try.ntmps6
    go_wp2_with fail
    refine (pHam_at T l _ _ xs 0 _ hml hr HX.out HC.out).mono ?_; rintro e w1 ⟨a1, k1, rfl, r1, b1⟩
    go_wp2_with fail
    refine (hbegun_any _).mono ?_; rintro e w2 ⟨rfl, b2⟩
    have B2 := below_on b1 (Nat.le_refl _) b2
    clear b1 b2
    go_wp2
    all_goals first | (exfalso; omega) | skip
    go_ret
    exact ⟨rfl, B2⟩
  by_cases c2 : k < 0
  · clear h
    go_enter Try.func6, Try.ntmps6
    go_wp2_with fail
    refine (pHam_at T l _ _ xs 0 _ hml hr HX.out HC.out).mono ?_; rintro e w1 ⟨a1, k1, rfl, r1, b1⟩
    go_wp2_with fail
    refine (hbegun_any _).mono ?_; rintro e w2 ⟨rfl, b2⟩
    have B2 := below_on b1 (Nat.le_refl _) b2
    clear b1 b2
    go_wp2
    all_goals first | (exfalso; omega) | skip
    go_ret
    exact ⟨rfl, B2⟩
  by_cases c3 : (l.length : Int) ≤ i
  · clear h
    go_enter Try.func6, Try.ntmps6
    go_wp2_with fail
    refine (pHam_at T l _ _ xs 0 _ hml hr HX.out HC.out).mono ?_; rintro e w1 ⟨a1, k1, rfl, r1, b1⟩
    go_wp2_with fail
    refine (hbegun_any _).mono ?_; rintro e w2 ⟨rfl, b2⟩
    have B2 := below_on b1 (Nat.le_refl _) b2
    clear b1 b2
    go_wp2
    all_goals first | (exfalso; omega) | skip
    go_ret
    exact ⟨rfl, B2⟩
  have c4 : (l.length : Int) ≤ k := by omega
  clear h
  go_enter Try.func6, Try.ntmps6
  go_wp2_with fail
  refine (pHam_at T l _ _ xs 0 _ hml hr HX.out HC.out).mono ?_; rintro e w1 ⟨a1, k1, rfl, r1, b1⟩
  go_wp2_with fail
  refine (hbegun_any _).mono ?_; rintro e w2 ⟨rfl, b2⟩
  have B2 := below_on b1 (Nat.le_refl _) b2
  clear b1 b2
  go_wp2
  all_goals first | (exfalso; omega) | skip
  go_ret
  exact ⟨rfl, B2⟩
set_option maxHeartbeats 2000000 in
theorem hamOrder_in (T : Int) (l : List Int) (a : Option Addr) (cap : Nat) (xs : List Int) (i k : Nat) (w : World) (ok : Shr.Ok T l) (hc : Shr.code T l = 0) (H : HamL T l xs) (hr : Row1 w a l) (hi : i < l.length) (hk : k < l.length) :
    Calls Try.prog 6 #[.int .i64 T, .slice a l.length cap, .int .i64 i, .int .i64 k] w fun e w' => e = .returned (.bool true) ∧ Below w.heap.size w w' := by
  have hl := ok.len
  have hml : l.length ≤ maxLen := by unfold maxLen; omega
  have HC : Hid (Shr.code T l = 0) := hc
  have HH : Hid (HamL T l xs) := H
  have HOK : Hid (Shr.Ok T l) := ok
  have mz : ((xs.length : Int)) = (l.length : Int) := by have := H.len; omega
  have mz1 : xs.length ≤ l.length := by have := H.len; omega
  have mz2 : l.length ≤ xs.length := by have := H.len; omega
  have iz : (i : Int) < (l.length : Int) := by omega
  have kz : (k : Int) < (l.length : Int) := by omega
  clear hc H ok
  go_enter Try.func6, Try.ntmps6
  go_wp2_with fail
  refine (pHam_at T l _ _ xs 0 _ hml hr HH.out.eq HC.out).mono ?_; rintro e w1 ⟨a1, k1, rfl, r1, b1⟩
  have h1 := hr.below b1
  go_wp2_with fail
  refine (hbegun_any _).mono ?_; rintro e w2 ⟨rfl, b2⟩
  have B2 := below_on b1 (Nat.le_refl _) b2
  replace r1 := r1.below b2
  have h2 := h1.below b2
  have HB2 : Hid (Below w.heap.size w w2) := B2
  clear b1 b2 h1 B2 hr
  obtain ⟨bx, ox, rfl, hcx⟩ := row1_cells r1 (by omega)
  obtain ⟨bl, ol, rfl, hcl⟩ := row1_cells h2 (by omega)
  have cxi := hcx i (by omega)
  have cxk := hcx k (by omega)
  have cli := hcl i hi
  have clk := hcl k hk
  have hxi := HH.out.bd i
  have hxk := HH.out.bd k
  have HA1 : Hid (i < k → Shr.at' l i = Shr.at' l k → Shr.at' xs i = Shr.at' xs k ∨ Shr.at' xs i = Shr.at' xs k + 1) := fun h1 h2 => HH.out.alike i k h1 hk h2
  have HA2 : Hid (k < i → Shr.at' l i = Shr.at' l k → Shr.at' xs k = Shr.at' xs i ∨ Shr.at' xs k = Shr.at' xs i + 1) := fun h1 h2 => HH.out.alike k i h1 hi h2.symm
  have HA3 : Hid (Shr.at' l k < Shr.at' l i → Shr.at' xs k ≤ Shr.at' xs i) := fun h => HH.out.more i k hi hk h
  have HA4 : Hid (i = k → Shr.at' xs i = Shr.at' xs k) := fun h => by rw [h]
  clear r1 h2 hcx hcl HH HOK
  generalize Shr.at' xs i = xi at *
  generalize Shr.at' xs k = xk at *
  generalize Shr.at' l i = wi at *
  generalize Shr.at' l k = wk at *
  have izx : (i : Int) < (xs.length : Int) := by omega
  have kzx : (k : Int) < (xs.length : Int) := by omega
  have dxi0 := cell_regrown cxi
  have dxk0 := cell_regrown cxk
  clear cxi cxk
  by_cases hw : wi = wk
  · have HW : Hid (wi = wk) := hw
    have e0 : (wi == wk) = true := by simpa using hw
    clear hw
    by_cases hx : xi = xk
    · have e1 : (xi == xk) = true := by simpa using hx
      clear hx
      have dli := cell_regrown cli
      have dlk := cell_regrown clk
      go_wp2_with fail
      all_goals first | (exfalso; omega) | skip
      refine wp_region_quiet_below (by kernel_rfl) (by kernel_rfl) ?_
      repeat go_big_quiet_step (fail)
      refine wpQuiet_nil ?_
      intro _ hw'
      obtain ⟨⟨dq1, osq1⟩, hw''⟩ := hw'
      subst hw''
      have B3 := below_regrown w2 dq1 osq1
      have HB3 : Hid (Below w.heap.size w (grow (redrawn w2 dq1) osq1)) := below_on HB2.out (Nat.le_refl _) B3
      have exi := dxi0 dq1 osq1
      have exk := dxk0 dq1 osq1
      have eli := dli dq1 osq1
      have elk := dlk dq1 osq1
      generalize grow (redrawn w2 dq1) osq1 = w3 at *
      clear dli dlk dxi0 dxk0
      have dxi := cell_regrown exi
      have dxk := cell_regrown exk
      have dli := cell_regrown eli
      have dlk := cell_regrown elk
      go_wp2_with fail
      all_goals first | (exfalso; omega) | skip
      refine wp_region_quiet_below (by kernel_rfl) (by kernel_rfl) ?_
      repeat go_big_quiet_step (fail)
      refine wpQuiet_nil ?_
      intro _ hw'
      obtain ⟨⟨dq2, osq2⟩, hw''⟩ := hw'
      subst hw''
      go_wp2
      go_ret
      exact ⟨rfl, below_on HB3.out (Nat.le_refl _) (below_regrown _ _ _)⟩
    · have e1 : (xi == xk) = false := by simpa using hx
      rcases Nat.lt_trichotomy i k with d | d | d
      · have e2 : decide ((i : Int) < (k : Int)) = true := by simp; omega
        have e2n : decide (i < k) = true := by simp; omega
        have hq := (HA1.out d HW.out).resolve_left hx
        have e3 : (xi == xk + 1) = true := by simpa using hq
        clear hx hq
        have dli := cell_regrown cli
        have dlk := cell_regrown clk
        go_wp2_with fail
        all_goals first | (exfalso; omega) | skip
        refine wp_region_quiet_below (by kernel_rfl) (by kernel_rfl) ?_
        repeat go_big_quiet_step (fail)
        refine wpQuiet_nil ?_
        intro _ hw'
        obtain ⟨⟨dq1, osq1⟩, hw''⟩ := hw'
        subst hw''
        have B3 := below_regrown w2 dq1 osq1
        have HB3 : Hid (Below w.heap.size w (grow (redrawn w2 dq1) osq1)) := below_on HB2.out (Nat.le_refl _) B3
        have exi := dxi0 dq1 osq1
        have exk := dxk0 dq1 osq1
        have eli := dli dq1 osq1
        have elk := dlk dq1 osq1
        generalize grow (redrawn w2 dq1) osq1 = w3 at *
        clear dli dlk dxi0 dxk0
        have dxi := cell_regrown exi
        have dxk := cell_regrown exk
        have dli := cell_regrown eli
        have dlk := cell_regrown elk
        go_wp2_with fail
        all_goals first | (exfalso; omega) | skip
        refine wp_region_quiet_below (by kernel_rfl) (by kernel_rfl) ?_
        repeat go_big_quiet_step (fail)
        refine wpQuiet_nil ?_
        intro _ hw'
        obtain ⟨⟨dq2, osq2⟩, hw''⟩ := hw'
        subst hw''
        go_wp2
        go_ret
        exact ⟨rfl, below_on HB3.out (Nat.le_refl _) (below_regrown _ _ _)⟩
      · exact absurd (HA4.out d) hx
      · have e2 : decide ((i : Int) < (k : Int)) = false := by simp; omega
        have e2n : decide (i < k) = false := by simp; omega
        have e4 : decide ((k : Int) < (i : Int)) = true := by simp; omega
        have e4n : decide (k < i) = true := by simp; omega
        have hq := (HA2.out d HW.out).resolve_left (fun h => hx h.symm)
        have e3 : (xk == xi + 1) = true := by simpa using hq
        clear hx hq
        have dli := cell_regrown cli
        have dlk := cell_regrown clk
        go_wp2_with fail
        all_goals first | (exfalso; omega) | skip
        refine wp_region_quiet_below (by kernel_rfl) (by kernel_rfl) ?_
        repeat go_big_quiet_step (fail)
        refine wpQuiet_nil ?_
        intro _ hw'
        obtain ⟨⟨dq1, osq1⟩, hw''⟩ := hw'
        subst hw''
        have B3 := below_regrown w2 dq1 osq1
        have HB3 : Hid (Below w.heap.size w (grow (redrawn w2 dq1) osq1)) := below_on HB2.out (Nat.le_refl _) B3
        have exi := dxi0 dq1 osq1
        have exk := dxk0 dq1 osq1
        have eli := dli dq1 osq1
        have elk := dlk dq1 osq1
        generalize grow (redrawn w2 dq1) osq1 = w3 at *
        clear dli dlk dxi0 dxk0
        have dxi := cell_regrown exi
        have dxk := cell_regrown exk
        have dli := cell_regrown eli
        have dlk := cell_regrown elk
        go_wp2_with fail
        all_goals first | (exfalso; omega) | skip
        refine wp_region_quiet_below (by kernel_rfl) (by kernel_rfl) ?_
        repeat go_big_quiet_step (fail)
        refine wpQuiet_nil ?_
        intro _ hw'
        obtain ⟨⟨dq2, osq2⟩, hw''⟩ := hw'
        subst hw''
        go_wp2
        go_ret
        exact ⟨rfl, below_on HB3.out (Nat.le_refl _) (below_regrown _ _ _)⟩
  · have e0 : (wi == wk) = false := by simpa using hw
    by_cases hx : wi < wk
    · have e1 : decide (wi < wk) = true := by simpa using hx
      clear hw hx
      have dli := cell_regrown cli
      have dlk := cell_regrown clk
      go_wp2_with fail
      all_goals first | (exfalso; omega) | skip
      refine wp_region_quiet_below (by kernel_rfl) (by kernel_rfl) ?_
      repeat go_big_quiet_step (fail)
      refine wpQuiet_nil ?_
      intro _ hw'
      obtain ⟨⟨dq1, osq1⟩, hw''⟩ := hw'
      subst hw''
      have B3 := below_regrown w2 dq1 osq1
      have HB3 : Hid (Below w.heap.size w (grow (redrawn w2 dq1) osq1)) := below_on HB2.out (Nat.le_refl _) B3
      have exi := dxi0 dq1 osq1
      have exk := dxk0 dq1 osq1
      have eli := dli dq1 osq1
      have elk := dlk dq1 osq1
      generalize grow (redrawn w2 dq1) osq1 = w3 at *
      clear dli dlk dxi0 dxk0
      have dxi := cell_regrown exi
      have dxk := cell_regrown exk
      have dli := cell_regrown eli
      have dlk := cell_regrown elk
      go_wp2_with fail
      all_goals first | (exfalso; omega) | skip
      refine wp_region_quiet_below (by kernel_rfl) (by kernel_rfl) ?_
      repeat go_big_quiet_step (fail)
      refine wpQuiet_nil ?_
      intro _ hw'
      obtain ⟨⟨dq2, osq2⟩, hw''⟩ := hw'
      subst hw''
      go_wp2
      go_ret
      exact ⟨rfl, below_on HB3.out (Nat.le_refl _) (below_regrown _ _ _)⟩
    · have e1 : decide (wi < wk) = false := by simpa using hx
      have hq := HA3.out (by omega)
      have e2 : decide (xk ≤ xi) = true := by simpa using hq
      clear hw hx
      have dli := cell_regrown cli
      have dlk := cell_regrown clk
      go_wp2_with fail
      all_goals first | (exfalso; omega) | skip
      refine wp_region_quiet_below (by kernel_rfl) (by kernel_rfl) ?_
      repeat go_big_quiet_step (fail)
      refine wpQuiet_nil ?_
      intro _ hw'
      obtain ⟨⟨dq1, osq1⟩, hw''⟩ := hw'
      subst hw''
      have B3 := below_regrown w2 dq1 osq1
      have HB3 : Hid (Below w.heap.size w (grow (redrawn w2 dq1) osq1)) := below_on HB2.out (Nat.le_refl _) B3
      have exi := dxi0 dq1 osq1
      have exk := dxk0 dq1 osq1
      have eli := dli dq1 osq1
      have elk := dlk dq1 osq1
      generalize grow (redrawn w2 dq1) osq1 = w3 at *
      clear dli dlk dxi0 dxk0
      have dxi := cell_regrown exi
      have dxk := cell_regrown exk
      have dli := cell_regrown eli
      have dlk := cell_regrown elk
      go_wp2_with fail
      all_goals first | (exfalso; omega) | skip
      refine wp_region_quiet_below (by kernel_rfl) (by kernel_rfl) ?_
      repeat go_big_quiet_step (fail)
      refine wpQuiet_nil ?_
      intro _ hw'
      obtain ⟨⟨dq2, osq2⟩, hw''⟩ := hw'
      subst hw''
      go_wp2
      go_ret
      exact ⟨rfl, below_on HB3.out (Nat.le_refl _) (below_regrown _ _ _)⟩
theorem hamiltonOrder_any (T : Int) (l : List Int) (a : Option Addr) (cap : Nat) (i k : Int) (w : World) (hl : l.length ≤ maxLen) (hr : Row1 w a l) :
    Calls Try.prog 6 #[.int .i64 T, .slice a l.length cap, .int .i64 i, .int .i64 k] w fun e w' => e = .returned (.bool true) ∧ Below w.heap.size w w' := by
  by_cases h : Shr.code T l = 0
  · obtain ⟨xs, H⟩ := hamL T l h
    by_cases c : i < 0 ∨ k < 0 ∨ (l.length : Int) ≤ i ∨ (l.length : Int) ≤ k
    · exact hamOrder_out T l a cap xs i k w hl h H.eq hr c
    · obtain ⟨i', rfl⟩ := Int.eq_ofNat_of_zero_le (show 0 ≤ i by omega)
      obtain ⟨k', rfl⟩ := Int.eq_ofNat_of_zero_le (show 0 ≤ k by omega)
      exact hamOrder_in T l a cap xs i' k' w (Shr.ok_of T l h) h H hr (by omega) (by omega)
  · exact hamOrder_no T l a cap i k _ w hl rfl h hr
end Go.Proofs.Ythbobmanicnplaa
