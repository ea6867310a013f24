/- The walk of HamiltonQuota: it answers true, whatever it is handed. -/
import Derived.Test.YthbobmanicnplaaLawShare2
namespace Go.Proofs.Ythbobmanicnplaa
open Go.RowKit Go.BigFrame Go.Sort

theorem ham_nil (T : Int) (l : List Int) (h : Shr.code T l ≠ 0) : Shr.ham T l = [] := by unfold Shr.ham; rw [if_neg h]
theorem jeff_nil (T : Int) (l : List Int) (h : Shr.code T l ≠ 0) : Shr.jeff T l = [] := by unfold Shr.jeff; rw [if_neg h]
theorem at_bd (n : Nat) (F : Nat → Int) (M : Int) (hM : 0 ≤ M) (h : ∀ i, i < n → 0 ≤ F i ∧ F i ≤ M) : ∀ i, 0 ≤ Shr.at' ((List.range n).map F) i ∧ Shr.at' ((List.range n).map F) i ≤ M := fun i => by
  by_cases hi : i < n
  · rw [Shr.at_map n F i hi]; exact h i hi
  · unfold Shr.at'
    rw [List.getD_eq_getElem?_getD, List.getElem?_eq_none (by simp; omega)]
    exact ⟨Int.le_refl _, hM⟩
/-- what Hamilton answers, said of the list alone -/
structure HamL (T : Int) (l xs : List Int) : Prop where
  eq : Shr.ham T l = xs
  len : xs.length = l.length
  bd : ∀ i, 0 ≤ Shr.at' xs i ∧ Shr.at' xs i ≤ 100000
  sum : xs.sum = T
  quota : ∀ i, i < l.length → T * Shr.at' l i - l.sum < Shr.at' xs i * l.sum ∧ Shr.at' xs i * l.sum < T * Shr.at' l i + l.sum ∧ (Shr.at' l i = 0 → Shr.at' xs i = 0)
  alike : ∀ i k, i < k → k < l.length → Shr.at' l i = Shr.at' l k → Shr.at' xs i = Shr.at' xs k ∨ Shr.at' xs i = Shr.at' xs k + 1
  more : ∀ i k, i < l.length → k < l.length → Shr.at' l k < Shr.at' l i → Shr.at' xs k ≤ Shr.at' xs i
theorem hamL (T : Int) (l : List Int) (h : Shr.code T l = 0) : ∃ xs, HamL T l xs := by
  have ok := Shr.ok_of T l h
  have hat : ∀ i, i < l.length → Shr.at' ((List.range l.length).map (Shr.hamAt T l)) i = Shr.hamAt T l i := fun i hi => Shr.at_map _ _ i hi
  refine ⟨(List.range l.length).map (Shr.hamAt T l), by unfold Shr.ham; rw [if_pos h], by simp, ?_, ?_, fun i hi => ?_, fun i k hik hk e => ?_, fun i k hi hk e => ?_⟩
  · exact at_bd _ _ _ (by decide) (fun i hi => by have := ok.ham_bd i hi; have := ok.t1; omega)
  · exact ok.ham_sum
  · rw [hat i hi]; exact ok.quota i
  · rw [hat i (by omega), hat k hk]; exact Shr.ham_alike T l i k (by omega) e hik
  · rw [hat i hi, hat k hk]; exact ok.ham_more i k hi e
set_option maxHeartbeats 1000000 in
theorem hamQuota_no (T : Int) (l : List Int) (a : Option Addr) (cap : Nat) (c : Int) (w : World) (hl : l.length ≤ maxLen) (hc : Shr.code T l = c) (hn : c ≠ 0) (hr : Row1 w a l) :
    Calls Try.prog 5 #[.int .i64 T, .slice a l.length cap] w fun e w' => e = .returned (.bool true) ∧ Below w.heap.size w w' := by
  have hb := Shr.code_bd T l
  have HX : Hid (Shr.ham T l = []) := ham_nil T l (by rw [hc]; exact hn)
  rw [hc] at hb
  have HC : Hid (Shr.code T l = c) := hc
  have hc0 : 0 < c := by omega
  clear hc hn
  go_enter Try.func5, Try.ntmps5
  go_wp2_with fail
  refine (pHam_at T l _ _ [] c _ hl hr HX.out HC.out).mono ?_; rintro e w1 ⟨a1, k1, rfl, r1, b1⟩
  go_wp2_with fail
  refine (hbegun_any _).mono ?_; rintro e w2 ⟨rfl, b2⟩
  have B2 := below_on b1 (Nat.le_refl _) b2
  clear b1 b2
  go_wp2
  all_goals first | (exfalso; rename_i hq; simp at hq; omega) | skip
  go_ret
  exact ⟨rfl, B2⟩
set_option maxHeartbeats 2000000 in
theorem hamQuota_yes (T : Int) (l : List Int) (a : Option Addr) (cap : Nat) (xs : List Int) (w : World) (ok : Shr.Ok T l) (hc : Shr.code T l = 0) (H : HamL T l xs) (hr : Row1 w a l) :
    Calls Try.prog 5 #[.int .i64 T, .slice a l.length cap] w fun e w' => e = .returned (.bool true) ∧ Below w.heap.size w w' := by
  have hl := ok.len
  have hn0 := ok.n0
  have hs0 := ok.sum
  have hs1 := ok.sum1
  have ht0 := ok.t0
  have ht1 := ok.t1
  have hml : l.length ≤ maxLen := by unfold maxLen; omega
  have HC : Hid (Shr.code T l = 0) := hc
  have HH : Hid (HamL T l xs) := H
  have HOK : Hid (Shr.Ok T l) := ok
  have mz : ((xs.length : Int)) = (l.length : Int) := by have := H.len; omega
  have mz1 : xs.length ≤ l.length := by have := H.len; omega
  have mz2 : l.length ≤ xs.length := by have := H.len; omega
  clear hc H ok
  go_enter Try.func5, Try.ntmps5
  go_wp2_with fail
  refine (pHam_at T l _ _ xs 0 _ hml hr HH.out.eq HC.out).mono ?_; rintro e w1 ⟨a1, k1, rfl, r1, b1⟩
  have h1 := hr.below b1
  go_wp2_with fail
  refine (hbegun_any _).mono ?_; rintro e w2 ⟨rfl, b2⟩
  have B2 := below_on b1 (Nat.le_refl _) b2
  replace r1 := r1.below b2
  have h2 := h1.below b2
  clear b1 b2 h1
  go_wp2_with fail
  refine (total_any l _ _ _ (by omega) (fun i => by have := HOK.out.get i; omega) h2).mono ?_; rintro e w3 ⟨rfl, rfl⟩
  obtain ⟨bx, ox, rfl, -⟩ := row1_cells r1 (by omega)
  obtain ⟨bl, ol, rfl, -⟩ := row1_cells h2 (by omega)
  have HRX : Hid (Row1 w3 (some ⟨bx, ox, none⟩) xs) := r1
  have HRL : Hid (Row1 w3 (some ⟨bl, ol, none⟩) l) := h2
  have HB2 : Hid (Below w.heap.size w w3) := B2
  clear r1 h2 B2 hr
  generalize hS : l.sum = S at *
  have HS : Hid (l.sum = S) := hS
  clear hS
  go_wp2
  go_loopw [8] (fun iv wr => ∃ i : Nat, i ≤ l.length ∧ iv = .int .i64 i ∧ Below w3.heap.size w3 wr) (fun iv _ => l.length - (intOf iv).toNat)
  case atStart => exact ⟨0, Nat.zero_le _, rfl, Below.refl _ _⟩
  case round =>
    obtain ⟨i, hi, rfl, Bw⟩ := hrel
    have HBw : Hid (Below w3.heap.size w3 wr) := Bw
    have HX1 : Hid (Row1 wr (some ⟨bx, ox, none⟩) xs) := HRX.out.below Bw
    have HL1 : Hid (Row1 wr (some ⟨bl, ol, none⟩) l) := HRL.out.below Bw
    clear Bw
    by_cases hlt : i < l.length
    · obtain ⟨b', o', e', -, -, cx⟩ := HX1.out.get (k := i) (by omega)
      obtain ⟨rfl, rfl⟩ : bx = b' ∧ ox = o' := by simpa using e'
      clear e'
      obtain ⟨b', o', e', -, -, cl⟩ := HL1.out.get (k := i) hlt
      obtain ⟨rfl, rfl⟩ : bl = b' ∧ ol = o' := by simpa using e'
      clear e'
      have dx := cell_regrown cx
      have dl := cell_regrown cl
      have hq := HH.out.quota i hlt
      rw [HS.out] at hq
      have hx := HH.out.bd i
      have hw := HOK.out.get i
      have iz : (i : Int) < (l.length : Int) := by omega
      have izx : (i : Int) < (xs.length : Int) := by omega
      clear cx cl
      generalize Shr.at' xs i = xi at *
      generalize Shr.at' l i = wi at *
      have p1 := Shr.mul_bd xi S 100000 3200000 hx.1 hx.2 (by omega) hs1
      have p2 := Shr.mul_bd T wi 100000 100000 ht0 ht1 hw.1 hw.2
      obtain ⟨q1, q2, q3⟩ := hq
      have e1 : decide (xi * S ≤ T * wi - S) = false := by simp; omega
      have e2 : decide (T * wi + S ≤ xi * S) = false := by simp; omega
      have HQ3 : Hid (wi = 0 → xi = 0) := q3
      clear q3
      by_cases hz : wi = 0
      · have hx0 := HQ3.out hz
        have e3 : (wi == 0) = true := by simpa using hz
        have e4 : (xi != 0) = false := by simpa using hx0
        clear hz hx0
        go_wp2_with fail
        refine wp_region_quiet_below (by kernel_rfl) (by kernel_rfl) ?_
        repeat go_big_quiet_step (fail)
        refine wpQuiet_nil ?_
        intro _ hw'
        obtain ⟨⟨dq, osq⟩, hw''⟩ := hw'
        subst hw''
        have B1 := below_regrown wr dq osq
        generalize grow (redrawn wr dq) osq = w4 at *
        go_wp2
        go_roundw
        case rel => exact ⟨i + 1, by omega, by go_num, below_on HBw.out (Nat.le_refl _) B1⟩
        case measure => simp [intOf]; omega
      · have e3 : (wi == 0) = false := by simpa using hz
        clear hz
        go_wp2_with fail
        refine wp_region_quiet_below (by kernel_rfl) (by kernel_rfl) ?_
        repeat go_big_quiet_step (fail)
        refine wpQuiet_nil ?_
        intro _ hw'
        obtain ⟨⟨dq, osq⟩, hw''⟩ := hw'
        subst hw''
        have B1 := below_regrown wr dq osq
        generalize grow (redrawn wr dq) osq = w4 at *
        go_wp2
        go_roundw
        case rel => exact ⟨i + 1, by omega, by go_num, below_on HBw.out (Nat.le_refl _) B1⟩
        case measure => simp [intOf]; omega
    · obtain rfl : i = l.length := by omega
      go_wp2_with fail
      refine (total_any xs _ _ _ (by omega) (fun i => by have := HH.out.bd i; omega) HX1.out).mono ?_; rintro e w5 ⟨rfl, rfl⟩
      rw [HH.out.sum]
      go_wp2
      go_ret
      exact ⟨rfl, below_on HB2.out (Nat.le_refl _) HBw.out⟩
theorem hamiltonQuota_any (T : Int) (l : List Int) (a : Option Addr) (cap : Nat) (w : World) (hl : l.length ≤ maxLen) (hr : Row1 w a l) :
    Calls Try.prog 5 #[.int .i64 T, .slice a l.length cap] w fun e w' => e = .returned (.bool true) ∧ Below w.heap.size w w' := by
  by_cases h : Shr.code T l = 0
  · obtain ⟨xs, H⟩ := hamL T l h
    exact hamQuota_yes T l a cap xs w (Shr.ok_of T l h) h H hr
  · exact hamQuota_no T l a cap _ w hl rfl h hr
end Go.Proofs.Ythbobmanicnplaa
