/- The walk of EvenWhole: it answers true, whatever it is handed. -/
import Derived.Test.YthbobmanicnplaaHBegun
namespace Go.Proofs.Ythbobmanicnplaa
open Go.RowKit Go.BigFrame Go.Sort

theorem evn_no (T m : Int) (h : Shr.ecode T m ≠ 0) : Shr.evn T m = [] := by unfold Shr.evn; rw [if_neg h]
theorem row1_cells {w : World} {a : Option Addr} {l : List Int} (hr : Row1 w a l) (h0 : 0 < l.length) : ∃ b off, a = some ⟨b, off, none⟩ ∧ ∀ i, i < l.length → w.cell? ⟨b, off + i, none⟩ = some (.int .i64 (Shr.at' l i)) := by
  rcases hr with rfl | ⟨b, off, rfl, hb, hc⟩
  · simp at h0
  · exact ⟨b, off, rfl, hc⟩
set_option maxHeartbeats 1000000 in
theorem evenWhole_no (T m c : Int) (w : World) (hc : Shr.ecode T m = c) (hn : c ≠ 0) (hb : 0 ≤ c) (hb2 : c ≤ 3) :
    Calls Try.prog 4 #[.int .i64 T, .int .i64 m] w fun e w' => e = .returned (.bool true) ∧ Below w.heap.size w w' := by
  have HX : Hid (Shr.evn T m = []) := evn_no T m (by rw [hc]; exact hn)
  have HC : Hid (Shr.ecode T m = c) := hc
  have hc0 : 0 < c := by omega
  clear hc hn
  go_enter Try.func4, Try.ntmps4
  go_wp2_with fail
  refine (pEven_at T m [] c _ HX.out HC.out).mono ?_; rintro e w1 ⟨a1, k1, rfl, r1, b1⟩
  go_wp2_with fail
  refine (hbegun_any _).mono ?_; rintro e w2 ⟨rfl, b2⟩
  have B2 := below_on b1 (Nat.le_refl _) b2
  clear b1 b2
  go_wp2
  all_goals first | (exfalso; rename_i hq; simp at hq; omega) | skip
  go_ret
  exact ⟨rfl, B2⟩
set_option maxHeartbeats 2000000 in
theorem evenWhole_yes (T : Int) (m : Nat) (w : World) (h0 : 0 ≤ T) (h1 : T ≤ 1099511627776) (hm : 1 ≤ m) (hm2 : m ≤ 32) :
    Calls Try.prog 4 #[.int .i64 T, .int .i64 m] w fun e w' => e = .returned (.bool true) ∧ Below w.heap.size w w' := by
  have hc := (Shr.ecode_zero T (m : Int)).2 ⟨h0, h1, by omega, by omega⟩
  obtain ⟨xs, hxs⟩ : ∃ xs, (List.range m).map (Shr.evnAt T m) = xs := ⟨_, rfl⟩
  have hx : Shr.evn T (m : Int) = xs := by unfold Shr.evn; rw [if_pos hc, Int.toNat_natCast]; exact hxs
  have HX : Hid (Shr.evn T (m : Int) = xs ∧ Shr.ecode T (m : Int) = 0) := ⟨hx, hc⟩
  have hlen : xs.length = m := by rw [← hxs]; simp
  have hat : ∀ i, i < m → Shr.at' xs i = Shr.evnAt T m i := fun i hi => by rw [← hxs]; exact Shr.at_map m _ i hi
  have hsum : xs.sum = T := by rw [← hxs]; exact Shr.evn_sum T m hm
  have hall : ∀ i, 0 ≤ Shr.at' xs i ∧ Shr.at' xs i ≤ 2199023255552 := fun i => by
    by_cases hi : i < m
    · rw [hat i hi]
      have e1 := Shr.evn_bd T m h0 i
      have e2 := Shr.evn_le T m h0 i
      omega
    · unfold Shr.at'
      rw [List.getD_eq_getElem?_getD, List.getElem?_eq_none (by omega)]; decide
  have HF : Hid (∀ i, i < m → 0 ≤ Shr.at' xs i ∧ Shr.at' xs i ≤ Shr.at' xs 0 ∧ Shr.at' xs 0 - 1 ≤ Shr.at' xs i) := fun i hi => by
    rw [hat i hi, hat 0 (by omega)]; exact Shr.evn_bd T m h0 i
  have HG : Hid (∀ i, i + 1 < m → Shr.at' xs (i + 1) ≤ Shr.at' xs i) := fun i hi => by
    rw [hat i (by omega), hat (i + 1) hi]; exact Shr.evn_falls T m i
  have HA : Hid (∀ i, 0 ≤ Shr.at' xs i ∧ Shr.at' xs i ≤ 2199023255552) := hall
  have HS : Hid (xs.sum = T) := hsum
  have HL : Hid (xs.length = m) := hlen
  have hml : m ≤ xs.length := by omega
  have hlm : xs.length ≤ m := by omega
  have mz : ((xs.length : Int)) = (m : Int) := by omega
  clear hc hx hat hsum hall hxs hlen
  go_enter Try.func4, Try.ntmps4
  go_wp2_with fail
  refine (pEven_at T m xs 0 _ HX.out.1 HX.out.2).mono ?_; rintro e w1 ⟨a1, k1, rfl, r1, b1⟩
  go_wp2_with fail
  refine (hbegun_any _).mono ?_; rintro e w2 ⟨rfl, b2⟩
  replace r1 := r1.below b2
  have B2 := below_on b1 (Nat.le_refl _) b2
  have HB2 : Hid (Below w.heap.size w w2) := B2
  have HR : Hid (Row1 w2 a1 xs) := r1
  obtain ⟨b, off, rfl, -⟩ := row1_cells r1 (by omega)
  clear b1 b2 B2 r1
  go_wp2
  go_loopw [7] (fun iv wr => ∃ i : Nat, i ≤ m ∧ iv = .int .i64 i ∧ Below w2.heap.size w2 wr) (fun iv _ => m - (intOf iv).toNat)
  case atStart => exact ⟨0, Nat.zero_le _, rfl, Below.refl _ _⟩
  case round =>
    obtain ⟨i, hi, rfl, Bw⟩ := hrel
    have HBw : Hid (Below w2.heap.size w2 wr) := Bw
    have HRw : Hid (Row1 wr (some ⟨b, off, none⟩) xs) := HR.out.below Bw
    clear Bw
    by_cases hlt : i < m
    · obtain ⟨b', off', e', hcs⟩ := row1_cells HRw.out (by omega)
      obtain ⟨rfl, rfl⟩ : b = b' ∧ off = off' := by simpa using e'
      clear e'
      have ci := hcs i (by omega)
      have c0 := hcs 0 (by omega)
      rw [Nat.add_zero] at c0
      have f1 := HF.out i hlt
      have iz : (i : Int) < (m : Int) := by omega
      have di := cell_regrown ci
      have d0 := cell_regrown c0
      have hA := HA.out i
      have hA0 := HA.out 0
      by_cases hz : i = 0
      · subst hz
        clear hcs ci c0 di
        generalize Shr.at' xs 0 = x0 at *
        have e1 : decide (x0 < 0) = false := by simp; omega
        have e2 : decide (x0 < x0 - 1) = false := by simp; omega
        go_wp2_with fail
        refine wp_region_quiet_below (by kernel_rfl) (by kernel_rfl) ?_
        repeat go_big_quiet_step (fail)
        refine wpQuiet_nil ?_
        intro _ hw'
        obtain ⟨⟨dq, osq⟩, hw''⟩ := hw'
        subst hw''
        have B1 := below_regrown wr dq osq
        generalize grow (redrawn wr dq) osq = w4 at *
        go_wp2
        go_roundw
        case rel => exact ⟨1, by omega, rfl, below_on HBw.out (Nat.le_refl _) B1⟩
        case measure => simp [intOf]; omega
      · obtain ⟨ip, hip⟩ : ∃ ip, i = ip + 1 := ⟨i - 1, by omega⟩
        have cp := hcs ip (by omega)
        have dp := cell_regrown cp
        have f2 := HG.out ip (by omega)
        rw [← hip] at f2
        have ipz : (i : Int) - 1 = (ip : Int) := by omega
        have ipz2 : (ip : Int) < (m : Int) := by omega
        have i0 : (0 : Int) < (i : Int) := by omega
        have HIP : Hid (i = ip + 1) := hip
        have hAp := HA.out ip
        clear hcs ci c0 cp hip
        generalize Shr.at' xs 0 = x0 at *
        generalize Shr.at' xs i = xi at *
        generalize Shr.at' xs ip = xp at *
        have e1 : decide (x0 < xi) = false := by simp; omega
        have e2 : decide (xi < x0 - 1) = false := by simp; omega
        have e3 : decide (xp < xi) = false := by simp; omega
        have e4 : decide (xi < 0) = false := by simp; omega
        have e5 : decide ((0 : Int) < (i : Int)) = true := by simp; omega
        have e6 : decide (0 < i) = true := by simp; omega
        go_wp2_with fail
        refine wp_region_quiet_below (by kernel_rfl) (by kernel_rfl) ?_
        repeat go_big_quiet_step (fail)
        refine wpQuiet_nil ?_
        intro _ hw'
        obtain ⟨⟨dq, osq⟩, hw''⟩ := hw'
        subst hw''
        have B1 := below_regrown wr dq osq
        generalize grow (redrawn wr dq) osq = w4 at *
        go_wp2
        go_roundw
        case rel => exact ⟨i + 1, by omega, by go_num, below_on HBw.out (Nat.le_refl _) B1⟩
        case measure => simp [intOf]; omega
    · obtain rfl : i = m := by omega
      go_wp2_with fail
      refine (total_any xs _ _ _ (by omega) HA.out HRw.out).mono ?_; rintro e w5 ⟨rfl, rfl⟩
      rw [HS.out]
      go_wp2
      go_ret
      exact ⟨rfl, below_on HB2.out (Nat.le_refl _) HBw.out⟩
theorem evenWhole_any (T m : Int) (w : World) :
    Calls Try.prog 4 #[.int .i64 T, .int .i64 m] w fun e w' => e = .returned (.bool true) ∧ Below w.heap.size w w' := by
  by_cases h : 0 ≤ T ∧ T ≤ 1099511627776 ∧ 1 ≤ m ∧ m ≤ 32
  · obtain ⟨k, rfl⟩ := Int.eq_ofNat_of_zero_le (show 0 ≤ m by omega)
    exact evenWhole_yes T k w h.1 h.2.1 (by omega) (by omega)
  · exact evenWhole_no T m 3 w (Shr.ecode_three T m h) (by decide) (by decide) (by decide)
end Go.Proofs.Ythbobmanicnplaa
