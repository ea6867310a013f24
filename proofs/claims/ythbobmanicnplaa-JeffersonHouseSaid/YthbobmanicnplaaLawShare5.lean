/- The walk of JeffersonHouse: it answers true, whatever it is handed. -/
import Derived.Test.YthbobmanicnplaaLawShare3
namespace Go.Proofs.Ythbobmanicnplaa
open Go.RowKit Go.BigFrame Go.Sort

/-- what Jefferson answers, said of the list alone -/
structure JefL (T : Int) (l xs : List Int) : Prop where
  eq : Shr.jeff T l = xs
  len : xs.length = l.length
  bd : ∀ i, 0 ≤ Shr.at' xs i ∧ Shr.at' xs i ≤ 100000
  sum : xs.sum = T
  best : ∀ i k, i < l.length → k < l.length → 0 < Shr.at' xs i → Shr.at' l k * Shr.at' xs i ≤ Shr.at' l i * (Shr.at' xs k + 1)
  quota : ∀ i, i < l.length → T * Shr.at' l i < (Shr.at' xs i + 1) * l.sum
theorem jefL (T : Int) (l : List Int) (h : Shr.code T l = 0) : ∃ xs, JefL T l xs := by
  have ok := Shr.ok_of T l h
  obtain ⟨t, rfl⟩ := Int.eq_ofNat_of_zero_le ok.t0
  have hat : ∀ i, i < l.length → Shr.at' ((List.range l.length).map (Shr.jef (Shr.at' l) l.length t)) i = Shr.jef (Shr.at' l) l.length t i := fun i hi => Shr.at_map _ _ i hi
  have hW : ∀ i, 0 ≤ Shr.at' l i := fun i => (ok.get i).1
  have hS := ok.sum
  rw [Shr.sum_at] at hS
  refine ⟨(List.range l.length).map (Shr.jef (Shr.at' l) l.length t), by unfold Shr.jeff; rw [if_pos h]; rfl, by simp, ?_, ?_, fun i k hi hk h0 => ?_, fun i hi => ?_⟩
  · exact at_bd _ _ _ (by decide) (fun i hi => by have := Shr.jef_bd (Shr.at' l) l.length t i; have := ok.t1; omega)
  · exact Shr.jef_sum (Shr.at' l) l.length t ok.n0
  · rw [hat i hi] at h0
    rw [hat i hi, hat k hk]; exact Shr.jef_best (Shr.at' l) l.length hW t i k hi hk h0
  · rw [hat i hi, Shr.sum_at]; exact Shr.jef_quota (Shr.at' l) l.length hW t i hi hS
/-- of one more just one has one more -/
theorem jef_more (T : Int) (l xs ys : List Int) (h : Shr.code T l = 0) (h1 : JefL T l xs) (h2 : JefL (T + 1) l ys) : ∃ b, b < l.length ∧ ∀ i, i < l.length → Shr.at' ys i = Shr.at' xs i + if i = b then 1 else 0 := by
  have ok := Shr.ok_of T l h
  obtain ⟨t, rfl⟩ := Int.eq_ofNat_of_zero_le ok.t0
  have hc2 : Shr.code ((t : Int) + 1) l = 0 := by
    by_cases c : Shr.code ((t : Int) + 1) l = 0
    · exact c
    · exfalso
      have e := h2.eq
      rw [jeff_nil _ _ c] at e
      have := h2.len
      rw [← e] at this
      have := ok.n0
      simp at *
      omega
  have e1 := h1.eq
  have e2 := h2.eq
  unfold Shr.jeff at e1 e2
  rw [if_pos h] at e1
  rw [if_pos hc2] at e2
  have et : ((t : Int) + 1).toNat = t + 1 := by omega
  rw [et] at e2
  rw [Int.toNat_natCast] at e1
  refine ⟨Shr.jn (Shr.at' l) (Shr.jef (Shr.at' l) l.length t) l.length, Shr.jn_bd _ _ _ ok.n0, fun i hi => ?_⟩
  rw [← e1, ← e2, Shr.at_map _ _ i hi, Shr.at_map _ _ i hi, Shr.jef_succ]
  unfold Shr.inc
  split <;> simp
theorem code_more (T : Int) (l : List Int) (h : Shr.code T l = 0) (hT : T < 100000) : Shr.code (T + 1) l = 0 := by
  have ok := Shr.ok_of T l h
  unfold Shr.code
  rw [if_neg (by have := ok.len; omega), if_neg (by have := ok.t0; omega), if_neg (by simp [ok.bad]), if_neg (by have := ok.sum; omega)]
set_option maxHeartbeats 1000000 in
theorem jefHouse_no (T : Int) (l : List Int) (a : Option Addr) (cap : Nat) (c : Int) (w : World) (hl : l.length ≤ maxLen) (hc : Shr.code T l = c) (hn : c ≠ 0) (hr : Row1 w a l) :
    Calls Try.prog 7 #[.int .i64 T, .slice a l.length cap] w fun e w' => e = .returned (.bool true) ∧ Below w.heap.size w w' := by
  have hb := Shr.code_bd T l
  have HX : Hid (Shr.jeff T l = []) := jeff_nil T l (by rw [hc]; exact hn)
  rw [hc] at hb
  have HC : Hid (Shr.code T l = c) := hc
  have hc0 : 0 < c := by omega
  clear hc hn
  go_enter Try.func7, Try.ntmps7
  go_wp2_with fail
  refine (pJeff_at T l _ _ [] c _ hl hr HX.out HC.out).mono ?_; rintro e w1 ⟨a1, k1, rfl, r1, b1⟩
  go_wp2_with fail
  refine (hbegun_any _).mono ?_; rintro e w2 ⟨rfl, b2⟩
  have B2 := below_on b1 (Nat.le_refl _) b2
  clear b1 b2
  go_wp2
  all_goals first | (exfalso; rename_i hq; simp at hq; omega) | skip
  go_ret
  exact ⟨rfl, B2⟩
set_option maxHeartbeats 2000000 in
theorem jefHouse_yes (T : Int) (l : List Int) (a : Option Addr) (cap : Nat) (xs : List Int) (w : World) (ok : Shr.Ok T l) (hc : Shr.code T l = 0) (H : JefL T l xs) (hr : Row1 w a l) :
    Calls Try.prog 7 #[.int .i64 T, .slice a l.length cap] w fun e w' => e = .returned (.bool true) ∧ Below w.heap.size w w' := by
  have hl := ok.len
  have hn0 := ok.n0
  have ht0 := ok.t0
  have ht1 := ok.t1
  have hml : l.length ≤ maxLen := by unfold maxLen; omega
  have HC : Hid (Shr.code T l = 0) := hc
  have HH : Hid (JefL T l xs) := H
  have mz : ((xs.length : Int)) = (l.length : Int) := by have := H.len; omega
  have mz1 : xs.length ≤ l.length := by have := H.len; omega
  have mz2 : l.length ≤ xs.length := by have := H.len; omega
  clear hc H ok
  go_enter Try.func7, Try.ntmps7
  go_wp2_with fail
  refine (pJeff_at T l _ _ xs 0 _ hml hr HH.out.eq HC.out).mono ?_; rintro e w1 ⟨a1, k1, rfl, r1, b1⟩
  have h1 := hr.below b1
  go_wp2_with fail
  refine (hbegun_any _).mono ?_; rintro e w2 ⟨rfl, b2⟩
  have B2 := below_on b1 (Nat.le_refl _) b2
  replace r1 := r1.below b2
  have h2 := h1.below b2
  clear b1 b2 h1 hr
  go_wp2_with fail
  refine (total_any xs _ _ _ (by omega) (fun i => by have := HH.out.bd i; omega) r1).mono ?_; rintro e w3 ⟨rfl, rfl⟩
  rw [HH.out.sum]
  by_cases hT : T = 100000
  · have hT' : (T == 100000) = true := by simpa using hT
    clear hT
    go_wp2
    go_ret
    exact ⟨rfl, B2⟩
  · have hT' : (T == 100000) = false := by simpa using hT
    have hT1 : T < 100000 := by omega
    have hc2 := code_more T l HC.out hT1
    obtain ⟨ys, hys⟩ := jefL (T + 1) l hc2
    obtain ⟨bb, hbb, hmore⟩ := jef_more T l xs ys HC.out HH.out hys
    have HC2 : Hid (Shr.code (T + 1) l = 0) := hc2
    have HY : Hid (JefL (T + 1) l ys) := hys
    have HM : Hid (∀ i, i < l.length → Shr.at' ys i = Shr.at' xs i + if i = bb then 1 else 0) := hmore
    have yz : ((ys.length : Int)) = (l.length : Int) := by have := hys.len; omega
    have yz1 : ys.length ≤ l.length := by have := hys.len; omega
    have yz2 : l.length ≤ ys.length := by have := hys.len; omega
    clear hT hc2 hys hmore
    go_wp2_with fail
    refine (pJeff_at (T + 1) l _ _ ys 0 _ hml h2 HY.out.eq HC2.out).mono ?_; rintro e w4 ⟨a4, k4, rfl, r4, b4⟩
    replace r1 := r1.below b4
    have B4 := below_on B2 (Nat.le_refl _) b4
    obtain ⟨bx, ox, rfl, -⟩ := row1_cells r1 (by omega)
    obtain ⟨bv, ov, rfl, -⟩ := row1_cells r4 (by omega)
    have HRX : Hid (Row1 w4 (some ⟨bx, ox, none⟩) xs) := r1
    have HRY : Hid (Row1 w4 (some ⟨bv, ov, none⟩) ys) := r4
    have HB4 : Hid (Below w.heap.size w w4) := B4
    clear r1 r4 B4 b4 h2 B2
    go_wp2
    go_loopw [9, 10] (fun mv iv wr => ∃ i : Nat, i ≤ l.length ∧ iv = .int .i64 i ∧ mv = .int .i64 (if bb < i then 1 else 0) ∧ Below w4.heap.size w4 wr) (fun _ iv _ => l.length - (intOf iv).toNat)
    case atStart => exact ⟨0, Nat.zero_le _, rfl, rfl, Below.refl _ _⟩
    case round =>
      obtain ⟨i, hi, rfl, rfl, Bw⟩ := hrel
      have HBw : Hid (Below w4.heap.size w4 wr) := Bw
      have HX1 : Hid (Row1 wr (some ⟨bx, ox, none⟩) xs) := HRX.out.below Bw
      have HY1 : Hid (Row1 wr (some ⟨bv, ov, none⟩) ys) := HRY.out.below Bw
      clear Bw
      by_cases hlt : i < l.length
      · obtain ⟨b', o', e', -, -, cx⟩ := HX1.out.get (k := i) (by omega)
        obtain ⟨rfl, rfl⟩ : bx = b' ∧ ox = o' := by simpa using e'
        clear e'
        obtain ⟨b', o', e', -, -, cy⟩ := HY1.out.get (k := i) (by omega)
        obtain ⟨rfl, rfl⟩ : bv = b' ∧ ov = o' := by simpa using e'
        clear e'
        have hm := HM.out i hlt
        have hx := HH.out.bd i
        have hy := HY.out.bd i
        have iz : (i : Int) < (l.length : Int) := by omega
        have izx : (i : Int) < (xs.length : Int) := by omega
        have izy : (i : Int) < (ys.length : Int) := by omega
        obtain ⟨m0, hm0⟩ : ∃ m0 : Int, m0 = if bb < i then 1 else 0 := ⟨_, rfl⟩
        have hm1 : 0 ≤ m0 ∧ m0 ≤ 1 := by rw [hm0]; split <;> omega
        have HM0 : Hid (m0 + (Shr.at' ys i - Shr.at' xs i) = if bb < i + 1 then 1 else 0) := by
          show _ = _
          rw [hm, hm0]
          repeat' split
          all_goals omega
        have hd : Shr.at' xs i ≤ Shr.at' ys i ∧ Shr.at' ys i ≤ Shr.at' xs i + 1 := by
          rw [hm]
          split <;> omega
        rw [← hm0]
        clear hm hm0
        generalize Shr.at' xs i = xi at *
        generalize Shr.at' ys i = yi at *
        have e1 : decide (yi < xi) = false := by simp; omega
        have e2 : decide (xi + 1 < yi) = false := by simp; omega
        have HCX : Hid (wr.cell? ⟨bx, ox + i, none⟩ = some (.int .i64 xi)) := cx
        have HCY : Hid (wr.cell? ⟨bv, ov + i, none⟩ = some (.int .i64 yi)) := cy
        have dx := cell_regrown cx
        have dy := cell_regrown cy
        clear cx cy
        go_wp2_with fail
        refine wp_region_quiet_below (by kernel_rfl) (by kernel_rfl) ?_
        repeat go_big_quiet_step (fail)
        refine wpQuiet_nil ?_
        intro _ hw'
        obtain ⟨⟨dq, osq⟩, hw''⟩ := hw'
        subst hw''
        have B1 := below_regrown wr dq osq
        have cx2 := dx dq osq
        have cy2 := dy dq osq
        generalize grow (redrawn wr dq) osq = w5 at *
        clear dx dy
        have dx := cell_regrown cx2
        have dy := cell_regrown cy2
        clear cx2 cy2
        go_wp2_with fail
        refine wp_region_quiet_below (by kernel_rfl) (by kernel_rfl) ?_
        repeat go_big_quiet_step (fail)
        refine wpQuiet_nil ?_
        intro _ hw'
        obtain ⟨⟨dp, osp⟩, hw''⟩ := hw'
        subst hw''
        have B6 := below_regrown w5 dp osp
        generalize grow (redrawn w5 dp) osp = w6 at *
        go_wp2
        go_roundw
        case rel => exact ⟨i + 1, by omega, by go_num, by rw [← HM0.out], below_on (below_on HBw.out (Nat.le_refl _) B1) (Nat.le_refl _) B6⟩
        case measure => simp [intOf]; omega
      · obtain rfl : i = l.length := by omega
        rw [if_pos hbb]
        go_wp2
        go_ret
        exact ⟨rfl, below_on HB4.out (Nat.le_refl _) HBw.out⟩
theorem jeffersonHouse_any (T : Int) (l : List Int) (a : Option Addr) (cap : Nat) (w : World) (hl : l.length ≤ maxLen) (hr : Row1 w a l) :
    Calls Try.prog 7 #[.int .i64 T, .slice a l.length cap] w fun e w' => e = .returned (.bool true) ∧ Below w.heap.size w w' := by
  by_cases h : Shr.code T l = 0
  · obtain ⟨xs, H⟩ := jefL T l h
    exact jefHouse_yes T l a cap xs w (Shr.ok_of T l h) h H hr
  · exact jefHouse_no T l a cap _ w hl rfl h hr
end Go.Proofs.Ythbobmanicnplaa
