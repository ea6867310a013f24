/- The reference's terms: Nth and Find. -/
import Derived.Test.YthojffiajlpneaaDoorTRef
namespace Go.Proofs.YthojffiajlpneaaDoor
open Go.RowKit

set_option maxHeartbeats 1000000 in
theorem refNth_bad (s u n k c : Int) (w : World) (h : Trm.bad u n s k 1000 = c) (hc : c ≠ 0) :
    Calls Tryd.prog 11 #[.int .i64 s, .agg #[.int .i64 u, .int .i64 n], .int .i64 k] w fun e w' => e = .returned (.tuple #[.int .i64 0, .int .i64 c]) ∧ Below w.heap.size w w' := by
  have hc1 : (c != 0) = true := by simpa using hc
  have hc2 : (c == 0) = false := by simpa using hc
  rcases bad_cases u n s k 1000 c h hc with g | ⟨g, rfl, g2⟩ | ⟨g, rfl, g2, g3, g4⟩
  · have G : Hid (_) := g
    clear g h hc
    go_enter Tryd.func11, Tryd.ntmps11
    go_wp2_with fail
    refine (refTCheck_at _ _ _ _ G.out).mono ?_; rintro e w1 ⟨rfl, b1⟩
    go_wp2_with fail
    go_ret2
    exact ⟨rfl, below_next (below_box _ _) (Nat.le_refl _) b1⟩
  · have G : Hid (_) := g
    have G2 : Hid (_) := g2
    clear g g2 h hc
    go_enter Tryd.func11, Tryd.ntmps11
    go_wp2_with fail
    refine (refTCheck_at _ _ _ _ G.out).mono ?_; rintro e w1 ⟨rfl, b1⟩
    go_wp2_with (go_at_call 26; refine (noDay_yes _ _ G2.out).mono ?_; rintro e w' ⟨rfl, rfl⟩)
    go_ret2
    exact ⟨rfl, below_next (below_box _ _) (Nat.le_refl _) b1⟩
  · have G : Hid (_) := g
    clear g h hc
    rcases (show k < 0 ∨ (¬ k < 0 ∧ 1000 < k) by omega) with g5 | ⟨g5, g6⟩
    · clear g4
      go_enter Tryd.func11, Tryd.ntmps11
      go_wp2_with fail
      refine (refTCheck_at _ _ _ _ G.out).mono ?_; rintro e w1 ⟨rfl, b1⟩
      go_wp2_with (go_at_call 26; refine (noDay_no _ _ g2 g3).mono ?_; rintro e w' ⟨rfl, rfl⟩)
      go_ret2
      exact ⟨rfl, below_next (below_box _ _) (Nat.le_refl _) b1⟩
    · clear g4
      have g5' : decide (k < 0) = false := by simpa using g5
      go_enter Tryd.func11, Tryd.ntmps11
      go_wp2_with fail
      refine (refTCheck_at _ _ _ _ G.out).mono ?_; rintro e w1 ⟨rfl, b1⟩
      go_wp2_with (go_at_call 26; refine (noDay_no _ _ g2 g3).mono ?_; rintro e w' ⟨rfl, rfl⟩)
      go_ret2
      exact ⟨rfl, below_next (below_box _ _) (Nat.le_refl _) b1⟩
set_option maxHeartbeats 1000000 in
theorem refNth_ok (s y m d u n k x c : Int) (w : World) (hv : Cal.vld y m d) (hs : Cal.num y m d = s) (hu1 : 1 ≤ u) (hu2 : u ≤ 4) (hn1 : 1 ≤ n) (hn2 : n ≤ 120) (hk1 : 0 ≤ k) (hk2 : k ≤ 1000) (hx : Trm.day y m d u n k = x) (hc : Trm.over x = c) :
    Calls Tryd.prog 11 #[.int .i64 s, .agg #[.int .i64 u, .int .i64 n], .int .i64 k] w fun e w' => e = .returned (.tuple #[.int .i64 x, .int .i64 c]) ∧ Below w.heap.size w w' := by
  have hi := Cal.num_in y m d hv
  rw [hs] at hi
  have G : Hid (Trm.chk u n = 0) := Trm.chk_ok u n hu1 hu2 hn1 hn2
  have HV : Hid (Cal.vld y m d ∧ Cal.num y m d = s ∧ Trm.day y m d u n k = x) := ⟨hv, hs, hx⟩
  have hk3 : decide (k < 0) = false := by simp; omega
  have hk4 : decide (1000 < k) = false := by simp; omega
  clear hv hs hx
  by_cases h0 : x = 0
  · have hc' : c = 8 := by rw [← hc, h0]; rfl
    subst hc' h0
    clear hc
    go_enter Tryd.func11, Tryd.ntmps11
    go_wp2_with fail
    refine (refTCheck_at _ _ _ _ G.out).mono ?_; rintro e w1 ⟨rfl, b1⟩
    have HB : Hid (_) := below_next (below_box w _) (Nat.le_refl _) b1
    have c0 := (bcell b1).1 w.heap.size 0 (by simp)
    have c1 := (bcell b1).1 w.heap.size 1 (by simp)
    rw [(has2_new w u n 23).1] at c0
    rw [(has2_new w u n 23).2] at c1
    clear b1
    go_wp2_with (first
      | (go_at_call 26; refine (noDay_no _ _ hi.1 hi.2).mono ?_; rintro e w' ⟨rfl, rfl⟩)
      | (go_at_call 27; refine (refTermDay_at _ y m d _ _ _ 0 _ HV.out.1 HV.out.2.1 hu1 hu2 hn1 hn2 hk1 (by omega) HV.out.2.2).mono ?_; rintro e w2 ⟨rfl, b2⟩))
    go_ret2
    exact ⟨rfl, below_next HB.out (Nat.le_refl _) b2⟩
  · have hc' : c = 0 := by rw [← hc]; unfold Trm.over; rw [if_neg h0]
    subst hc'
    have h0' : (x == 0) = false := by simpa using h0
    clear hc h0
    go_enter Tryd.func11, Tryd.ntmps11
    go_wp2_with fail
    refine (refTCheck_at _ _ _ _ G.out).mono ?_; rintro e w1 ⟨rfl, b1⟩
    have HB : Hid (_) := below_next (below_box w _) (Nat.le_refl _) b1
    have c0 := (bcell b1).1 w.heap.size 0 (by simp)
    have c1 := (bcell b1).1 w.heap.size 1 (by simp)
    rw [(has2_new w u n 23).1] at c0
    rw [(has2_new w u n 23).2] at c1
    clear b1
    go_wp2_with (first
      | (go_at_call 26; refine (noDay_no _ _ hi.1 hi.2).mono ?_; rintro e w' ⟨rfl, rfl⟩)
      | (go_at_call 27; refine (refTermDay_at _ y m d _ _ _ x _ HV.out.1 HV.out.2.1 hu1 hu2 hn1 hn2 hk1 (by omega) HV.out.2.2).mono ?_; rintro e w2 ⟨rfl, b2⟩))
    go_ret2
    exact ⟨rfl, below_next HB.out (Nat.le_refl _) b2⟩
set_option maxHeartbeats 1000000 in
theorem refFind_bad (s u n N c : Int) (w : World) (h : Trm.fbad u n s N = c) (hc : c ≠ 0) :
    Calls Tryd.prog 12 #[.int .i64 s, .agg #[.int .i64 u, .int .i64 n], .int .i64 N] w fun e w' => e = .returned (.tuple #[.int .i64 0, .int .i64 c]) ∧ Below w.heap.size w w' := by
  have hc1 : (c != 0) = true := by simpa using hc
  have hc2 : (c == 0) = false := by simpa using hc
  rcases Trm.fbad_cases u n s N c h hc with g | ⟨g, rfl, g2⟩ | ⟨g, rfl, g2, g3, g4⟩ | ⟨g, rfl, g2, g3, g4, g5, g6⟩
  · have G : Hid (_) := g
    clear g h hc
    go_enter Tryd.func12, Tryd.ntmps12
    go_wp2_with fail
    refine (refTCheck_at _ _ _ _ G.out).mono ?_; rintro e w1 ⟨rfl, b1⟩
    go_wp2_with fail
    go_ret2
    exact ⟨rfl, below_next (below_box _ _) (Nat.le_refl _) b1⟩
  · have G : Hid (_) := g
    have G2 : Hid (_) := g2
    clear g g2 h hc
    go_enter Tryd.func12, Tryd.ntmps12
    go_wp2_with fail
    refine (refTCheck_at _ _ _ _ G.out).mono ?_; rintro e w1 ⟨rfl, b1⟩
    go_wp2_with (go_at_call 26; refine (noDay_yes _ _ G2.out).mono ?_; rintro e w' ⟨rfl, rfl⟩)
    go_ret2
    exact ⟨rfl, below_next (below_box _ _) (Nat.le_refl _) b1⟩
  · have G : Hid (_) := g
    have G4 : Hid (_) := g4
    clear g g4 h hc
    go_enter Tryd.func12, Tryd.ntmps12
    go_wp2_with fail
    refine (refTCheck_at _ _ _ _ G.out).mono ?_; rintro e w1 ⟨rfl, b1⟩
    go_wp2_with (first
      | (go_at_call 26; refine (noDay_no _ _ (by omega) (by omega)).mono ?_; rintro e w' ⟨rfl, rfl⟩)
      | (go_at_call 26; refine (noDay_yes _ _ G4.out).mono ?_; rintro e w' ⟨rfl, rfl⟩))
    go_ret2
    exact ⟨rfl, below_next (below_box _ _) (Nat.le_refl _) b1⟩
  · have G : Hid (_) := g
    clear g h hc
    go_enter Tryd.func12, Tryd.ntmps12
    go_wp2_with fail
    refine (refTCheck_at _ _ _ _ G.out).mono ?_; rintro e w1 ⟨rfl, b1⟩
    go_wp2_with (go_at_call 26; refine (noDay_no _ _ (by omega) (by omega)).mono ?_; rintro e w' ⟨rfl, rfl⟩)
    go_ret2
    exact ⟨rfl, below_next (below_box _ _) (Nat.le_refl _) b1⟩
set_option maxHeartbeats 1000000 in
theorem refFind_ok (s y m d u n N x c : Int) (K : Nat) (w : World) (hv : Cal.vld y m d) (hs : Cal.num y m d = s) (hu1 : 1 ≤ u) (hu2 : u ≤ 4) (hn1 : 1 ≤ n) (hn2 : n ≤ 120) (hN1 : s ≤ N) (hN2 : N ≤ 3652059)
    (hK : K ≤ 1001) (k1 : ∀ t, t < K → Trm.ends y m d u n N t = false) (k2 : ∀ t, K ≤ t → t < 1001 → Trm.ends y m d u n N t = true) (hx : (K ≤ 1000 ∧ x = K ∧ c = 0) ∨ (1000 < K ∧ x = 0 ∧ c = 2)) :
    Calls Tryd.prog 12 #[.int .i64 s, .agg #[.int .i64 u, .int .i64 n], .int .i64 N] w fun e w' => e = .returned (.tuple #[.int .i64 x, .int .i64 c]) ∧ Below w.heap.size w w' := by
  have hi := Cal.num_in y m d hv
  rw [hs] at hi
  have G : Hid (Trm.chk u n = 0) := Trm.chk_ok u n hu1 hu2 hn1 hn2
  have KK : Hid (_) := And.intro k1 k2
  have HV : Hid (_) := And.intro hv hs
  have HX : Hid (_) := hx
  have hNs : decide (N < s) = false := by simp; omega
  have hN0 : 1 ≤ N := by omega
  clear k1 k2 hv hs hx
  go_enter Tryd.func12, Tryd.ntmps12
  go_wp2_with fail
  refine (refTCheck_at _ _ _ _ G.out).mono ?_; rintro e w1 ⟨rfl, b1⟩
  have B1 : Hid (Below w.heap.size w w1) := below_next (below_box w _) (Nat.le_refl _) b1
  have c0 := (bcell b1).1 w.heap.size 0 (by simp)
  have c1 := (bcell b1).1 w.heap.size 1 (by simp)
  rw [(has2_new w u n 23).1] at c0
  rw [(has2_new w u n 23).2] at c1
  have Z1 : w.heap.size < w1.heap.size := by have := b1.size; simp at this; omega
  have C : Hid (w.heap.size < w1.heap.size ∧ w1.cell? ⟨w.heap.size, 0, none⟩ = some (.int .i64 u) ∧ w1.cell? ⟨w.heap.size, 1, none⟩ = some (.int .i64 n)) := ⟨Z1, c0, c1⟩
  clear b1 c0 c1 Z1
  go_wp2_with (go_at_call 26; refine (noDay_no _ _ (by omega) (by omega)).mono ?_; rintro e w' ⟨rfl, rfl⟩)
  go_loopw [9] (fun i wr => ∃ k : Nat, k ≤ K ∧ i = .int .i64 k ∧ Hid (w.heap.size < wr.heap.size ∧ wr.cell? ⟨w.heap.size, 0, none⟩ = some (.int .i64 u) ∧ wr.cell? ⟨w.heap.size, 1, none⟩ = some (.int .i64 n)) ∧ Hid (Below w.heap.size w wr)) (fun i _ => 1001 - (intOf i).toNat)
  case atStart => exact ⟨0, Nat.zero_le _, rfl, C, B1⟩
  case round =>
    obtain ⟨k, hk, rfl, CC, BB⟩ := hrel
    clear C B1
    by_cases hlt : k ≤ 1000
    · have hlt' : (k : Int) ≤ 1000 := by omega
      obtain ⟨q, hq⟩ : ∃ q, Trm.day y m d u n (k + 1) = q := ⟨_, rfl⟩
      have HQ : Hid (_) := hq
      have HE : Hid (Trm.ends y m d u n N k = decide (q = 0 ∨ N < q)) := by unfold Hid Trm.ends; rw [hq]
      clear hq
      obtain ⟨z, c0, c1⟩ := CC.out
      have hstep : ∀ {w2 : World}, Below wr.heap.size wr w2 → Hid (w.heap.size < w2.heap.size ∧ w2.cell? ⟨w.heap.size, 0, none⟩ = some (.int .i64 u) ∧ w2.cell? ⟨w.heap.size, 1, none⟩ = some (.int .i64 n)) ∧ Hid (Below w.heap.size w w2) := fun b2 =>
        ⟨⟨Nat.lt_of_lt_of_le CC.out.1 b2.size, by rw [(bcell b2).1 _ _ CC.out.1]; exact CC.out.2.1, by rw [(bcell b2).1 _ _ CC.out.1]; exact CC.out.2.2⟩, below_next BB.out (Nat.le_refl _) b2⟩
      have HST : Hid (_) := @hstep
      clear hstep z
      by_cases hkK : k = K
      · have he := KK.out.2 k (by omega) (by omega)
        rw [HE.out, decide_eq_true_eq] at he
        have HXK : Hid (x = k ∧ c = 0) := by
          unfold Hid
          rcases HX.out with ⟨a1, a2, a3⟩ | ⟨a1, a2, a3⟩
          · exact ⟨by omega, a3⟩
          · omega
        clear hkK
        by_cases h0 : q = 0
        · subst h0
          clear he
          go_wp2_with (go_at_call 27; refine (refTermDay_at _ y m d _ _ _ 0 _ HV.out.1 HV.out.2 hu1 hu2 hn1 hn2 (by omega) (by omega) HQ.out).mono ?_; rintro e w2 ⟨rfl, b2⟩)
          go_ret2
          obtain ⟨rfl, rfl⟩ := HXK.out
          exact ⟨rfl, (HST.out b2).2⟩
        · have h1 : N < q := by omega
          have h0' : (q == 0) = false := by simpa using h0
          clear he h0
          go_wp2_with (go_at_call 27; refine (refTermDay_at _ y m d _ _ _ q _ HV.out.1 HV.out.2 hu1 hu2 hn1 hn2 (by omega) (by omega) HQ.out).mono ?_; rintro e w2 ⟨rfl, b2⟩)
          go_ret2
          obtain ⟨rfl, rfl⟩ := HXK.out
          exact ⟨rfl, (HST.out b2).2⟩
      · have he := KK.out.1 k (by omega)
        rw [HE.out, decide_eq_false_iff_not] at he
        have h0' : (q == 0) = false := by simp; omega
        have h1 : ¬ N < q := by omega
        clear he
        go_wp2_with (go_at_call 27; refine (refTermDay_at _ y m d _ _ _ q _ HV.out.1 HV.out.2 hu1 hu2 hn1 hn2 (by omega) (by omega) HQ.out).mono ?_; rintro e w2 ⟨rfl, b2⟩)
        have HR := HST.out b2
        clear b2
        go_roundw
        case rel => exact ⟨k + 1, by omega, by go_num, HR.1, HR.2⟩
        case measure => simp [intOf]; omega
    · have HXK : Hid (x = 0 ∧ c = 2) := by
        unfold Hid
        rcases HX.out with ⟨a1, a2, a3⟩ | ⟨a1, a2, a3⟩
        · omega
        · exact ⟨a2, a3⟩
      go_wp2
      go_ret2
      obtain ⟨rfl, rfl⟩ := HXK.out
      exact ⟨rfl, BB.out⟩
end Go.Proofs.YthojffiajlpneaaDoor
