/- The law MendTells of fares: walked. -/
import Derived.Test.YtcaibonnkfhkmaaFBeg2
import Derived.Test.YtcaibonnkfhkmaaFRm
namespace Go.Proofs.Ytcaibonnkfhkmaa
open Go.RowKit

theorem mend_is {f : List (List Int)} : outF f.length (Fr.cv (Fr.pr f) f.length) = Fr.mend f := rfl
theorem mend_small {f : List (List Int)} (h : f.length ≤ 6) : ∀ r ∈ Fr.mend f, r.length ≤ maxLen := by
  intro r hr
  unfold Fr.mend at hr
  obtain ⟨a, _, rfl⟩ := List.mem_map.1 hr
  simp
  unfold maxLen
  omega
set_option maxRecDepth 100000 in
set_option maxHeartbeats 800000 in
theorem mendTells_any (f : List (List Int)) (ad : Option Addr) (cap : Nat) (w : World) (hl : f.length ≤ maxLen) (hm : Mat w ad f) :
    Calls Try.prog 4 #[.slice ad f.length cap] w fun e w' => e = .returned (.bool true) ∧ Below w.heap.size w w' := by
  by_cases hc : Fr.chk f = 0
  · obtain ⟨hn1, hn6, hs, hP⟩ := Fr.chk_zero hc
    have M1 := mend_ok ad cap w hl hm hc
    have HM2 : Hid (∀ W, Below w.heap.size w W → Calls Try.prog 17 #[.slice ad f.length cap] W fun e w' => ∃ v, e = .returned (.tuple #[v, .int .i64 0]) ∧ OwnM w' W.heap.size v (Fr.mend f) ∧ Below W.heap.size W w') := fun W h => refMend_ok ad cap W hl (hm.below h) hc
    have HMS : Hid (∀ r ∈ Fr.mend f, r.length ≤ maxLen) := mend_small hn6
    have HLE : Hid ((Fr.mend f).length = f.length) := Fr.mend_length f
    have HOM : Hid (∀ W b R, Out W b f.length R (Fr.cv (Fr.pr f) f.length) → Mat W (some ⟨b, 0, none⟩) (Fr.mend f)) := fun W b R h => h.mat (by omega)
    generalize Fr.cv (Fr.pr f) f.length = M at *
    generalize Fr.mend f = g at *
    have HL : Hid (f.length ≤ maxLen) := hl
    generalize f.length = n at *
    clear hm hs hP hc hl
    go_enter Try.func4, Try.ntmps4
    go_wp2_with fail
    refine M1.mono ?_; rintro e W1 ⟨rfl, hO, hB1⟩
    have HB1 : Hid (Below w.heap.size w W1) := hB1
    have HO1 : Hid (Mat W1 (some ⟨w.heap.size + 1, 0, none⟩) g) := HOM.out _ _ _ hO
    clear hO hB1
    go_wp2_with fail
    refine (HM2.out W1 HB1.out).mono ?_; rintro e W2 ⟨v, rfl, hO, hB2⟩
    obtain ⟨a2, c2, rfl, hX⟩ := hO.mat HMS.out
    rw [HLE.out]
    have HB2 : Hid (Below w.heap.size w W2) := below_on HB1.out (Nat.le_refl _) hB2
    have HX2 : Hid (Mat W2 a2 g) := hX
    have HO2 : Hid (Mat W2 (some ⟨w.heap.size + 1, 0, none⟩) g) := HO1.out.below hB2
    clear hO hX hB2
    go_wp2_with fail
    refine (fareBegun_any W2).mono ?_; rintro e W3 ⟨rfl, hB3⟩
    have HB3 : Hid (Below w.heap.size w W3) := below_on HB2.out (Nat.le_refl _) hB3
    have S := sameFares_any g g (some ⟨w.heap.size + 1, 0, none⟩) a2 n c2 W3 (by rw [HLE.out]; exact HL.out) (by rw [HLE.out]; exact HL.out) (HO2.out.below hB3) (HX2.out.below hB3)
    rw [HLE.out, show decide (g = g) = true from decide_eq_true rfl] at S
    clear hB3
    go_wp2_with fail
    refine S.mono ?_; rintro e W4 ⟨rfl, hq⟩
    have HB4 : Hid (Below w.heap.size w W4) := by obtain ⟨q, h⟩ := hq; show Below _ _ _; rw [h]; exact below_drewN HB3.out q
    clear hq
    go_wp2
    go_ret
    exact ⟨rfl, HB4.out⟩
  · have M1 := mend_bad ad cap w hl hm hc
    have HM2 : Hid (∀ W, Below w.heap.size w W → Calls Try.prog 17 #[.slice ad f.length cap] W fun e w' => e = .returned (.tuple #[.slice none 0 0, .int .i64 (Fr.chk f)]) ∧ w' = W) := fun W h => refMend_bad ad cap W hl (hm.below h) hc
    generalize Fr.chk f = c at *
    generalize f.length = n at *
    clear hm hc hl
    go_enter Try.func4, Try.ntmps4
    go_wp2_with fail
    refine M1.mono ?_; rintro e W1 ⟨rfl, hB1⟩
    have HB1 : Hid (Below w.heap.size w W1) := hB1
    clear hB1
    go_wp2_with fail
    refine (HM2.out W1 HB1.out).mono ?_; rintro e W2 ⟨rfl, h2⟩
    rw [show W2 = W1 from h2]
    clear h2 W2
    go_wp2_with fail
    refine (fareBegun_any W1).mono ?_; rintro e W3 ⟨rfl, hB3⟩
    have HB3 : Hid (Below w.heap.size w W3) := below_on HB1.out (Nat.le_refl _) hB3
    have S : Calls Try.prog 18 #[.slice none 0 0, .slice none 0 0] W3 fun e w' => e = .returned (.bool true) ∧ ∃ q, w' = W3.drewN q := sameFares_any [] [] none none 0 0 W3 (by unfold maxLen; decide) (by unfold maxLen; decide) (.inl rfl) (.inl rfl)
    clear hB3
    go_wp2_with fail
    refine S.mono ?_; rintro e W4 ⟨rfl, hq⟩
    have HB4 : Hid (Below w.heap.size w W4) := by obtain ⟨q, h⟩ := hq; show Below _ _ _; rw [h]; exact below_drewN HB3.out q
    clear hq
    go_wp2
    go_ret
    exact ⟨by simp, HB4.out⟩
end Go.Proofs.Ytcaibonnkfhkmaa
