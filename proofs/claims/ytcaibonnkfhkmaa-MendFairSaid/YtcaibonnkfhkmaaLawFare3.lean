/- The law MendFair of fares: walked. -/
import Derived.Test.YtcaibonnkfhkmaaFBeg2
import Derived.Test.YtcaibonnkfhkmaaFMx
namespace Go.Proofs.Ytcaibonnkfhkmaa
open Go.RowKit

theorem noDearer_is {f g : List (List Int)} (h : Fr.Nod f g) (a1 a2 : Option Addr) (k1 k2 : Nat) (w : World) (hl : f.length ≤ maxLen) (hr : g.length ≤ maxLen) (h1 : Mat w a1 f) (h2 : Mat w a2 g) :
    Calls Try.prog 19 #[.slice a1 f.length k1, .slice a2 g.length k2] w fun e w' => e = .returned (.bool true) ∧ ∃ q, w' = w.drewN q :=
  (noDearer_any f g a1 a2 k1 k2 w hl hr h1 h2).mono fun e w' ⟨⟨b, he, hb⟩, hq⟩ => ⟨by rw [he, hb.2 h], hq⟩
set_option maxRecDepth 100000 in
set_option maxHeartbeats 800000 in
theorem mendFair_any (f : List (List Int)) (ad : Option Addr) (cap : Nat) (w : World) (hl : f.length ≤ maxLen) (hm : Mat w ad f) :
    Calls Try.prog 5 #[.slice ad f.length cap] w fun e w' => e = .returned (.bool true) ∧ Below w.heap.size w w' := by
  by_cases hc : Fr.chk f = 0
  · obtain ⟨hn1, hn6, hs, hP⟩ := Fr.chk_zero hc
    have hmc := Fr.chk_mend hc
    have hlen := Fr.mend_length f
    have M1 := mend_ok ad cap w hl hm hc
    have HMF : Hid (∀ W, Below w.heap.size w W → Mat W ad f) := fun W h => hm.below h
    have HOM : Hid (∀ W b R, Out W b f.length R (Fr.cv (Fr.pr f) f.length) → Mat W (some ⟨b, 0, none⟩) (Fr.mend f)) := fun W b R h => h.mat (by omega)
    have HF1 : Hid (∀ (W : World) a c, Mat W a (Fr.mend f) → Calls Try.prog 9 #[.slice a f.length c] W fun e w' => e = .returned (.tuple #[.bool true, .int .i64 0]) ∧ Below W.heap.size W w') := fun W a c h => by
      have := fair_ok (f := Fr.mend f) a c W (by rw [hlen]; exact hl) h hmc
      rwa [Fr.fb_mend hc, hlen] at this
    have HM2 : Hid (∀ (W : World) a c, Mat W a (Fr.mend f) → Calls Try.prog 16 #[.slice a f.length c] W fun e w' => e = .returned (.tuple #[.slice (some ⟨W.heap.size + 1, 0, none⟩) f.length f.length, .int .i64 0]) ∧ Mat w' (some ⟨W.heap.size + 1, 0, none⟩) (Fr.mend f) ∧ Below W.heap.size W w') := fun W a c h => by
      have := mend_ok (f := Fr.mend f) a c W (by rw [hlen]; exact hl) h hmc
      refine (hlen ▸ this).mono fun e w' h => ⟨h.1, ?_, h.2.2⟩
      have hx : Mat w' (some ⟨W.heap.size + 1, 0, none⟩) (outF f.length (Fr.cv (Fr.pr (Fr.mend f)) f.length)) := h.2.1.mat (by omega)
      have e : outF f.length (Fr.cv (Fr.pr (Fr.mend f)) f.length) = Fr.mend f := by
        have := Fr.mend_mend hc
        have e2 : outF (Fr.mend f).length (Fr.cv (Fr.pr (Fr.mend f)) (Fr.mend f).length) = Fr.mend (Fr.mend f) := rfl
        rw [hlen] at e2
        rw [e2, this]
      rwa [e] at hx
    have HF3 : Hid (∀ W, Below w.heap.size w W → Calls Try.prog 9 #[.slice ad f.length cap] W fun e w' => e = .returned (.tuple #[.bool (decide (Fr.mend f = f)), .int .i64 0]) ∧ Below W.heap.size W w') := fun W h => by
      have := fair_ok ad cap W hl (hm.below h) hc
      rwa [show Fr.fb (Fr.pr f) f.length = decide (Fr.mend f = f) from by
        cases e : Fr.fb (Fr.pr f) f.length with
        | true => exact (decide_eq_true ((Fr.mend_fair hc).2 e)).symm
        | false => exact (decide_eq_false fun h => by rw [(Fr.mend_fair hc).1 h] at e; cases e).symm] at this
    have HND : Hid (Fr.Nod (Fr.mend f) f) := Fr.nod_mend hc
    have HLE : Hid ((Fr.mend f).length = f.length) := hlen
    have HL : Hid (f.length ≤ maxLen) := hl
    generalize Fr.cv (Fr.pr f) f.length = M at *
    generalize Fr.mend f = g at *
    obtain ⟨n, hn⟩ : ∃ n, f.length = n := ⟨_, rfl⟩
    have HN : Hid (f.length = n) := hn
    rw [hn] at M1 HOM HF1 HM2 HF3 HLE HL ⊢
    clear hm hs hP hc hl hmc hlen hn hn1 hn6
    go_enter Try.func5, Try.ntmps5
    go_wp2_with fail
    refine M1.mono ?_; rintro e W1 ⟨rfl, hO, hB⟩
    have HB1 : Hid (Below w.heap.size w W1) := hB
    have HO1 : Hid (Mat W1 (some ⟨w.heap.size + 1, 0, none⟩) g) := HOM.out _ _ _ hO
    clear hO hB
    go_wp2_with fail
    refine (fareBegun_any W1).mono ?_; rintro e W2 ⟨rfl, hB⟩
    have HB2 : Hid (Below w.heap.size w W2) := below_on HB1.out (Nat.le_refl _) hB
    have HO2 : Hid (Mat W2 (some ⟨w.heap.size + 1, 0, none⟩) g) := HO1.out.below hB
    clear hB
    go_wp2_with fail
    refine (HF1.out W2 _ _ HO2.out).mono ?_; rintro e W3 ⟨rfl, hB⟩
    have HB3 : Hid (Below w.heap.size w W3) := below_on HB2.out (Nat.le_refl _) hB
    have HO3 : Hid (Mat W3 (some ⟨w.heap.size + 1, 0, none⟩) g) := HO2.out.below hB
    clear hB
    go_wp2_with fail
    refine (HM2.out W3 _ _ HO3.out).mono ?_; rintro e W4 ⟨rfl, hX, hB⟩
    have HB4 : Hid (Below w.heap.size w W4) := below_on HB3.out (Nat.le_refl _) hB
    have HO4 : Hid (Mat W4 (some ⟨w.heap.size + 1, 0, none⟩) g) := HO3.out.below hB
    have HX4 : Hid (Mat W4 (some ⟨W3.heap.size + 1, 0, none⟩) g) := hX
    clear hX hB
    go_wp2_with fail
    refine (HF3.out W4 HB4.out).mono ?_; rintro e W5 ⟨rfl, hB⟩
    have HB5 : Hid (Below w.heap.size w W5) := below_on HB4.out (Nat.le_refl _) hB
    have HO5 : Hid (Mat W5 (some ⟨w.heap.size + 1, 0, none⟩) g) := HO4.out.below hB
    have HX5 : Hid (Mat W5 (some ⟨W3.heap.size + 1, 0, none⟩) g) := HX4.out.below hB
    clear hB
    have S1 := sameFares_any g g (some ⟨W3.heap.size + 1, 0, none⟩) (some ⟨w.heap.size + 1, 0, none⟩) n n W5 (by rw [HLE.out]; exact HL.out) (by rw [HLE.out]; exact HL.out) HX5.out HO5.out
    rw [HLE.out, show decide (g = g) = true from decide_eq_true rfl] at S1
    generalize hd : decide (g = f) = d at *
    go_wp2_with fail
    refine S1.mono ?_; rintro e W6 ⟨rfl, hq⟩
    have HB6 : Hid (Below w.heap.size w W6) := by obtain ⟨q, h⟩ := hq; show Below _ _ _; rw [h]; exact below_drewN HB5.out q
    have HO6 : Hid (Mat W6 (some ⟨w.heap.size + 1, 0, none⟩) g) := by obtain ⟨q, h⟩ := hq; show Mat _ _ _; rw [h]; exact HO5.out.below (below_drewN (Below.refl _ _) q)
    have S2 := sameFares_any g f (some ⟨w.heap.size + 1, 0, none⟩) ad n cap W6 (by rw [HLE.out]; exact HL.out) (by rw [HN.out]; exact HL.out) HO6.out (HMF.out W6 HB6.out)
    rw [HLE.out, HN.out, hd] at S2
    clear hq
    go_wp2_with fail
    refine S2.mono ?_; rintro e W7 ⟨rfl, hq⟩
    have HB7 : Hid (Below w.heap.size w W7) := by obtain ⟨q, h⟩ := hq; show Below _ _ _; rw [h]; exact below_drewN HB6.out q
    have HO7 : Hid (Mat W7 (some ⟨w.heap.size + 1, 0, none⟩) g) := by obtain ⟨q, h⟩ := hq; show Mat _ _ _; rw [h]; exact HO6.out.below (below_drewN (Below.refl _ _) q)
    have S3 := noDearer_is HND.out (some ⟨w.heap.size + 1, 0, none⟩) ad n cap W7 (by rw [HLE.out]; exact HL.out) (by rw [HN.out]; exact HL.out) HO7.out (HMF.out W7 HB7.out)
    rw [HLE.out, HN.out] at S3
    clear hq hd
    go_wp2_with fail
    refine S3.mono ?_; rintro e W8 ⟨rfl, hq⟩
    have HB8 : Hid (Below w.heap.size w W8) := by obtain ⟨q, h⟩ := hq; show Below _ _ _; rw [h]; exact below_drewN HB7.out q
    clear hq
    go_wp2
    go_ret
    exact ⟨rfl, HB8.out⟩
  · have M1 := mend_bad ad cap w hl hm hc
    have hc' : (Fr.chk f != 0) = true := by simpa using hc
    generalize Fr.chk f = c at *
    generalize f.length = n at *
    clear hm hl
    go_enter Try.func5, Try.ntmps5
    go_wp2_with fail
    refine M1.mono ?_; rintro e W1 ⟨rfl, hB⟩
    have HB1 : Hid (Below w.heap.size w W1) := hB
    clear hB
    go_wp2_with fail
    refine (fareBegun_any W1).mono ?_; rintro e W2 ⟨rfl, hB⟩
    have HB2 : Hid (Below w.heap.size w W2) := below_on HB1.out (Nat.le_refl _) hB
    clear hB
    go_wp2
    go_ret
    exact ⟨rfl, HB2.out⟩
end Go.Proofs.Ytcaibonnkfhkmaa
