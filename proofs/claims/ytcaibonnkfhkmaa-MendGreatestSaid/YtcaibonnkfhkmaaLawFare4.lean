/- The law MendGreatest of fares: walked. -/
import Derived.Test.YtcaibonnkfhkmaaLawFare3
namespace Go.Proofs.Ytcaibonnkfhkmaa
open Go.RowKit

theorem noDearer_dec (f g : List (List Int)) : ∃ b : Bool, (b = true ↔ Fr.Nod f g) ∧ ∀ (a1 a2 : Option Addr) (k1 k2 : Nat) (w : World), f.length ≤ maxLen → g.length ≤ maxLen → Mat w a1 f → Mat w a2 g →
    Calls Try.prog 19 #[.slice a1 f.length k1, .slice a2 g.length k2] w fun e w' => e = .returned (.bool b) ∧ ∃ q, w' = w.drewN q := by
  by_cases h : Fr.Nod f g
  · exact ⟨true, by simp [h], fun a1 a2 k1 k2 w hl hr h1 h2 => noDearer_is h a1 a2 k1 k2 w hl hr h1 h2⟩
  · refine ⟨false, by simp [h], fun a1 a2 k1 k2 w hl hr h1 h2 => (noDearer_any f g a1 a2 k1 k2 w hl hr h1 h2).mono fun e w' ⟨⟨b, he, hb⟩, hq⟩ => ⟨?_, hq⟩⟩
    cases b with
    | false => exact he
    | true => exact absurd (hb.1 rfl) h
set_option maxRecDepth 100000 in
set_option maxHeartbeats 800000 in
theorem mendGreatest_any (f : List (List Int)) (ad : Option Addr) (cap : Nat) (g : List (List Int)) (ag : Option Addr) (cag : Nat) (w : World) (hl : f.length ≤ maxLen) (hm : Mat w ad f) (hlg : g.length ≤ maxLen) (hmg : Mat w ag g) :
    Calls Try.prog 6 #[.slice ad f.length cap, .slice ag g.length cag] w fun e w' => e = .returned (.bool true) ∧ Below w.heap.size w w' := by
  by_cases hc : Fr.chk f = 0
  · have hlen := Fr.mend_length f
    have M1 := mend_ok ad cap w hl hm hc
    have HMF : Hid (∀ W, Below w.heap.size w W → Mat W ad f) := fun W h => hm.below h
    have HMG : Hid (∀ W, Below w.heap.size w W → Mat W ag g) := fun W h => hmg.below h
    have HOM : Hid (∀ W b R, Out W b f.length R (Fr.cv (Fr.pr f) f.length) → Mat W (some ⟨b, 0, none⟩) (Fr.mend f)) := fun W b R h => h.mat (by have := (Fr.chk_zero hc).2.1; omega)
    by_cases hd : Fr.chk g = 0
    · have hleng := Fr.mend_length g
      have HM2 : Hid (∀ W, Below w.heap.size w W → Calls Try.prog 16 #[.slice ag g.length cag] W fun e w' => e = .returned (.tuple #[.slice (some ⟨W.heap.size + 1, 0, none⟩) g.length g.length, .int .i64 0]) ∧ Mat w' (some ⟨W.heap.size + 1, 0, none⟩) (Fr.mend g) ∧ Below W.heap.size W w') := fun W h => by
        refine (mend_ok ag cag W hlg (hmg.below h) hd).mono fun e w' h => ⟨h.1, ?_, h.2.2⟩
        exact h.2.1.mat (by have := (Fr.chk_zero hd).2.1; omega)
      have HFG : Hid (∀ W, Below w.heap.size w W → Calls Try.prog 9 #[.slice ag g.length cag] W fun e w' => e = .returned (.tuple #[.bool (Fr.fb (Fr.pr g) g.length), .int .i64 0]) ∧ Below W.heap.size W w') := fun W h => fair_ok ag cag W hlg (hmg.below h) hd
      obtain ⟨b1, hb1, ND1⟩ := noDearer_dec g f
      have HN1 : Hid (∀ W, Below w.heap.size w W → Calls Try.prog 19 #[.slice ag g.length cag, .slice ad f.length cap] W fun e w' => e = .returned (.bool b1) ∧ ∃ q, w' = W.drewN q) := fun W h => ND1 ag ad cag cap W hlg hl (hmg.below h) (hm.below h)
      clear ND1
      have K2 : b1 = true → Fr.fb (Fr.pr g) g.length = true → Fr.Nod g (Fr.mend f) := fun h1 h2 => by
        have := Fr.nod_mono hc hd (hb1.1 h1)
        rwa [(Fr.mend_fair hd).2 h2] at this
      have K3 : b1 = true → Fr.Nod (Fr.mend g) (Fr.mend f) := fun h1 => Fr.nod_mono hc hd (hb1.1 h1)
      have HN2 : Hid (b1 = true → Fr.fb (Fr.pr g) g.length = true → ∀ W a c, Below w.heap.size w W → Mat W a (Fr.mend f) → Calls Try.prog 19 #[.slice ag g.length cag, .slice a f.length c] W fun e w' => e = .returned (.bool true) ∧ ∃ q, w' = W.drewN q) := fun h1 h2 W a c h h3 => by
        have := noDearer_is (K2 h1 h2) ag a cag c W hlg (by rw [hlen]; exact hl) (hmg.below h) h3
        rwa [hlen] at this
      have HN3 : Hid (b1 = true → ∀ W a c a' c', Mat W a' (Fr.mend g) → Mat W a (Fr.mend f) → Calls Try.prog 19 #[.slice a' g.length c', .slice a f.length c] W fun e w' => e = .returned (.bool true) ∧ ∃ q, w' = W.drewN q) := fun h1 W a c a' c' h2 h3 => by
        have := noDearer_is (K3 h1) a' a c' c W (by rw [hleng]; exact hlg) (by rw [hlen]; exact hl) h2 h3
        rwa [hlen, hleng] at this
      clear K2 K3 hb1 hlen hleng
      generalize Fr.fb (Fr.pr g) g.length = is at *
      generalize Fr.cv (Fr.pr f) f.length = M at *
      generalize Fr.mend f = mf at *
      generalize Fr.mend g = mg at *
      generalize f.length = n at *
      generalize g.length = k at *
      clear hm hmg hl hlg hc hd
      go_enter Try.func6, Try.ntmps6
      go_wp2_with fail
      refine M1.mono ?_; rintro e W1 ⟨rfl, hO, hB⟩
      have HB1 : Hid (Below w.heap.size w W1) := hB
      have HO1 : Hid (Mat W1 (some ⟨w.heap.size + 1, 0, none⟩) mf) := HOM.out _ _ _ hO
      clear hO hB
      go_wp2_with fail
      refine (HM2.out W1 HB1.out).mono ?_; rintro e W2 ⟨rfl, hX, hB⟩
      have HB2 : Hid (Below w.heap.size w W2) := below_on HB1.out (Nat.le_refl _) hB
      have HO2 : Hid (Mat W2 (some ⟨w.heap.size + 1, 0, none⟩) mf) := HO1.out.below hB
      have HX2 : Hid (Mat W2 (some ⟨W1.heap.size + 1, 0, none⟩) mg) := hX
      clear hX hB
      go_wp2_with fail
      refine (fareBegun_any W2).mono ?_; rintro e W3 ⟨rfl, hB⟩
      have HB3 : Hid (Below w.heap.size w W3) := below_on HB2.out (Nat.le_refl _) hB
      have HO3 : Hid (Mat W3 (some ⟨w.heap.size + 1, 0, none⟩) mf) := HO2.out.below hB
      have HX3 : Hid (Mat W3 (some ⟨W1.heap.size + 1, 0, none⟩) mg) := HX2.out.below hB
      clear hB
      go_wp2_with fail
      refine (HN1.out W3 HB3.out).mono ?_; rintro e W4 ⟨rfl, hq⟩
      have HB4 : Hid (Below w.heap.size w W4) := by obtain ⟨q, h⟩ := hq; show Below _ _ _; rw [h]; exact below_drewN HB3.out q
      have HO4 : Hid (Mat W4 (some ⟨w.heap.size + 1, 0, none⟩) mf) := by obtain ⟨q, h⟩ := hq; show Mat _ _ _; rw [h]; exact HO3.out.below (below_drewN (Below.refl _ _) q)
      have HX4 : Hid (Mat W4 (some ⟨W1.heap.size + 1, 0, none⟩) mg) := by obtain ⟨q, h⟩ := hq; show Mat _ _ _; rw [h]; exact HX3.out.below (below_drewN (Below.refl _ _) q)
      clear hq
      cases b1 with
      | false =>
        go_wp2
        go_ret
        exact ⟨rfl, HB4.out⟩
      | true =>
      have HY3 := HN3.out rfl
      have HZ3 : Hid (∀ W a c a' c', Mat W a' mg → Mat W a mf → Calls Try.prog 19 #[.slice a' k c', .slice a n c] W fun e w' => e = .returned (.bool true) ∧ ∃ q, w' = W.drewN q) := HY3
      clear HY3 HN3
      go_wp2_with fail
      refine (HFG.out W4 HB4.out).mono ?_; rintro e W5 ⟨rfl, hB⟩
      have HB5 : Hid (Below w.heap.size w W5) := below_on HB4.out (Nat.le_refl _) hB
      have HO5 : Hid (Mat W5 (some ⟨w.heap.size + 1, 0, none⟩) mf) := HO4.out.below hB
      have HX5 : Hid (Mat W5 (some ⟨W1.heap.size + 1, 0, none⟩) mg) := HX4.out.below hB
      clear hB
      cases is with
      | false =>
        clear HN2
        go_wp2_with fail
        refine (HZ3.out W5 _ _ _ _ HX5.out HO5.out).mono ?_; rintro e W6 ⟨rfl, hq⟩
        have HB6 : Hid (Below w.heap.size w W6) := by obtain ⟨q, h⟩ := hq; show Below _ _ _; rw [h]; exact below_drewN HB5.out q
        clear hq
        go_wp2
        go_ret
        exact ⟨rfl, HB6.out⟩
      | true =>
        have HY2 := HN2.out (by first | rfl | trivial) (by first | rfl | trivial)
        have HZ2 : Hid (∀ W a c, Below w.heap.size w W → Mat W a mf → Calls Try.prog 19 #[.slice ag k cag, .slice a n c] W fun e w' => e = .returned (.bool true) ∧ ∃ q, w' = W.drewN q) := HY2
        clear HY2 HN2
        go_wp2_with fail
        refine (HZ2.out W5 _ _ HB5.out HO5.out).mono ?_; rintro e W6 ⟨rfl, hq⟩
        have HB6 : Hid (Below w.heap.size w W6) := by obtain ⟨q, h⟩ := hq; show Below _ _ _; rw [h]; exact below_drewN HB5.out q
        have HO6 : Hid (Mat W6 (some ⟨w.heap.size + 1, 0, none⟩) mf) := by obtain ⟨q, h⟩ := hq; show Mat _ _ _; rw [h]; exact HO5.out.below (below_drewN (Below.refl _ _) q)
        have HX6 : Hid (Mat W6 (some ⟨W1.heap.size + 1, 0, none⟩) mg) := by obtain ⟨q, h⟩ := hq; show Mat _ _ _; rw [h]; exact HX5.out.below (below_drewN (Below.refl _ _) q)
        clear hq
        go_wp2_with fail
        refine (HZ3.out W6 _ _ _ _ HX6.out HO6.out).mono ?_; rintro e W7 ⟨rfl, hq⟩
        have HB7 : Hid (Below w.heap.size w W7) := by obtain ⟨q, h⟩ := hq; show Below _ _ _; rw [h]; exact below_drewN HB6.out q
        clear hq
        go_wp2
        go_ret
        exact ⟨rfl, HB7.out⟩
    · have HM2 : Hid (∀ W, Below w.heap.size w W → Calls Try.prog 16 #[.slice ag g.length cag] W fun e w' => e = .returned (.tuple #[.slice none 0 0, .int .i64 (Fr.chk g)]) ∧ Below W.heap.size W w') := fun W h => mend_bad ag cag W hlg (hmg.below h) hd
      have hd' : (Fr.chk g != 0) = true := by simpa using hd
      generalize Fr.chk g = c at *
      generalize g.length = k at *
      generalize f.length = n at *
      clear hm hmg hl hlg hlen HOM HMF HMG hc
      go_enter Try.func6, Try.ntmps6
      go_wp2_with fail
      refine M1.mono ?_; rintro e W1 ⟨rfl, _, hB⟩
      have HB1 : Hid (Below w.heap.size w W1) := hB
      clear hB
      go_wp2_with fail
      refine (HM2.out W1 HB1.out).mono ?_; rintro e W2 ⟨rfl, hB⟩
      have HB2 : Hid (Below w.heap.size w W2) := below_on HB1.out (Nat.le_refl _) hB
      clear hB
      go_wp2_with fail
      refine (fareBegun_any W2).mono ?_; rintro e W3 ⟨rfl, hB⟩
      have HB3 : Hid (Below w.heap.size w W3) := below_on HB2.out (Nat.le_refl _) hB
      clear hB
      go_wp2
      go_ret
      exact ⟨rfl, HB3.out⟩
  · have M1 := mend_bad ad cap w hl hm hc
    have hc' : (Fr.chk f != 0) = true := by simpa using hc
    have HM2 : Hid (∀ W, Below w.heap.size w W → ∃ v n c d, (.slice v n c : Value) = .slice v n c ∧ Calls Try.prog 16 #[.slice ag g.length cag] W fun e w' => e = .returned (.tuple #[.slice v n c, .int .i64 d]) ∧ Below W.heap.size W w') := fun W h => by
      by_cases hd : Fr.chk g = 0
      · exact ⟨_, _, _, _, rfl, (mend_ok ag cag W hlg (hmg.below h) hd).mono fun e w' h => ⟨h.1, h.2.2⟩⟩
      · exact ⟨_, _, _, _, rfl, mend_bad ag cag W hlg (hmg.below h) hd⟩
    generalize Fr.chk f = c at *
    generalize f.length = n at *
    generalize g.length = k at *
    clear hm hl hmg hlg
    go_enter Try.func6, Try.ntmps6
    go_wp2_with fail
    refine M1.mono ?_; rintro e W1 ⟨rfl, hB⟩
    have HB1 : Hid (Below w.heap.size w W1) := hB
    clear hB
    go_wp2_with fail
    obtain ⟨v, j, cj, d, _, M2⟩ := HM2.out W1 HB1.out
    refine M2.mono ?_; rintro e W2 ⟨rfl, hB⟩
    have HB2 : Hid (Below w.heap.size w W2) := below_on HB1.out (Nat.le_refl _) hB
    clear hB M2
    go_wp2_with fail
    refine (fareBegun_any W2).mono ?_; rintro e W3 ⟨rfl, hB⟩
    have HB3 : Hid (Below w.heap.size w W3) := below_on HB2.out (Nat.le_refl _) hB
    clear hB
    go_wp2
    go_ret
    exact ⟨rfl, HB3.out⟩
end Go.Proofs.Ytcaibonnkfhkmaa
