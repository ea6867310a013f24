/- The law FareRises of fares: walked. -/
import Derived.Test.YtcaibonnkfhkmaaFBeg2
import Derived.Test.YtcaibonnkfhkmaaFRs
namespace Go.Proofs.Ytcaibonnkfhkmaa
open Go.RowKit

set_option maxRecDepth 100000 in
set_option maxHeartbeats 800000 in
theorem fareRises_any (f : List (List Int)) (ad : Option Addr) (cap : Nat) (a b x y p q way : Int) (w : World) (hl : f.length ≤ maxLen) (hm : Mat w ad f) :
    Calls Try.prog 7 #[.slice ad f.length cap, .int .i64 a, .int .i64 b, .int .i64 x, .int .i64 y, .int .i64 p, .int .i64 q, .int .i64 way] w fun e w' => e = .returned (.bool true) ∧ Below w.heap.size w w' := by
  have O1 := pOf_any ad cap a b p way w hl hm
  have HO2 : Hid (∀ W, Below w.heap.size w W → Calls Try.prog 10 #[.slice ad f.length cap, .int .i64 x, .int .i64 y, .int .i64 q, .int .i64 way] W fun e w' => e = .returned (.tuple #[.int .i64 (Fr.ofV f x y q way), .int .i64 (Fr.ofE f x y q way)]) ∧ Below W.heap.size W w') := fun W h => pOf_any ad cap x y q way W hl (hm.below h)
  by_cases h1 : Fr.ofE f a b p way = 0
  · by_cases h2 : Fr.ofE f x y q way = 0
    · have hc := (Fr.of_good h1).1
      have HO3 : Hid (∀ W, Below w.heap.size w W → Calls Try.prog 10 #[.slice ad f.length cap, .int .i64 a, .int .i64 b, .int .i64 100, .int .i64 way] W fun e w' => e = .returned (.tuple #[.int .i64 0, .int .i64 0]) ∧ Below W.heap.size W w') := fun W h => by
        have := pOf_any ad cap a b 100 way W hl (hm.below h)
        rwa [(Fr.of_all h1).1, (Fr.of_all h1).2] at this
      have HF : Hid (∀ W, Below w.heap.size w W → Calls Try.prog 9 #[.slice ad f.length cap] W fun e w' => e = .returned (.tuple #[.bool (Fr.fb (Fr.pr f) f.length), .int .i64 0]) ∧ Below W.heap.size W w') := fun W h => fair_ok ad cap W hl (hm.below h) hc
      have HR : Hid (Fr.fb (Fr.pr f) f.length = true → x ≤ a → b ≤ y → q ≤ p → Fr.ofV f a b p way ≤ Fr.ofV f x y q way) := fun hf hx hy hq => Fr.of_rises h1 h2 hf hx hy hq
      rw [h1] at O1
      rw [h2] at HO2
      generalize Fr.ofV f a b p way = s at *
      generalize Fr.ofV f x y q way = t at *
      generalize Fr.fb (Fr.pr f) f.length = is at *
      generalize f.length = n at *
      clear hm hl hc h1 h2
      go_enter Try.func7, Try.ntmps7
      go_wp2_with fail
      refine O1.mono ?_; rintro e W1 ⟨rfl, hB⟩
      have HB1 : Hid (Below w.heap.size w W1) := hB
      clear hB
      go_wp2_with fail
      refine (HO2.out W1 HB1.out).mono ?_; rintro e W2 ⟨rfl, hB⟩
      have HB2 : Hid (Below w.heap.size w W2) := below_on HB1.out (Nat.le_refl _) hB
      clear hB
      go_wp2_with fail
      refine (fareBegun_any W2).mono ?_; rintro e W3 ⟨rfl, hB⟩
      have HB3 : Hid (Below w.heap.size w W3) := below_on HB2.out (Nat.le_refl _) hB
      clear hB
      go_wp2_with fail
      refine (HF.out W3 HB3.out).mono ?_; rintro e W4 ⟨rfl, hB⟩
      have HB4 : Hid (Below w.heap.size w W4) := below_on HB3.out (Nat.le_refl _) hB
      clear hB
      go_wp2_with fail
      refine (HO3.out W4 HB4.out).mono ?_; rintro e W5 ⟨rfl, hB⟩
      have HB5 : Hid (Below w.heap.size w W5) := below_on HB4.out (Nat.le_refl _) hB
      clear hB
      cases is with
      | false =>
        go_wp2
        go_ret
        exact ⟨rfl, HB5.out⟩
      | true =>
      by_cases c1 : a < x
      · clear HR
        go_wp2
        go_ret
        exact ⟨by simp, HB5.out⟩
      by_cases c2 : y < b
      · clear HR
        go_wp2
        go_ret
        exact ⟨by simp, HB5.out⟩
      by_cases c3 : p < q
      · clear HR
        go_wp2
        go_ret
        exact ⟨by simp, HB5.out⟩
      have c4 := HR.out rfl (by omega) (by omega) (by omega)
      go_wp2
      go_ret
      exact ⟨by simp, HB5.out⟩
    · have h3 := Fr.of_bad h2
      rw [h1] at O1
      rw [h3] at HO2
      have h2' : (Fr.ofE f x y q way == 0) = false := by simpa using h2
      have h2'' : (Fr.ofE f x y q way != 0) = true := by simpa using h2
      generalize Fr.ofV f a b p way = s at *
      generalize Fr.ofE f x y q way = g at *
      generalize f.length = n at *
      clear hm hl h1 h3 h2
      go_enter Try.func7, Try.ntmps7
      go_wp2_with fail
      refine O1.mono ?_; rintro e W1 ⟨rfl, hB⟩
      have HB1 : Hid (Below w.heap.size w W1) := hB
      clear hB
      go_wp2_with fail
      refine (HO2.out W1 HB1.out).mono ?_; rintro e W2 ⟨rfl, hB⟩
      have HB2 : Hid (Below w.heap.size w W2) := below_on HB1.out (Nat.le_refl _) hB
      clear hB
      go_wp2_with fail
      refine (fareBegun_any W2).mono ?_; rintro e W3 ⟨rfl, hB⟩
      have HB3 : Hid (Below w.heap.size w W3) := below_on HB2.out (Nat.le_refl _) hB
      clear hB
      go_wp2
      go_ret
      exact ⟨by simp, HB3.out⟩
  · have h3 := Fr.of_bad h1
    rw [h3] at O1
    have h1' : (Fr.ofE f a b p way == 0) = false := by simpa using h1
    have h1'' : (Fr.ofE f a b p way != 0) = true := by simpa using h1
    have H4 : Fr.ofE f x y q way = 0 ∨ Fr.ofE f x y q way ≠ 0 ∧ Fr.ofV f x y q way = 0 := by
      by_cases h2 : Fr.ofE f x y q way = 0
      · exact .inl h2
      · exact .inr ⟨h2, Fr.of_bad h2⟩
    generalize Fr.ofE f a b p way = e0 at *
    generalize Fr.ofE f x y q way = g at *
    generalize Fr.ofV f x y q way = t at *
    generalize f.length = n at *
    clear hm hl h1 h3
    rcases H4 with rfl | ⟨h2, rfl⟩
    · go_enter Try.func7, Try.ntmps7
      go_wp2_with fail
      refine O1.mono ?_; rintro e W1 ⟨rfl, hB⟩
      have HB1 : Hid (Below w.heap.size w W1) := hB
      clear hB
      go_wp2_with fail
      refine (HO2.out W1 HB1.out).mono ?_; rintro e W2 ⟨rfl, hB⟩
      have HB2 : Hid (Below w.heap.size w W2) := below_on HB1.out (Nat.le_refl _) hB
      clear hB
      go_wp2_with fail
      refine (fareBegun_any W2).mono ?_; rintro e W3 ⟨rfl, hB⟩
      have HB3 : Hid (Below w.heap.size w W3) := below_on HB2.out (Nat.le_refl _) hB
      clear hB
      go_wp2
      go_ret
      exact ⟨by simp, HB3.out⟩
    · have h2' : (g == 0) = false := by simpa using h2
      clear h2
      go_enter Try.func7, Try.ntmps7
      go_wp2_with fail
      refine O1.mono ?_; rintro e W1 ⟨rfl, hB⟩
      have HB1 : Hid (Below w.heap.size w W1) := hB
      clear hB
      go_wp2_with fail
      refine (HO2.out W1 HB1.out).mono ?_; rintro e W2 ⟨rfl, hB⟩
      have HB2 : Hid (Below w.heap.size w W2) := below_on HB1.out (Nat.le_refl _) hB
      clear hB
      go_wp2_with fail
      refine (fareBegun_any W2).mono ?_; rintro e W3 ⟨rfl, hB⟩
      have HB3 : Hid (Below w.heap.size w W3) := below_on HB2.out (Nat.le_refl _) hB
      clear hB
      go_wp2
      go_ret
      exact ⟨by simp, HB3.out⟩
end Go.Proofs.Ytcaibonnkfhkmaa
