/- The law FareTells of fares: walked. -/
import Derived.Test.YtcaibonnkfhkmaaFBeg2
import Derived.Test.YtcaibonnkfhkmaaFRo
import Derived.Test.YtcaibonnkfhkmaaFRf
namespace Go.Proofs.Ytcaibonnkfhkmaa
open Go.RowKit

set_option maxRecDepth 100000 in
set_option maxHeartbeats 800000 in
theorem fareTells_any (f : List (List Int)) (ad : Option Addr) (cap : Nat) (a b p way : Int) (w : World) (hl : f.length ≤ maxLen) (hm : Mat w ad f) :
    Calls Try.prog 3 #[.slice ad f.length cap, .int .i64 a, .int .i64 b, .int .i64 p, .int .i64 way] w fun e w' => e = .returned (.bool true) ∧ Below w.heap.size w w' := by
  have F1 : ∃ is : Bool, Calls Try.prog 9 #[.slice ad f.length cap] w (fun e w' => e = .returned (.tuple #[.bool is, .int .i64 (Fr.chk f)]) ∧ Below w.heap.size w w') ∧ (Fr.chk f = 0 → is = Fr.fb (Fr.pr f) f.length) ∧ (Fr.chk f ≠ 0 → is = false) := by
    by_cases hc : Fr.chk f = 0
    · exact ⟨_, by have := fair_ok ad cap w hl hm hc; rwa [← hc] at this, fun _ => rfl, fun h => absurd hc h⟩
    · exact ⟨_, fair_bad ad cap w hl hm hc, fun h => absurd h hc, fun _ => rfl⟩
  obtain ⟨is, F1, hy, hno⟩ := F1
  have HOF : Hid (∀ W, Below w.heap.size w W → Calls Try.prog 10 #[.slice ad f.length cap, .int .i64 a, .int .i64 b, .int .i64 p, .int .i64 way] W fun e w' => e = .returned (.tuple #[.int .i64 (Fr.ofV f a b p way), .int .i64 (Fr.ofE f a b p way)]) ∧ Below W.heap.size W w') := fun W h => pOf_any ad cap a b p way W hl (hm.below h)
  have HCH : Hid (∀ W, Below w.heap.size w W → Calls Try.prog 11 #[.slice ad f.length cap] W fun e w' => e = .returned (.int .i64 (Fr.chk f)) ∧ w' = W) := fun W h => faresCheck_any f ad cap W hl (hm.below h)
  have HRO : Hid (∀ W, Below w.heap.size w W → Calls Try.prog 12 #[.slice ad f.length cap, .int .i64 a, .int .i64 b, .int .i64 p, .int .i64 way] W fun e w' => e = .returned (.tuple #[.int .i64 (Fr.ofV f a b p way), .int .i64 (Fr.ofE f a b p way)]) ∧ ∃ q, w' = W.drewN q) := fun W h => refOf_any ad cap a b p way W hl (hm.below h)
  have HFC : Hid (∀ W, Below w.heap.size w W → Calls Try.prog 14 #[.slice ad f.length cap] W fun e w' => e = .returned (.int .i64 (Fr.chk f)) ∧ w' = W) := fun W h => fcheck_any f ad cap W hl (hm.below h)
  have HRF : Hid (Fr.chk f = 0 → ∀ W, Below w.heap.size w W → Calls Try.prog 15 #[.slice ad f.length cap] W fun e w' => e = .returned (.bool is) ∧ ∃ q, w' = W.drewN q) := by
    intro hc W h
    obtain ⟨hn1, hn6, hs, hP⟩ := Fr.chk_zero hc
    rw [hy hc]
    obtain ⟨b0, o0, _, _, rfl, _⟩ := hm.at (k := 0) hn1
    exact refFair_any hs hP b0 o0 cap W (hm.below h) hn1 hn6
  generalize Fr.ofV f a b p way = pv at *
  generalize Fr.ofE f a b p way = pe at *
  generalize Fr.chk f = c at *
  generalize f.length = n at *
  clear hm hl hy
  by_cases hc : c = 0
  · subst hc
    have HFF := HRF.out rfl
    have HFR : Hid (∀ W, Below w.heap.size w W → Calls Try.prog 15 #[.slice ad n cap] W fun e w' => e = .returned (.bool is) ∧ ∃ q, w' = W.drewN q) := HFF
    clear HFF HRF hno
    go_enter Try.func3, Try.ntmps3
    go_wp2_with fail
    refine F1.mono ?_; rintro e W1 ⟨rfl, hB⟩
    have HB1 : Hid (Below w.heap.size w W1) := hB
    clear hB
    go_wp2_with fail
    refine (HOF.out W1 HB1.out).mono ?_; rintro e W2 ⟨rfl, hB⟩
    have HB2 : Hid (Below w.heap.size w W2) := below_on HB1.out (Nat.le_refl _) hB
    clear hB
    go_wp2_with fail
    refine (HCH.out W2 HB2.out).mono ?_; rintro e W3 ⟨rfl, h3⟩
    rw [show W3 = W2 from h3]
    clear h3 W3
    go_wp2_with fail
    refine (HRO.out W2 HB2.out).mono ?_; rintro e W3 ⟨rfl, hq⟩
    have HB3 : Hid (Below w.heap.size w W3) := by obtain ⟨q, h⟩ := hq; show Below _ _ _; rw [h]; exact below_drewN HB2.out q
    clear hq
    go_wp2_with fail
    refine (fareBegun_any W3).mono ?_; rintro e W4 ⟨rfl, hB⟩
    have HB4 : Hid (Below w.heap.size w W4) := below_on HB3.out (Nat.le_refl _) hB
    clear hB
    go_wp2_with fail
    refine (HFC.out W4 HB4.out).mono ?_; rintro e W5 ⟨rfl, h3⟩
    rw [show W5 = W4 from h3]
    clear h3 W5
    go_wp2_with fail
    refine (HFR.out W4 HB4.out).mono ?_; rintro e W5 ⟨rfl, hq⟩
    have HB5 : Hid (Below w.heap.size w W5) := by obtain ⟨q, h⟩ := hq; show Below _ _ _; rw [h]; exact below_drewN HB4.out q
    clear hq
    go_wp2
    go_ret
    exact ⟨by simp, HB5.out⟩
  · have hc' : (c == 0) = false := by simpa using hc
    obtain rfl : is = false := hno hc
    clear HRF hno hc
    go_enter Try.func3, Try.ntmps3
    go_wp2_with fail
    refine F1.mono ?_; rintro e W1 ⟨rfl, hB⟩
    have HB1 : Hid (Below w.heap.size w W1) := hB
    clear hB
    go_wp2_with fail
    refine (HOF.out W1 HB1.out).mono ?_; rintro e W2 ⟨rfl, hB⟩
    have HB2 : Hid (Below w.heap.size w W2) := below_on HB1.out (Nat.le_refl _) hB
    clear hB
    go_wp2_with fail
    refine (HCH.out W2 HB2.out).mono ?_; rintro e W3 ⟨rfl, h3⟩
    rw [show W3 = W2 from h3]
    clear h3 W3
    go_wp2_with fail
    refine (HRO.out W2 HB2.out).mono ?_; rintro e W3 ⟨rfl, hq⟩
    have HB3 : Hid (Below w.heap.size w W3) := by obtain ⟨q, h⟩ := hq; show Below _ _ _; rw [h]; exact below_drewN HB2.out q
    clear hq
    go_wp2_with fail
    refine (fareBegun_any W3).mono ?_; rintro e W4 ⟨rfl, hB⟩
    have HB4 : Hid (Below w.heap.size w W4) := below_on HB3.out (Nat.le_refl _) hB
    clear hB
    go_wp2_with fail
    refine (HFC.out W4 HB4.out).mono ?_; rintro e W5 ⟨rfl, h3⟩
    rw [show W5 = W4 from h3]
    clear h3 W5
    go_wp2
    go_ret
    exact ⟨by simp, HB4.out⟩
end Go.Proofs.Ytcaibonnkfhkmaa
