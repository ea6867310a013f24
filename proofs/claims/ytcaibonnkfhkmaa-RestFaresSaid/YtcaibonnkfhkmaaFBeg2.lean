/- What must be in any case, of fares: walked. -/
import Derived.Test.YtcaibonnkfhkmaaFBeg
namespace Go.Proofs.Ytcaibonnkfhkmaa
open Go.RowKit

namespace Fr
def f0 : List (List Int) := [[300, 250, 900], [400, 350], [100]]
def m0 : List (List Int) := [[250, 250, 350], [250, 350], [100]]
theorem f0_chk : chk f0 = 0 := by decide +kernel
theorem m0_chk : chk m0 = 0 := by decide +kernel
theorem x0_chk : chk [[1], [1]] = 1 := by decide +kernel
theorem f0_fb : fb (pr f0) 3 = false := by decide +kernel
theorem m0_fb : fb (pr m0) 3 = true := by decide +kernel
theorem f0_of : ofV f0 0 1 33 3 = 168 ∧ ofE f0 0 1 33 3 = 0 := by decide +kernel
theorem f0_mend : outF 3 (cv (pr f0) 3) = m0 := by decide +kernel
end Fr
set_option maxRecDepth 100000 in
set_option maxHeartbeats 800000 in
theorem fareBegun_any (w : World) : Calls Try.prog 13 #[] w fun e w' => e = .returned (.bool true) ∧ Below w.heap.size w w' := by
  have HL0 := mat_lit3 w [300, 250, 900] [400, 350] [100] (by decide) (by decide) (by decide)
  have hml : (3 : Nat) ≤ maxLen := by unfold maxLen; omega
  have HML : Hid ((3 : Nat) ≤ maxLen) := hml
  have HB0 : Hid (Below w.heap.size w ((((w.alloc (.cells #[.int .i64 300, .int .i64 250, .int .i64 900] 3)).alloc (.cells #[.int .i64 400, .int .i64 350] 3)).alloc (.cells #[.int .i64 100] 3)).alloc
      (.cells #[.slice (some ⟨w.heap.size, 0, none⟩) 3 3, .slice (some ⟨w.heap.size + 1, 0, none⟩) 2 2, .slice (some ⟨w.heap.size + 1 + 1, 0, none⟩) 1 1] 37))) := (((below_box w _).alloc (by simp) _).alloc (by simp; omega) _).alloc (by simp; omega) _
  have HM0 : Hid (Mat ((((w.alloc (.cells #[.int .i64 300, .int .i64 250, .int .i64 900] 3)).alloc (.cells #[.int .i64 400, .int .i64 350] 3)).alloc (.cells #[.int .i64 100] 3)).alloc
      (.cells #[.slice (some ⟨w.heap.size, 0, none⟩) 3 3, .slice (some ⟨w.heap.size + 1, 0, none⟩) 2 2, .slice (some ⟨w.heap.size + 1 + 1, 0, none⟩) 1 1] 37)) (some ⟨w.heap.size + 1 + 1 + 1, 0, none⟩) Fr.f0) := HL0
  clear HL0 hml
  go_enter Try.func13, Try.ntmps13
  go_wp2_with fail
  generalize ((((w.alloc (.cells #[.int .i64 300, .int .i64 250, .int .i64 900] 3)).alloc (.cells #[.int .i64 400, .int .i64 350] 3)).alloc (.cells #[.int .i64 100] 3)).alloc
      (.cells #[.slice (some ⟨w.heap.size, 0, none⟩) 3 3, .slice (some ⟨w.heap.size + 1, 0, none⟩) 2 2, .slice (some ⟨w.heap.size + 1 + 1, 0, none⟩) 1 1] 37)) = W0 at *
  refine (mend_ok (f := Fr.f0) _ 3 W0 HML.out HM0.out Fr.f0_chk).mono ?_; rintro e W1 ⟨rfl, hO, hB⟩
  have HM1 : Hid (Mat W1 (some ⟨w.heap.size + 1 + 1 + 1, 0, none⟩) Fr.f0) := HM0.out.below hB
  have HO1 : Hid (Mat W1 (some ⟨W0.heap.size + 1, 0, none⟩) Fr.m0) := by have := Out.mat (show Fr.f0.length ≤ 1000 by decide) hO; rwa [show Fr.f0.length = 3 from rfl, Fr.f0_mend] at this
  have HB1 : Hid (Below w.heap.size w W1) := below_on HB0.out (Nat.le_refl _) hB
  clear hO hB
  rw [show Fr.f0.length = 3 from rfl]
  go_wp2_with fail
  refine (fair_ok (f := Fr.f0) _ 3 W1 HML.out HM1.out Fr.f0_chk).mono ?_; rintro e W2 ⟨rfl, hB⟩
  rw [show Fr.f0.length = 3 from rfl, Fr.f0_fb]
  have HM2 : Hid (Mat W2 (some ⟨w.heap.size + 1 + 1 + 1, 0, none⟩) Fr.f0) := HM1.out.below hB
  have HO2 : Hid (Mat W2 (some ⟨W0.heap.size + 1, 0, none⟩) Fr.m0) := HO1.out.below hB
  have HB2 : Hid (Below w.heap.size w W2) := below_on HB1.out (Nat.le_refl _) hB
  clear hB
  go_wp2_with fail
  refine (fair_ok (f := Fr.m0) _ 3 W2 HML.out HO2.out Fr.m0_chk).mono ?_; rintro e W3 ⟨rfl, hB⟩
  rw [show Fr.m0.length = 3 from rfl, Fr.m0_fb]
  have HM3 : Hid (Mat W3 (some ⟨w.heap.size + 1 + 1 + 1, 0, none⟩) Fr.f0) := HM2.out.below hB
  have HO3 : Hid (Mat W3 (some ⟨W0.heap.size + 1, 0, none⟩) Fr.m0) := HO2.out.below hB
  have HB3 : Hid (Below w.heap.size w W3) := below_on HB2.out (Nat.le_refl _) hB
  clear hB
  go_wp2_with fail
  refine (pOf_any (f := Fr.f0) _ 3 0 1 33 3 W3 HML.out HM3.out).mono ?_; rintro e W4 ⟨rfl, hB⟩
  rw [Fr.f0_of.1, Fr.f0_of.2]
  have HO4 : Hid (Mat W4 (some ⟨W0.heap.size + 1, 0, none⟩) Fr.m0) := HO3.out.below hB
  have HB4 : Hid (Below w.heap.size w W4) := below_on HB3.out (Nat.le_refl _) hB
  clear hB
  have HB5 : Hid (Below W4.heap.size W4 ((((W4.alloc (.cells #[.int .i64 250, .int .i64 250, .int .i64 350] 3)).alloc (.cells #[.int .i64 250, .int .i64 350] 3)).alloc (.cells #[.int .i64 100] 3)).alloc
      (.cells #[.slice (some ⟨W4.heap.size, 0, none⟩) 3 3, .slice (some ⟨W4.heap.size + 1, 0, none⟩) 2 2, .slice (some ⟨W4.heap.size + 1 + 1, 0, none⟩) 1 1] 37))) := (((below_box W4 _).alloc (by simp) _).alloc (by simp; omega) _).alloc (by simp; omega) _
  have HL5 : Hid (Mat ((((W4.alloc (.cells #[.int .i64 250, .int .i64 250, .int .i64 350] 3)).alloc (.cells #[.int .i64 250, .int .i64 350] 3)).alloc (.cells #[.int .i64 100] 3)).alloc
      (.cells #[.slice (some ⟨W4.heap.size, 0, none⟩) 3 3, .slice (some ⟨W4.heap.size + 1, 0, none⟩) 2 2, .slice (some ⟨W4.heap.size + 1 + 1, 0, none⟩) 1 1] 37)) (some ⟨W4.heap.size + 1 + 1 + 1, 0, none⟩) Fr.m0) := mat_lit3 W4 [250, 250, 350] [250, 350] [100] (by decide) (by decide) (by decide)
  go_wp2_with fail
  generalize ((((W4.alloc (.cells #[.int .i64 250, .int .i64 250, .int .i64 350] 3)).alloc (.cells #[.int .i64 250, .int .i64 350] 3)).alloc (.cells #[.int .i64 100] 3)).alloc
      (.cells #[.slice (some ⟨W4.heap.size, 0, none⟩) 3 3, .slice (some ⟨W4.heap.size + 1, 0, none⟩) 2 2, .slice (some ⟨W4.heap.size + 1 + 1, 0, none⟩) 1 1] 37)) = W5 at *
  refine (sameFares_any Fr.m0 Fr.m0 _ _ 3 3 W5 HML.out HML.out (HO4.out.below HB5.out) HL5.out).mono ?_; rintro e W6 ⟨rfl, hq⟩
  rw [show decide (Fr.m0 = Fr.m0) = true from decide_eq_true rfl]
  have HB6 : Hid (Below w.heap.size w W6) := by obtain ⟨q, h⟩ := hq; show Below _ _ _; rw [h]; exact below_drewN (below_on HB4.out (Nat.le_refl _) HB5.out) q
  clear hq
  have HB7 : Hid (Below W6.heap.size W6 (((W6.alloc (.cells #[.int .i64 1] 3)).alloc (.cells #[.int .i64 1] 3)).alloc
      (.cells #[.slice (some ⟨W6.heap.size, 0, none⟩) 1 1, .slice (some ⟨W6.heap.size + 1, 0, none⟩) 1 1] 37))) := ((below_box W6 _).alloc (by simp) _).alloc (by simp; omega) _
  have HL7 : Hid (Mat (((W6.alloc (.cells #[.int .i64 1] 3)).alloc (.cells #[.int .i64 1] 3)).alloc
      (.cells #[.slice (some ⟨W6.heap.size, 0, none⟩) 1 1, .slice (some ⟨W6.heap.size + 1, 0, none⟩) 1 1] 37)) (some ⟨W6.heap.size + 1 + 1, 0, none⟩) [[1], [1]]) := mat_lit2 W6 [1] [1] (by decide) (by decide)
  go_wp2_with fail
  generalize (((W6.alloc (.cells #[.int .i64 1] 3)).alloc (.cells #[.int .i64 1] 3)).alloc
      (.cells #[.slice (some ⟨W6.heap.size, 0, none⟩) 1 1, .slice (some ⟨W6.heap.size + 1, 0, none⟩) 1 1] 37)) = W7 at *
  refine (fcheck_any [[1], [1]] _ 2 W7 (by unfold maxLen; decide) HL7.out).mono ?_; rintro e W8 ⟨rfl, rfl⟩
  rw [Fr.x0_chk]
  go_wp2
  go_ret
  exact ⟨rfl, below_on HB6.out (Nat.le_refl _) HB7.out⟩
end Go.Proofs.Ytcaibonnkfhkmaa
