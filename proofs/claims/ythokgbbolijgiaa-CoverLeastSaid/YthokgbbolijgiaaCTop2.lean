/- The document's Best. -/
import Derived.Test.YthokgbbolijgiaaCPr
namespace Go.Proofs.Ythokgbbolijgiaa
open Go.RowKit Go.BigFrame

set_option maxRecDepth 100000 in
set_option maxHeartbeats 1000000 in
theorem bestRef_any (l : List Cv.Off) (a : Option Addr) (cap : Nat) (d : Int) (w : World) (hl : l.length ≤ maxLen) (hr : RowO w a l) :
    Calls Try.prog 11 #[.slice a l.length cap, .int .i64 d] w fun e w' => e = .returned (.tuple #[.int .i64 (Cv.val l d), .int .i64 (Cv.code l d)]) ∧ Below w.heap.size w w' := by
  have hck := offersCheck_any l a cap w hl hr
  by_cases h : Cv.chk l = 0
  · have ok := (Cv.chk_ok l).1 h
    rw [h] at hck
    by_cases h2 : 0 ≤ d ∧ d ≤ 400
    · have HE : Hid (Cv.val l d = Cv.best l d.toNat ∧ Cv.code l d = 0) := by
        have hc := Cv.code_in l d h h2
        exact ⟨by unfold Cv.val; rw [if_pos hc], hc⟩
      obtain ⟨d0, d1⟩ := h2
      obtain ⟨k, rfl⟩ := Int.eq_ofNat_of_zero_le d0
      have kN : k ≤ 400 := by omega
      have k0 : ¬ (k : Int) < 0 := by omega
      have k1 : ¬ (400 : Int) < (k : Int) := by omega
      have k2 : decide ((k : Int) < 0) = false := decide_eq_false k0
      have k3 : decide ((400 : Int) < (k : Int)) = false := decide_eq_false k1
      have k4 : (k : Int) < (k : Int) + 1 := by omega
      have k5 : (0 : Int) ≤ (k : Int) := by omega
      have HP : Hid (Calls Try.prog 25 #[.slice a l.length cap, .int .i64 k] w fun e w' => ∃ g c, e = .returned (.slice (some ⟨g, 0, none⟩) (k + 1) c) ∧ TabI w' w.heap.size g c (k + 1) (Cv.best l) ∧ Below w.heap.size w w') := pricesOf_any l a cap k w ok kN hr
      clear h ok hr d1 d0
      go_enter Try.func11, Try.ntmps11
      go_wp2_with (first
        | (refine hck.mono ?_; rintro e w1 ⟨rfl, rfl⟩; clear hck)
        | (go_at_call 25; refine HP.out.mono ?_; rintro e w2 ⟨g, c, rfl, ht, hb⟩; have c0 := ht.cell (i := k) (Nat.lt_succ_self k); have HB : Hid (Below _ _ _) := hb; clear ht hb))
      go_ret2
      exact ⟨by rw [HE.out.1, HE.out.2]; rfl, HB.out⟩
    · have HE : Hid (Cv.val l d = 0 ∧ Cv.code l d = 3) := by
        have hc := Cv.code_out l d h h2
        exact ⟨by unfold Cv.val; rw [if_neg (by rw [hc]; decide)], hc⟩
      clear h ok hr
      by_cases d0 : d < 0
      · clear h2
        go_enter Try.func11, Try.ntmps11
        go_wp2_with (first
          | (refine hck.mono ?_; rintro e w1 ⟨rfl, rfl⟩; clear hck))
        go_ret2
        exact ⟨by rw [HE.out.1, HE.out.2]; rfl, Below.refl _ _⟩
      · have d1 : 400 < d := by omega
        have d2 : decide (d < 0) = false := decide_eq_false d0
        have d3 : decide (400 < d) = true := decide_eq_true d1
        clear h2
        go_enter Try.func11, Try.ntmps11
        go_wp2_with (first
          | (refine hck.mono ?_; rintro e w1 ⟨rfl, rfl⟩; clear hck))
        go_ret2
        exact ⟨by rw [HE.out.1, HE.out.2]; rfl, Below.refl _ _⟩
  · have HE : Hid (Cv.val l d = 0 ∧ Cv.code l d = Cv.chk l) := ⟨by unfold Cv.val; rw [if_neg (by rw [Cv.code_chk l d h]; exact h)], Cv.code_chk l d h⟩
    have HCC : Hid (∃ c, Cv.chk l = c) := ⟨_, rfl⟩
    obtain ⟨c, hcc⟩ := HCC.out
    have HQ : Hid (Cv.chk l = c) := hcc
    rw [hcc] at hck h
    have hcn : (c != 0) = true := by simpa using h
    have hcn2 : (c == 0) = false := by simpa using h
    clear h hcc
    go_enter Try.func11, Try.ntmps11
    go_wp2_with (refine hck.mono ?_; rintro e w1 ⟨rfl, rfl⟩; clear hck)
    go_ret2
    exact ⟨by rw [HE.out.1, HE.out.2, HQ.out]; rfl, Below.refl _ _⟩
end Go.Proofs.Ythokgbbolijgiaa
