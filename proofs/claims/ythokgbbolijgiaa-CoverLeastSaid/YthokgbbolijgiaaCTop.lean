/- The program's Best: the look over the offers and the days, and the least price. -/
import Derived.Test.YthokgbbolijgiaaCBest
namespace Go.Proofs.Ythokgbbolijgiaa
open Go.RowKit Go.BigFrame

theorem checkAsked_any (l : List Cv.Off) (a : Option Addr) (cap : Nat) (d : Int) (w : World) (hl : l.length ≤ maxLen) (hr : RowO w a l) :
    Calls Try.prog 21 #[.slice a l.length cap, .int .i64 d] w fun e w' => e = .returned (.int .i64 (Cv.code l d)) ∧ Below w.heap.size w w' := by
  have hck := coverCheck_any l a cap w hl hr
  by_cases h : Cv.chk l = 0
  · rw [h] at hck
    by_cases h2 : 0 ≤ d ∧ d ≤ 400
    · rw [Cv.code_in l d h h2]
      have e2 : decide (0 ≤ d ∧ d ≤ 400) = true := decide_eq_true h2
      clear h h2
      go_enter Try.func21, Try.ntmps21
      go_wp2_with (first
        | (refine hck.mono ?_; rintro e w1 ⟨rfl, b1⟩)
        | (go_at_call 27; refine (isWithin_any _ _ _ _).mono ?_; rintro e w2 ⟨rfl, rfl⟩; rw [e2]))
      go_ret
      exact ⟨rfl, b1⟩
    · rw [Cv.code_out l d h h2]
      have e2 : decide (0 ≤ d ∧ d ≤ 400) = false := decide_eq_false h2
      clear h h2
      go_enter Try.func21, Try.ntmps21
      go_wp2_with (first
        | (refine hck.mono ?_; rintro e w1 ⟨rfl, b1⟩)
        | (go_at_call 27; refine (isWithin_any _ _ _ _).mono ?_; rintro e w2 ⟨rfl, rfl⟩; rw [e2]))
      go_ret
      exact ⟨rfl, b1⟩
  · rw [Cv.code_chk l d h]
    generalize Cv.chk l = c at *
    have hc : (c != 0) = true := by simpa using h
    clear h
    go_enter Try.func21, Try.ntmps21
    go_wp2_with (refine hck.mono ?_; rintro e w1 ⟨rfl, b1⟩)
    go_ret
    exact ⟨rfl, b1⟩
set_option maxRecDepth 100000 in
set_option maxHeartbeats 1000000 in
theorem best_any (l : List Cv.Off) (a : Option Addr) (cap : Nat) (d : Int) (w : World) (hl : l.length ≤ maxLen) (hc : l.length ≤ cap) (hr : RowO w a l) :
    Calls Try.prog 9 #[.slice a l.length cap, .int .i64 d] w fun e w' => e = .returned (.tuple #[.int .i64 (Cv.val l d), .int .i64 (Cv.code l d)]) ∧ Below w.heap.size w w' := by
  have hck := checkAsked_any l a cap d w hl hr
  by_cases h : Cv.code l d = 0
  · rw [h] at hck
    obtain ⟨ok, d0, d1⟩ := (Cv.code_ok l d).1 h
    have HE : Hid (Cv.val l d = Cv.best l d.toNat ∧ Cv.code l d = 0) := ⟨by unfold Cv.val; rw [if_pos h], h⟩
    have HB : Hid (∀ W, Below w.heap.size w W → Calls Try.prog 22 #[.slice a l.length cap] W fun e w' => e = .returned (.agg (cellsP (Cv.best l))) ∧ Below W.heap.size W w') := fun W hb => bestOf_any l a cap W ok hc (hr.below hb)
    obtain ⟨k, rfl⟩ := Int.eq_ofNat_of_zero_le d0
    have k1 : (k : Int) < 401 := by omega
    have kN : k < 401 := by omega
    have hz := zeroP
    clear h ok hr d1 d0
    go_enter Try.func9, Try.ntmps9
    go_wp2_with (first
      | (refine hck.mono ?_; rintro e w1 ⟨rfl, b1⟩; have HB1 : Hid (_) := b1; have hbb := HB.out w1 b1; clear hck b1)
      | (refine hbb.mono ?_; rintro e w2 ⟨rfl, b2⟩; clear hbb; have HB2 : Hid (Below w.heap.size w w2) := below_on HB1.out (Nat.le_refl _) b2; clear b2)
      | (refine wpList_store_row rfl 44 (.tmp 7) (.tmp 15) rfl w2.heap.size (cellsP (Cv.best l)) rfl rfl _ _ (RowP.zero w2).obj (cellsP_info _) (by rw [cellsP_size, cellsP_size]) (cellsP_one _) ?_; have HR : Hid (RowP ((w2.alloc (.cells (Array.replicate 401 (.int .i64 0)) 44)).setRow w2.heap.size (cellsP (Cv.best l))) w2.heap.size (Cv.best l)) := (RowP.zero w2).row; have HBB : Hid (Below w.heap.size w ((w2.alloc (.cells (Array.replicate 401 (.int .i64 0)) 44)).setRow w2.heap.size (cellsP (Cv.best l)))) := below_setRow (HB2.out.alloc HB2.out.size _) HB2.out.size _; generalize ((w2.alloc (.cells (Array.replicate 401 (.int .i64 0)) 44)).setRow w2.heap.size (cellsP (Cv.best l))) = W at *; have cW := HR.out.cell kN; clear hz))
    go_ret2
    refine ⟨by rw [HE.out.1, HE.out.2]; rfl, HBB.out⟩
  · have HE : Hid (Cv.val l d = 0) := by show _ = _; unfold Cv.val; rw [if_neg h]
    generalize Cv.code l d = c at *
    have hcn : (c != 0) = true := by simpa using h
    clear h
    go_enter Try.func9, Try.ntmps9
    go_wp2_with (refine hck.mono ?_; rintro e w1 ⟨rfl, b1⟩)
    go_ret2
    exact ⟨by rw [HE.out]; rfl, b1⟩
end Go.Proofs.Ythokgbbolijgiaa
