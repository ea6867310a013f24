/- The offers that the statements begin with, and what must be in any case. -/
import Derived.Test.YthokgbbolijgiaaCPlan
import Derived.Test.YthokgbbolijgiaaSmI
namespace Go.Proofs.Ythokgbbolijgiaa
open Go.RowKit Go.BigFrame

/-- a day, a week, a month -/
def off3 : List Cv.Off := [(1, 500), (7, 2000), (30, 6000)]
theorem off3_ok : Cv.Ok off3 := (Cv.chk_ok _).1 (by decide +kernel)
theorem offers_any (w : World) :
    Calls Try.prog 26 #[] w fun e w' => ∃ b, e = .returned (.slice (some ⟨b, 0, none⟩) off3.length 3) ∧ RowO w' (some ⟨b, 0, none⟩) off3 ∧ Below w.heap.size w w' := by
  have HR : Hid (RowO (w.alloc (.cells #[.int .i64 1, .int .i64 500, .int .i64 7, .int .i64 2000, .int .i64 30, .int .i64 6000] 37)) (some ⟨w.heap.size, 0, none⟩) off3) := lit_rowO w off3 _ rfl (by decide)
  go_enter Try.func26, Try.ntmps26
  go_wp2
  go_ret
  exact ⟨_, rfl, HR.out, below_box w _⟩
theorem best_at (l : List Cv.Off) (a : Option Addr) (n cap : Nat) (d v c : Int) (w : World) (hn : l.length = n) (hl : l.length ≤ maxLen) (hc : l.length ≤ cap) (hv : Cv.val l d = v) (hcc : Cv.code l d = c) (hr : RowO w a l) :
    Calls Try.prog 9 #[.slice a n cap, .int .i64 d] w fun e w' => e = .returned (.tuple #[.int .i64 v, .int .i64 c]) ∧ Below w.heap.size w w' := by
  subst hn hv hcc; exact best_any l a cap d w hl hc hr
theorem sameI_at (l r : List Int) (a1 a2 : Option Addr) (n m k1 k2 : Nat) (b : Bool) (w : World) (hn : l.length = n) (hm : r.length = m) (hl : l.length ≤ maxLen) (hr : r.length ≤ maxLen) (hb : decide (l = r) = b) (h1 : Row1 w a1 l) (h2 : Row1 w a2 r) :
    Calls Try.prog 16 #[.slice a1 n k1, .slice a2 m k2] w fun e w' => e = .returned (.bool b) ∧ Below w.heap.size w w' := by
  subst hn hm hb
  exact (sameInts_any l r a1 a2 k1 k2 w hl hr h1 h2).mono fun _ _ h => ⟨h.1, drewN_below h.2⟩
theorem lit_row1 (w : World) (l : List Int) (cs : Array Value) (h : cs.toList = l.map (Value.int .i64)) (hl : l.length ≤ maxLen) : Row1 (w.alloc (.cells cs 3)) (some ⟨w.heap.size, 0, none⟩) l := by
  have hs : cs.size = l.length * 1 := by rw [← Array.length_toList, h, List.length_map, Nat.mul_one]
  have o : OwnI (w.alloc (.cells cs 3)) w.heap.size (.slice (some ⟨w.heap.size, 0, none⟩) l.length l.length) l := by
    have := World.ownsRow_lit (base := w.heap.size) (e := 3) (size := 1) w cs l.length (Nat.le_refl _) hl hs
    unfold OwnI; rw [← h]; exact this
  obtain ⟨a, c, e, r⟩ := o.row
  cases e
  exact r
theorem v9 : Cv.val off3 9 = 3000 := by decide +kernel
theorem v27 : Cv.val off3 27 = 6000 := by decide +kernel
theorem c9 : Cv.code off3 9 = 0 := by decide +kernel
theorem c27 : Cv.code off3 27 = 0 := by decide +kernel
theorem p9 : Cv.planOf off3 9 = [0, 0, 1] := by decide +kernel
theorem p27 : Cv.planOf off3 27 = [2] := by decide +kernel
set_option maxRecDepth 100000 in
set_option maxHeartbeats 2000000 in
theorem cbegun_any (w : World) : Calls Try.prog 13 #[] w fun e w' => e = .returned (.bool true) ∧ Below w.heap.size w w' := by
  go_enter Try.func13, Try.ntmps13
  go_wp2_with fail
  refine (offers_any _).mono ?_
  rintro e w1 ⟨b1, rfl, hr, hb⟩
  have R1 : Hid (RowO w1 (some ⟨b1, 0, none⟩) off3) := hr
  have B1 : Hid (Below w.heap.size w w1) := hb
  clear hr hb
  go_wp2_with fail
  refine (best_at off3 _ _ _ 9 3000 0 _ rfl (by decide) (by decide) v9 c9 R1.out).mono ?_
  rintro e w2 ⟨rfl, hb⟩
  have B2 : Hid (Below w.heap.size w w2) := below_on B1.out (Nat.le_refl _) hb
  clear hb
  go_wp2_with fail
  refine (offers_any _).mono ?_
  rintro e w3 ⟨b3, rfl, hr, hb⟩
  have R3 : Hid (RowO w3 (some ⟨b3, 0, none⟩) off3) := hr
  have B3 : Hid (Below w.heap.size w w3) := below_on B2.out (Nat.le_refl _) hb
  clear hr hb
  go_wp2_with fail
  refine (plan_any off3 _ _ 9 _ (by decide) (by decide) R3.out).mono ?_
  rintro e w4 ⟨v4, rfl, ho, hb⟩
  have B4 : Hid (Below w.heap.size w w4) := below_on B3.out (Nat.le_refl _) hb
  rw [p9] at ho
  rw [c9]
  obtain ⟨a4, k4, rfl, hr⟩ := ho.row
  have P9 : Hid (Row1 w4 a4 [0, 0, 1]) := hr
  clear hb ho hr
  go_wp2_with fail
  refine (offers_any _).mono ?_
  rintro e w5 ⟨b5, rfl, hr, hb⟩
  have R5 : Hid (RowO w5 (some ⟨b5, 0, none⟩) off3) := hr
  have B5 : Hid (Below w.heap.size w w5) := below_on B4.out (Nat.le_refl _) hb
  have P9 : Hid (Row1 w5 a4 [0, 0, 1]) := P9.out.below hb
  clear hr hb
  go_wp2_with fail
  refine (best_at off3 _ _ _ 27 6000 0 _ rfl (by decide) (by decide) v27 c27 R5.out).mono ?_
  rintro e w6 ⟨rfl, hb⟩
  have B6 : Hid (Below w.heap.size w w6) := below_on B5.out (Nat.le_refl _) hb
  have P9 : Hid (Row1 w6 a4 [0, 0, 1]) := P9.out.below hb
  clear hb
  go_wp2_with fail
  refine (offers_any _).mono ?_
  rintro e w7 ⟨b7, rfl, hr, hb⟩
  have R7 : Hid (RowO w7 (some ⟨b7, 0, none⟩) off3) := hr
  have B7 : Hid (Below w.heap.size w w7) := below_on B6.out (Nat.le_refl _) hb
  have P9 : Hid (Row1 w7 a4 [0, 0, 1]) := P9.out.below hb
  clear hr hb
  go_wp2_with fail
  refine (plan_any off3 _ _ 27 _ (by decide) (by decide) R7.out).mono ?_
  rintro e w8 ⟨v8, rfl, ho, hb⟩
  have B8 : Hid (Below w.heap.size w w8) := below_on B7.out (Nat.le_refl _) hb
  have P9 : Hid (Row1 w8 a4 [0, 0, 1]) := P9.out.below hb
  rw [p27] at ho
  rw [c27]
  obtain ⟨a8, k8, rfl, hr⟩ := ho.row
  have P27 : Hid (Row1 w8 a8 [2]) := hr
  clear hb ho hr
  go_wp2_with fail
  refine (best_at [] none 0 0 1 0 5 _ rfl (by decide) (by decide) rfl rfl (.inl rfl)).mono ?_
  rintro e w9 ⟨rfl, hb⟩
  have B9 : Hid (Below w.heap.size w w9) := below_on B8.out (Nat.le_refl _) hb
  have P9 : Hid (Row1 w9 a4 [0, 0, 1]) := P9.out.below hb
  have P27 : Hid (Row1 w9 a8 [2]) := P27.out.below hb
  clear hb
  go_wp2_with fail
  refine (sameI_at [0, 0, 1] [0, 0, 1] _ _ _ _ _ _ true _ rfl rfl (by decide) (by decide) (by decide) (P9.out.below (below_box w9 _)) (lit_row1 w9 [0, 0, 1] _ rfl (by decide))).mono ?_
  rintro e w10 ⟨rfl, hb⟩
  have C10 : Hid (Below w9.heap.size w9 w10) := below_on (below_box w9 _) (Nat.le_refl _) (hb.mono (by simp))
  have P27 : Hid (Row1 w10 a8 [2]) := P27.out.below C10.out
  have B10 : Hid (Below w.heap.size w w10) := below_on B9.out (Nat.le_refl _) C10.out
  clear hb
  go_wp2_with fail
  refine (sameI_at [2] [2] _ _ _ _ _ _ true _ rfl rfl (by decide) (by decide) (by decide) (P27.out.below (below_box w10 _)) (lit_row1 w10 [2] _ rfl (by decide))).mono ?_
  rintro e w11 ⟨rfl, hb⟩
  have B11 : Hid (Below w.heap.size w w11) := below_on B10.out (Nat.le_refl _) (below_on (below_box w10 _) (Nat.le_refl _) (hb.mono (by simp)))
  clear hb
  go_wp2
  go_ret
  exact ⟨rfl, B11.out⟩
end Go.Proofs.Ythokgbbolijgiaa
