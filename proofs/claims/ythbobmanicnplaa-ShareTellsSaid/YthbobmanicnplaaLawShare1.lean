/- The walk of ShareTells: it answers true, whatever it is handed. -/
import Derived.Test.YthbobmanicnplaaHBegun
import Derived.Test.YthbobmanicnplaaHRef3
namespace Go.Proofs.Ythbobmanicnplaa
open Go.RowKit Go.BigFrame Go.Sort

theorem refEven_at (T m : Int) (xs : List Int) (c : Int) (w : World) (hx : Shr.evn T m = xs) (hc : Shr.ecode T m = c) :
    Calls Try.prog 12 #[.int .i64 T, .int .i64 m] w fun e w' => ∃ a cap, e = .returned (.tuple #[.slice a xs.length cap, .int .i64 c]) ∧ Row1 w' a xs ∧ Below w.heap.size w w' := by
  subst hx hc
  refine (refEven T m w).mono ?_
  rintro e w' ⟨v, rfl, ho, hb⟩
  obtain ⟨a, cap, rfl, hr⟩ := ho.row
  exact ⟨a, cap, rfl, hr, hb⟩
theorem refHam_at (T : Int) (l : List Int) (a : Option Addr) (cap : Nat) (xs : List Int) (c : Int) (w : World) (hl : l.length ≤ maxLen) (hr : Row1 w a l) (hx : Shr.ham T l = xs) (hc : Shr.code T l = c) :
    Calls Try.prog 13 #[.int .i64 T, .slice a l.length cap] w fun e w' => ∃ a' cap', e = .returned (.tuple #[.slice a' xs.length cap', .int .i64 c]) ∧ Row1 w' a' xs ∧ Below w.heap.size w w' := by
  subst hx hc
  refine (refHam T l a cap w hl hr).mono ?_
  rintro e w' ⟨v, rfl, ho, hb⟩
  obtain ⟨a', cap', rfl, hr'⟩ := ho.row
  exact ⟨a', cap', rfl, hr', hb⟩
theorem refJeff_at (T : Int) (l : List Int) (a : Option Addr) (cap : Nat) (xs : List Int) (c : Int) (w : World) (hl : l.length ≤ maxLen) (hr : Row1 w a l) (hx : Shr.jeff T l = xs) (hc : Shr.code T l = c) :
    Calls Try.prog 14 #[.int .i64 T, .slice a l.length cap] w fun e w' => ∃ a' cap', e = .returned (.tuple #[.slice a' xs.length cap', .int .i64 c]) ∧ Row1 w' a' xs ∧ Below w.heap.size w w' := by
  subst hx hc
  refine (refJeff T l a cap w hl hr).mono ?_
  rintro e w' ⟨v, rfl, ho, hb⟩
  obtain ⟨a', cap', rfl, hr'⟩ := ho.row
  exact ⟨a', cap', rfl, hr', hb⟩
theorem short_even (T m : Int) : (Shr.evn T m).length ≤ 32 := by
  unfold Shr.evn
  split
  · rename_i h; have := (Shr.ecode_zero T m).1 h; simp; omega
  · simp
theorem short_ham (T : Int) (l : List Int) : (Shr.ham T l).length ≤ 32 := by
  unfold Shr.ham
  split
  · rename_i h; have := (Shr.ok_of T l h).len; simp; omega
  · simp
theorem short_jeff (T : Int) (l : List Int) : (Shr.jeff T l).length ≤ 32 := by
  unfold Shr.jeff
  split
  · rename_i h; have := (Shr.ok_of T l h).len; simp; omega
  · simp
set_option maxHeartbeats 1000000 in
theorem shareTells_any (P M T : Int) (l : List Int) (a : Option Addr) (cap : Nat) (w : World) (hl : l.length ≤ maxLen) (hr : Row1 w a l) :
    Calls Try.prog 3 #[.int .i64 P, .int .i64 M, .int .i64 T, .slice a l.length cap] w fun e w' => e = .returned (.bool true) ∧ Below w.heap.size w w' := by
  obtain ⟨xs, hxs⟩ : ∃ xs, Shr.evn P M = xs := ⟨_, rfl⟩
  obtain ⟨ys, hys⟩ : ∃ xs, Shr.ham T l = xs := ⟨_, rfl⟩
  obtain ⟨zs, hzs⟩ : ∃ xs, Shr.jeff T l = xs := ⟨_, rfl⟩
  obtain ⟨c1, hc1⟩ : ∃ c, Shr.ecode P M = c := ⟨_, rfl⟩
  obtain ⟨c2, hc2⟩ : ∃ c, Shr.code T l = c := ⟨_, rfl⟩
  have l1 : xs.length ≤ maxLen := by have := short_even P M; rw [hxs] at this; unfold maxLen; omega
  have l2 : ys.length ≤ maxLen := by have := short_ham T l; rw [hys] at this; unfold maxLen; omega
  have l3 : zs.length ≤ maxLen := by have := short_jeff T l; rw [hzs] at this; unfold maxLen; omega
  have HX : Hid (Shr.evn P M = xs ∧ Shr.ecode P M = c1) := ⟨hxs, hc1⟩
  have HY : Hid (Shr.ham T l = ys ∧ Shr.code T l = c2) := ⟨hys, hc2⟩
  have HZ : Hid (Shr.jeff T l = zs ∧ Shr.code T l = c2) := ⟨hzs, hc2⟩
  clear hxs hys hzs hc1 hc2
  go_enter Try.func3, Try.ntmps3
  go_wp2_with fail
  refine (pEven_at P M xs c1 _ HX.out.1 HX.out.2).mono ?_; rintro e w1 ⟨a1, k1, rfl, r1, b1⟩
  have h1 := hr.below b1
  go_wp2_with fail
  refine (pHam_at T l _ _ ys c2 _ hl h1 HY.out.1 HY.out.2).mono ?_; rintro e w2 ⟨a2, k2, rfl, r2, b2⟩
  have h2 := h1.below b2
  replace r1 := r1.below b2
  have B2 := below_on b1 (Nat.le_refl _) b2
  clear b1 b2 h1 hr
  go_wp2_with fail
  refine (pJeff_at T l _ _ zs c2 _ hl h2 HZ.out.1 HZ.out.2).mono ?_; rintro e w3 ⟨a3, k3, rfl, r3, b3⟩
  have h3 := h2.below b3
  replace r1 := r1.below b3
  replace r2 := r2.below b3
  have B3 := below_on B2 (Nat.le_refl _) b3
  clear b3 h2 B2
  go_wp2_with fail
  refine (refEven_at P M xs c1 _ HX.out.1 HX.out.2).mono ?_; rintro e w4 ⟨a4, k4, rfl, r4, b4⟩
  have h4 := h3.below b4
  replace r1 := r1.below b4
  replace r2 := r2.below b4
  replace r3 := r3.below b4
  have B4 := below_on B3 (Nat.le_refl _) b4
  clear b4 h3 B3
  go_wp2_with fail
  refine (refHam_at T l _ _ ys c2 _ hl h4 HY.out.1 HY.out.2).mono ?_; rintro e w5 ⟨a5, k5, rfl, r5, b5⟩
  have h5 := h4.below b5
  replace r1 := r1.below b5
  replace r2 := r2.below b5
  replace r3 := r3.below b5
  replace r4 := r4.below b5
  have B5 := below_on B4 (Nat.le_refl _) b5
  clear b5 h4 B4
  go_wp2_with fail
  refine (refJeff_at T l _ _ zs c2 _ hl h5 HZ.out.1 HZ.out.2).mono ?_; rintro e w6 ⟨a6, k6, rfl, r6, b6⟩
  replace r1 := r1.below b6
  replace r2 := r2.below b6
  replace r3 := r3.below b6
  replace r4 := r4.below b6
  replace r5 := r5.below b6
  have B6 := below_on B5 (Nat.le_refl _) b6
  clear b6 h5 B5
  go_wp2_with fail
  refine (hbegun_any _).mono ?_; rintro e w7 ⟨rfl, b7⟩
  replace r1 := r1.below b7
  replace r2 := r2.below b7
  replace r3 := r3.below b7
  replace r4 := r4.below b7
  replace r5 := r5.below b7
  replace r6 := r6.below b7
  have B7 := below_on B6 (Nat.le_refl _) b7
  clear b7 B6
  go_wp2_with fail
  refine (hSame xs _ _ _ _ _ l1 r1 r4).mono ?_; rintro e w8 ⟨rfl, b8⟩
  replace r2 := r2.below b8
  replace r3 := r3.below b8
  replace r5 := r5.below b8
  replace r6 := r6.below b8
  have B8 := below_on B7 (Nat.le_refl _) b8
  clear b8 B7 r1 r4
  go_wp2_with fail
  refine (hSame ys _ _ _ _ _ l2 r2 r5).mono ?_; rintro e w9 ⟨rfl, b9⟩
  replace r3 := r3.below b9
  replace r6 := r6.below b9
  have B9 := below_on B8 (Nat.le_refl _) b9
  clear b9 B8 r2 r5
  go_wp2_with fail
  refine (hSame zs _ _ _ _ _ l3 r3 r6).mono ?_; rintro e w10 ⟨rfl, b10⟩
  have C1 := below_on B9 (Nat.le_refl _) b10
  clear b10 B9
  go_wp2
  go_ret
  exact ⟨rfl, C1⟩
end Go.Proofs.Ythbobmanicnplaa
