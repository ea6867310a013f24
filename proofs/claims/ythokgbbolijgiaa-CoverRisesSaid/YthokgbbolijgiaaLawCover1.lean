/- The walk of CoverTells. -/
import Derived.Test.YthokgbbolijgiaaCBeg
import Derived.Test.YthokgbbolijgiaaCPlR
namespace Go.Proofs.Ythokgbbolijgiaa
open Go.RowKit Go.BigFrame

theorem xs_len (l : List Cv.Off) (d : Int) : (Cv.planOf l d).length ≤ 400 := by
  unfold Cv.planOf
  by_cases h : Cv.code l d = 0
  · obtain ⟨ok, h0, h1⟩ := (Cv.code_ok l d).1 h
    rw [if_pos h]
    have : ∀ n d : Nat, (Cv.plan l n d).length ≤ n := by
      intro n
      induction n with
      | zero => intro d; exact Nat.le_refl _
      | succ n ih =>
        intro d
        by_cases h0 : d = 0
        · subst h0; rw [Cv.plan_zero]; exact Nat.zero_le _
        · show (if d = 0 then [] else _).length ≤ _
          rw [if_neg h0, List.length_cons]
          have := ih (d - (l.getD (Cv.first l d) (0, 0)).1.toNat)
          omega
    have := this d.toNat d.toNat
    omega
  · rw [if_neg h]; exact Nat.zero_le _
theorem OwnI.fits {w : World} {B : Nat} {v : Value} {xs : List Int} (h : OwnI w B v xs) {a : Option Addr} {n k : Nat} (e : v = .slice a n k) : xs.length ≤ k := by
  rcases h.2 with ⟨h1, h0⟩ | ⟨g, cap, cur, h1, _, _, h3, _⟩
  · omega
  · rw [h1] at e
    cases e
    exact h3
theorem plan_at (l : List Cv.Off) (a : Option Addr) (cap : Nat) (d c : Int) (xs : List Int) (w : World) (hm : l.length ≤ maxLen ∧ l.length ≤ cap) (hc : Cv.code l d = c) (hx : Cv.planOf l d = xs) (hr : RowO w a l) :
    Calls Try.prog 10 #[.slice a l.length cap, .int .i64 d] w fun e w' => ∃ a1 k, e = .returned (.tuple #[.slice a1 xs.length k, .int .i64 c]) ∧ xs.length ≤ k ∧ Row1 w' a1 xs ∧ Below w.heap.size w w' := by
  subst hc hx
  refine (plan_any l a cap d w hm.1 hm.2 hr).mono ?_
  rintro e w' ⟨v, rfl, ho, hb⟩
  obtain ⟨a1, k, e1, h1⟩ := ho.row
  have hf := ho.fits e1
  subst e1
  exact ⟨a1, k, rfl, hf, h1, hb⟩
theorem planRef_at (l : List Cv.Off) (a : Option Addr) (cap : Nat) (d c : Int) (xs : List Int) (w : World) (hm : l.length ≤ maxLen) (hc : Cv.code l d = c) (hx : Cv.planOf l d = xs) (hr : RowO w a l) :
    Calls Try.prog 12 #[.slice a l.length cap, .int .i64 d] w fun e w' => ∃ a1 k, e = .returned (.tuple #[.slice a1 xs.length k, .int .i64 c]) ∧ Row1 w' a1 xs ∧ Below w.heap.size w w' := by
  subst hc hx
  refine (planRef_any l a cap d w hm hr).mono ?_
  rintro e w' ⟨v, rfl, ho, hb⟩
  obtain ⟨a1, k, rfl, h1⟩ := ho.row
  exact ⟨a1, k, rfl, h1, hb⟩
theorem bestRef_at (l : List Cv.Off) (a : Option Addr) (cap : Nat) (d v c : Int) (w : World) (hl : l.length ≤ maxLen) (hv : Cv.val l d = v) (hcc : Cv.code l d = c) (hr : RowO w a l) :
    Calls Try.prog 11 #[.slice a l.length cap, .int .i64 d] w fun e w' => e = .returned (.tuple #[.int .i64 v, .int .i64 c]) ∧ Below w.heap.size w w' := by
  subst hv hcc; exact bestRef_any l a cap d w hl hr
set_option maxRecDepth 100000 in
set_option maxHeartbeats 2000000 in
theorem coverTells_any (l : List Cv.Off) (a : Option Addr) (cap : Nat) (d : Int) (w : World) (hm : l.length ≤ maxLen ∧ l.length ≤ cap) (hr : RowO w a l) :
    Calls Try.prog 3 #[.slice a l.length cap, .int .i64 d] w fun e w' => e = .returned (.bool true) ∧ Below w.heap.size w w' := by
  have R : Hid (RowO w a l) := hr
  have HM : Hid (l.length ≤ maxLen ∧ l.length ≤ cap) := hm
  have HX : Hid ((Cv.planOf l d).length ≤ 400) := xs_len l d
  obtain ⟨v, hv⟩ : ∃ v, Cv.val l d = v := ⟨_, rfl⟩
  obtain ⟨c, hc⟩ : ∃ c, Cv.code l d = c := ⟨_, rfl⟩
  obtain ⟨xs, hx⟩ : ∃ xs, Cv.planOf l d = xs := ⟨_, rfl⟩
  obtain ⟨q, hq⟩ : ∃ q, Cv.chk l = q := ⟨_, rfl⟩
  have HV : Hid (Cv.val l d = v ∧ Cv.code l d = c ∧ Cv.planOf l d = xs ∧ Cv.chk l = q) := ⟨hv, hc, hx, hq⟩
  rw [hx] at HX
  clear hr hm hv hc hx hq
  go_enter Try.func3, Try.ntmps3
  go_wp2_with fail
  refine (best_at l a _ cap d v c _ rfl HM.out.1 HM.out.2 HV.out.1 HV.out.2.1 R.out).mono ?_
  rintro e w1 ⟨rfl, hb⟩
  have B1 : Hid (Below w.heap.size w w1) := hb
  clear hb
  go_wp2_with fail
  refine (plan_at l a cap d c xs _ HM.out HV.out.2.1 HV.out.2.2.1 (R.out.below B1.out)).mono ?_
  rintro e w2 ⟨a1, k1, rfl, -, hr1, hb⟩
  have B2 : Hid (Below w.heap.size w w2) := below_on B1.out (Nat.le_refl _) hb
  have P2 : Hid (Row1 w2 a1 xs) := hr1
  clear hb hr1
  go_wp2_with fail
  refine (bestRef_at l a cap d v c _ HM.out.1 HV.out.1 HV.out.2.1 (R.out.below B2.out)).mono ?_
  rintro e w3 ⟨rfl, hb⟩
  have B3 : Hid (Below w.heap.size w w3) := below_on B2.out (Nat.le_refl _) hb
  have P3 : Hid (Row1 w3 a1 xs) := P2.out.below hb
  clear hb
  go_wp2_with fail
  refine (planRef_at l a cap d c xs _ HM.out.1 HV.out.2.1 HV.out.2.2.1 (R.out.below B3.out)).mono ?_
  rintro e w4 ⟨a2, k2, rfl, hr1, hb⟩
  have B4 : Hid (Below w.heap.size w w4) := below_on B3.out (Nat.le_refl _) hb
  have P4 : Hid (Row1 w4 a1 xs) := P3.out.below hb
  have Q4 : Hid (Row1 w4 a2 xs) := hr1
  clear hb hr1
  go_wp2_with fail
  refine (cbegun_any _).mono ?_
  rintro e w5 ⟨rfl, hb⟩
  have B5 : Hid (Below w.heap.size w w5) := below_on B4.out (Nat.le_refl _) hb
  have P5 : Hid (Row1 w5 a1 xs) := P4.out.below hb
  have Q5 : Hid (Row1 w5 a2 xs) := Q4.out.below hb
  clear hb
  go_wp2_with fail
  refine (coverCheck_any l a cap _ HM.out.1 (R.out.below B5.out)).mono ?_
  rw [HV.out.2.2.2]
  rintro e w6 ⟨rfl, hb⟩
  have B6 : Hid (Below w.heap.size w w6) := below_on B5.out (Nat.le_refl _) hb
  have P6 : Hid (Row1 w6 a1 xs) := P5.out.below hb
  have Q6 : Hid (Row1 w6 a2 xs) := Q5.out.below hb
  clear hb
  go_wp2_with fail
  refine (offersCheck_any l a cap _ HM.out.1 (R.out.below B6.out)).mono ?_
  rw [HV.out.2.2.2]
  rintro e w7 ⟨rfl, rfl⟩
  go_wp2_with fail
  refine (sameI_at xs xs a1 a2 _ _ _ _ true _ rfl rfl (by unfold maxLen; have := HX.out; omega) (by unfold maxLen; have := HX.out; omega) (by simp) P6.out Q6.out).mono ?_
  rintro e w8 ⟨rfl, hb⟩
  have B8 : Hid (Below w.heap.size w w8) := below_on B6.out (Nat.le_refl _) hb
  clear hb
  go_wp2
  go_ret
  exact ⟨rfl, B8.out⟩
end Go.Proofs.Ythokgbbolijgiaa
