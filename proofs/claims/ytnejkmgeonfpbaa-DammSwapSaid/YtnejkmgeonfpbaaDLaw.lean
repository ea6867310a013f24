/- What must be in any case (dammBegun) is so; the walks of the five laws on numbers that are read aloud. -/
import Derived.Test.YtnejkmgeonfpbaaDRef
namespace Go.Proofs.Ytnejkmgeonfpbaa
open Go.RowKit

theorem pIs_is (s : ByteArray) (r : Nat) (c : Int) (b : Bool) (w : World) (hs : s.size ≤ maxLen) (hr : Dm.row s.data.toList = r) (hc : Dm.code s.data.toList = c) (hb : isB r c = b) :
    Calls Try.prog 10 #[.string s] w fun e w' => e = .returned (.tuple #[.bool b, .int .i64 c]) ∧ w' = w := by
  subst hb; exact pIs_at s r c w hs hr hc
set_option maxHeartbeats 400000 in
theorem dbegun_any (w : World) :
    Calls Try.prog 13 #[] w fun e w' => e = .returned (.bool true) ∧ w' = w := by
  go_enter Try.func13, Try.ntmps13
  go_wp2_with fail
  refine (pDigit_ok ⟨#[53, 55, 50]⟩ 4 _ (by decide) (by decide) (by decide)).mono ?_; rintro e w' ⟨rfl, rfl⟩
  go_wp2_with fail
  refine (pIs_is ⟨#[53, 55, 50, 52]⟩ 0 0 true _ (by decide) (by decide) (by decide) rfl).mono ?_; rintro e w' ⟨rfl, rfl⟩
  go_wp2_with fail
  refine (pIs_is ⟨#[53, 50, 55, 52]⟩ 8 0 false _ (by decide) (by decide) (by decide) rfl).mono ?_; rintro e w' ⟨rfl, rfl⟩
  go_wp2_with fail
  refine (pDigit_no ⟨#[53, 120]⟩ 1 _ (by decide) (by decide) (by decide)).mono ?_; rintro e w' ⟨rfl, rfl⟩
  go_wp2
  go_ret
  exact ⟨rfl, rfl⟩
theorem step_both (r d : Int) : ∃ x c : Int, (∀ w, Calls Try.prog 8 #[.int .i64 r, .int .i64 d] w fun e w' => e = .returned (.tuple #[.int .i64 x, .int .i64 c]) ∧ w' = w) ∧
    (∀ w, Calls Try.prog 11 #[.int .i64 r, .int .i64 d] w fun e w' => e = .returned (.tuple #[.int .i64 x, .int .i64 c]) ∧ Below w.heap.size w w') := by
  by_cases h : r < 0 ∨ 9 < r ∨ d < 0 ∨ 9 < d
  · exact ⟨0, 3, fun w => pStep_no r d w h, fun w => refStep_no r d w h⟩
  · obtain ⟨r', rfl⟩ := Int.eq_ofNat_of_zero_le (show 0 ≤ r by omega)
    obtain ⟨d', rfl⟩ := Int.eq_ofNat_of_zero_le (show 0 ≤ d by omega)
    exact ⟨(Dm.st r' d' : Nat), 0, fun w => pStep_yes r' d' w (by omega) (by omega), fun w => refStep_yes r' d' w (by omega) (by omega)⟩
set_option maxHeartbeats 1000000 in
theorem dammTells_any (r d : Int) (s : ByteArray) (w : World) (hs : s.size ≤ maxLen) :
    Calls Try.prog 3 #[.int .i64 r, .int .i64 d, .string s] w fun e w' => e = .returned (.bool true) ∧ Below w.heap.size w w' := by
  obtain ⟨x, c, hp, hq⟩ := step_both r d
  by_cases h : Dm.code s.data.toList = 0
  · have hl := Dm.row_lt s.data.toList
    generalize hg : Dm.row s.data.toList = k at hl
    have HR : Hid (Dm.row s.data.toList = k) := hg
    have HC : Hid (Dm.code s.data.toList = 0) := h
    clear hg h
    cases hb : isB k 0 with
    | true =>
      have hk : k = 0 := by simpa [isB] using hb
      subst hk
      go_enter Try.func3, Try.ntmps3
      go_wp2_with (first
        | (go_at_call 8; refine (hp _).mono ?_; rintro e w' ⟨rfl, rfl⟩)
        | (go_at_call 9; refine (pDigit_ok _ _ _ hs HR.out HC.out).mono ?_; rintro e w' ⟨rfl, rfl⟩)
        | (go_at_call 10; refine (pIs_is _ _ _ _ _ hs HR.out HC.out hb).mono ?_; rintro e w' ⟨rfl, rfl⟩)
        | (go_at_call 11; refine (hq _).mono ?_; rintro e w1 ⟨rfl, b1⟩)
        | (go_at_call 12; refine (led_at _ _ _ _ hs HR.out HC.out).mono ?_; rintro e w2 ⟨rfl, b2⟩)
        | (go_at_call 13; refine (dbegun_any _).mono ?_; rintro e w3 ⟨rfl, rfl⟩))
      go_ret
      exact ⟨rfl, below_on b1 (Nat.le_refl _) b2⟩
    | false =>
      have hk : 0 < k := by simp [isB] at hb; omega
      go_enter Try.func3, Try.ntmps3
      go_wp2_with (first
        | (go_at_call 8; refine (hp _).mono ?_; rintro e w' ⟨rfl, rfl⟩)
        | (go_at_call 9; refine (pDigit_ok _ _ _ hs HR.out HC.out).mono ?_; rintro e w' ⟨rfl, rfl⟩)
        | (go_at_call 10; refine (pIs_is _ _ _ _ _ hs HR.out HC.out hb).mono ?_; rintro e w' ⟨rfl, rfl⟩)
        | (go_at_call 11; refine (hq _).mono ?_; rintro e w1 ⟨rfl, b1⟩)
        | (go_at_call 12; refine (led_at _ _ _ _ hs HR.out HC.out).mono ?_; rintro e w2 ⟨rfl, b2⟩)
        | (go_at_call 13; refine (dbegun_any _).mono ?_; rintro e w3 ⟨rfl, rfl⟩))
      go_ret
      exact ⟨ret_bool (by simp <;> omega), below_on b1 (Nat.le_refl _) b2⟩
  · have hr := Dm.row_no _ h
    have hb := Dm.code_bd s.data.toList
    generalize hg : Dm.code s.data.toList = k at hb h
    have HR : Hid (Dm.row s.data.toList = 0) := hr
    have HC : Hid (Dm.code s.data.toList = k) := hg
    have HN : Hid (k ≠ 0) := h
    have hk : 0 < k := by omega
    have HB : Hid (isB 0 k = false) := by show _ = _; simp [isB, h]
    clear hg h hr
    go_enter Try.func3, Try.ntmps3
    go_wp2_with (first
      | (go_at_call 8; refine (hp _).mono ?_; rintro e w' ⟨rfl, rfl⟩)
      | (go_at_call 9; refine (pDigit_no _ _ _ hs HC.out HN.out).mono ?_; rintro e w' ⟨rfl, rfl⟩)
      | (go_at_call 10; refine (pIs_is _ _ _ _ _ hs HR.out HC.out HB.out).mono ?_; rintro e w' ⟨rfl, rfl⟩)
      | (go_at_call 11; refine (hq _).mono ?_; rintro e w1 ⟨rfl, b1⟩)
      | (go_at_call 12; refine (led_at _ _ _ _ hs HR.out HC.out).mono ?_; rintro e w2 ⟨rfl, b2⟩)
      | (go_at_call 13; refine (dbegun_any _).mono ?_; rintro e w3 ⟨rfl, rfl⟩))
    go_ret
    exact ⟨ret_bool (by simp <;> omega), below_on b1 (Nat.le_refl _) b2⟩
end Go.Proofs.Ytnejkmgeonfpbaa
