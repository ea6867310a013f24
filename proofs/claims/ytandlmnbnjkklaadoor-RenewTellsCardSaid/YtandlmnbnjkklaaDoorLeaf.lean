/- The walks of the small functions of the calendar: each returns what the plain mathematics says, and leaves the world as it was. -/
import Derived.Test.YtandlmnbnjkklaaDoorBaseToRow1
import Derived.Test.YtandlmnbnjkklaaDoorCal
import Derived.WalkKit
import Derived.WalkSpells
import Derived.WalkLawsBesides
namespace Go.Proofs.YtandlmnbnjkklaaDoor
open Go.RowKit

theorem within_yes (n a b : Int) (w : World) (h1 : a ≤ n) (h2 : n ≤ b) :
    Calls Tryd.prog 98 #[.int .i64 n, .int .i64 a, .int .i64 b] w fun e w' => e = .returned (.bool true) ∧ w' = w := by
  go_enter Tryd.func98, Tryd.ntmps98
  go_wp2
  go_ret
  exact ⟨rfl, rfl⟩
theorem within_no (n a b : Int) (w : World) (h : n < a ∨ b < n) :
    Calls Tryd.prog 98 #[.int .i64 n, .int .i64 a, .int .i64 b] w fun e w' => e = .returned (.bool false) ∧ w' = w := by
  by_cases h1 : a ≤ n
  · have h2 : ¬ n ≤ b := by omega
    clear h
    go_enter Tryd.func98, Tryd.ntmps98
    go_wp2
    go_ret
    exact ⟨rfl, rfl⟩
  · clear h
    go_enter Tryd.func98, Tryd.ntmps98
    go_wp2
    go_ret
    exact ⟨rfl, rfl⟩
theorem year_yes (n : Int) (w : World) (h1 : 1 ≤ n) (h2 : n ≤ 9999) :
    Calls Tryd.prog 107 #[.int .i64 n] w fun e w' => e = .returned (.bool true) ∧ w' = w := by
  go_enter Tryd.func107, Tryd.ntmps107
  go_wp2
  go_ret
  exact ⟨rfl, rfl⟩
theorem year_no (n : Int) (w : World) (h : n < 1 ∨ 9999 < n) :
    Calls Tryd.prog 107 #[.int .i64 n] w fun e w' => e = .returned (.bool false) ∧ w' = w := by
  go_enter Tryd.func107, Tryd.ntmps107
  go_wp2_with (go_at_call 98; refine (within_no _ _ _ _ h).mono ?_; rintro e w' ⟨rfl, rfl⟩)
  go_ret
  exact ⟨rfl, rfl⟩
theorem day_yes (n : Int) (w : World) (h1 : 1 ≤ n) (h2 : n ≤ 3652059) :
    Calls Tryd.prog 82 #[.int .i64 n] w fun e w' => e = .returned (.bool true) ∧ w' = w := by
  go_enter Tryd.func82, Tryd.ntmps82
  go_wp2
  go_ret
  exact ⟨rfl, rfl⟩
theorem day_no (n : Int) (w : World) (h : n < 1 ∨ 3652059 < n) :
    Calls Tryd.prog 82 #[.int .i64 n] w fun e w' => e = .returned (.bool false) ∧ w' = w := by
  go_enter Tryd.func82, Tryd.ntmps82
  go_wp2_with (go_at_call 98; refine (within_no _ _ _ _ h).mono ?_; rintro e w' ⟨rfl, rfl⟩)
  go_ret
  exact ⟨rfl, rfl⟩
theorem ahead_any (y : Int) (w : World) (h1 : 1 ≤ y) (h2 : y ≤ 20000) :
    Calls Tryd.prog 84 #[.int .i64 y] w fun e w' => e = .returned (.int .i64 (Cal.ahead y)) ∧ w' = w := by
  go_enter Tryd.func84, Tryd.ntmps84
  go_wp2
  go_ret
  exact ⟨rfl, rfl⟩
theorem yearOf_any (n : Int) (w : World) (h1 : 1 ≤ n) (h2 : n ≤ 3652059) :
    Calls Tryd.prog 83 #[.int .i64 n] w fun e w' => e = .returned (.int .i64 (Cal.yr n)) ∧ w' = w := by
  have g := Cal.guess_in n h1 h2
  unfold Cal.guess at g
  by_cases h : Cal.ahead (Cal.guess n + 1) < n
  · have e : Cal.yr n = Cal.guess n + 1 := by unfold Cal.yr; rw [if_pos h]
    rw [e]; clear e
    unfold Cal.guess at h
    go_enter Tryd.func83, Tryd.ntmps83
    go_wp2_with (go_at_call 84; refine (ahead_any _ _ (by omega) (by omega)).mono ?_; rintro e w' ⟨rfl, rfl⟩)
    go_ret
    exact ⟨rfl, rfl⟩
  · have e : Cal.yr n = Cal.guess n := by unfold Cal.yr; rw [if_neg h]
    rw [e]; clear e
    unfold Cal.guess at h
    go_enter Tryd.func83, Tryd.ntmps83
    go_wp2_with (go_at_call 84; refine (ahead_any _ _ (by omega) (by omega)).mono ?_; rintro e w' ⟨rfl, rfl⟩)
    go_ret
    exact ⟨rfl, rfl⟩
theorem tmod_zero (y k : Int) : (y.tmod k == 0) = decide (y % k = 0) := by
  rw [Bool.eq_iff_iff]; simp [← Int.dvd_iff_tmod_eq_zero, ← Int.dvd_iff_emod_eq_zero]
theorem tmod_not (y k : Int) : (y.tmod k != 0) = !decide (y % k = 0) := by
  rw [bne, tmod_zero]
theorem leap_any (y : Int) (w : World) :
    Calls Tryd.prog 99 #[.int .i64 y] w fun e w' => e = .returned (.bool (Cal.leap y)) ∧ w' = w := by
  have E : Cal.leap y = (((y.tmod 4 == 0) && (y.tmod 100 != 0)) || (y.tmod 400 == 0)) := by unfold Cal.leap; rw [tmod_zero, tmod_not, tmod_zero]
  rw [E]; clear E
  cases h4 : (y.tmod 4 == 0) <;> cases h100 : (y.tmod 100 != 0) <;> cases h400 : (y.tmod 400 == 0)
  all_goals
    go_enter Tryd.func99, Tryd.ntmps99
    go_wp2
    go_ret
    exact ⟨rfl, rfl⟩
theorem refLeap_any (y : Int) (w : World) :
    Calls Tryd.prog 75 #[.int .i64 y] w fun e w' => e = .returned (.bool (Cal.leap y)) ∧ w' = w := by
  have E : Cal.leap y = if (y.tmod 400 == 0) = true then true else if (y.tmod 100 == 0) = true then false else (y.tmod 4 == 0) := by
    unfold Cal.leap; rw [tmod_zero, tmod_zero, tmod_zero]
    by_cases h4 : y % 4 = 0 <;> by_cases h100 : y % 100 = 0 <;> by_cases h400 : y % 400 = 0 <;> simp [h4, h100, h400] <;> omega
  rw [E]; clear E
  cases h4 : (y.tmod 4 == 0) <;> cases h100 : (y.tmod 100 == 0) <;> cases h400 : (y.tmod 400 == 0)
  all_goals
    go_enter Tryd.func75, Tryd.ntmps75
    go_wp2
    go_ret
    exact ⟨rfl, rfl⟩
/-- The table of the months' lengths lies in block 0. -/
def lens : List Int := [31, 28, 31, 30, 31, 30, 31, 31, 30, 31, 30, 31]
def Laid (w : World) : Prop := 0 < w.heap.size ∧ ∀ k : Nat, k < 12 → w.cell? ⟨0, k, none⟩ = some (.int .i64 (lens.getD k 0))
theorem lens_mlen (y m : Int) (h1 : 1 ≤ m) (h2 : m ≤ 12) : Cal.mlen y m = lens.getD (m.toNat - 1) 0 + if m = 2 then Cal.lp y else 0 := by
  have : m = 1 ∨ m = 2 ∨ m = 3 ∨ m = 4 ∨ m = 5 ∨ m = 6 ∨ m = 7 ∨ m = 8 ∨ m = 9 ∨ m = 10 ∨ m = 11 ∨ m = 12 := by omega
  rcases this with rfl | rfl | rfl | rfl | rfl | rfl | rfl | rfl | rfl | rfl | rfl | rfl <;> simp [Cal.mlen, lens]
theorem mlen_any (y m : Int) (w : World) (hw : Laid w) (h1 : 1 ≤ m) (h2 : m ≤ 12) :
    Calls Tryd.prog 85 #[.int .i64 y, .int .i64 m] w fun e w' => e = .returned (.int .i64 (Cal.mlen y m)) ∧ w' = w := by
  have hc := hw.2 (m.toNat - 1) (by omega)
  have he := lens_mlen y m h1 h2
  have hl := Cal.mlen_bd y m
  have hp := Cal.lp_cases y
  clear hw
  generalize lens.getD (m.toNat - 1) 0 = L at hc he
  by_cases hm : m = 2
  · subst hm
    have hc : w.cell? ⟨0, 1, none⟩ = some (.int .i64 L) := hc
    rw [if_pos rfl] at he
    rw [he]
    rcases hp with ⟨hp, hy⟩ | ⟨hp, hy⟩
    · rw [hp] at he ⊢
      have hL : 0 ≤ L ∧ L ≤ 31 := by omega
      clear he hl hp
      go_enter Tryd.func85, Tryd.ntmps85
      go_wp2_with (go_at_call 99; refine (leap_any _ _).mono ?_; rintro e w' ⟨rfl, rfl⟩)
      go_ret
      exact ⟨rfl, rfl⟩
    · rw [hp] at he ⊢
      clear he hl hp
      go_enter Tryd.func85, Tryd.ntmps85
      go_wp2_with (go_at_call 99; refine (leap_any _ _).mono ?_; rintro e w' ⟨rfl, rfl⟩)
      go_ret
      exact ⟨ret_int (by omega), rfl⟩
  · rw [if_neg hm] at he
    rw [he]
    clear he hl hp
    go_enter Tryd.func85, Tryd.ntmps85
    go_wp2
    go_ret
    exact ⟨ret_int (by omega), rfl⟩
end Go.Proofs.YtandlmnbnjkklaaDoor
