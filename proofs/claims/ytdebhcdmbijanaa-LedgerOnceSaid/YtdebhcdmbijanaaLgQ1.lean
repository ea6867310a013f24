/- The program's small walks over lines: an account, what a line moves, the look over a posting's lines, over a posting. -/
import Derived.Test.YtdebhcdmbijanaaLgW3
import Derived.Test.YtdebhcdmbijanaaPPart
namespace Go.Proofs.Ytdebhcdmbijanaa
open Go.RowKit Go.BigFrame

theorem lwithin_any (n a b : Int) (w : World) :
    Calls Try.prog 33 #[.int .i64 n, .int .i64 a, .int .i64 b] w fun e w' => e = .returned (.bool (decide (a ≤ n ∧ n ≤ b))) ∧ w' = w := by
  by_cases h1 : a ≤ n
  · by_cases h2 : n ≤ b
    · have e : decide (a ≤ n ∧ n ≤ b) = true := by simp; omega
      rw [e]; clear e
      go_enter Try.func33, Try.ntmps33
      go_wp2
      go_ret
      exact ⟨rfl, rfl⟩
    · have e : decide (a ≤ n ∧ n ≤ b) = false := by simp; omega
      rw [e]; clear e
      go_enter Try.func33, Try.ntmps33
      go_wp2
      go_ret
      exact ⟨rfl, rfl⟩
  · have e : decide (a ≤ n ∧ n ≤ b) = false := by simp; omega
    rw [e]; clear e
    have h1' : decide (a ≤ n) = false := by simpa using h1
    go_enter Try.func33, Try.ntmps33
    go_wp2
    go_ret
    exact ⟨rfl, rfl⟩
theorem lacc_any (n : Int) (b : Bool) (w : World) (hb : decide (1 ≤ n ∧ n ≤ 5) = b) :
    Calls Try.prog 23 #[.int .i64 n] w fun e w' => e = .returned (.bool b) ∧ w' = w := by
  subst hb
  go_enter Try.func23, Try.ntmps23
  go_wp2_with (go_at_call 33; refine (lwithin_any _ _ _ _).mono ?_; rintro e w' ⟨rfl, rfl⟩)
  go_ret
  exact ⟨ret_bool (by simp), rfl⟩
namespace Lg
theorem totE_one (n : Int) : Pen.totE [n, 0] = if far n = true then 3 else 0 := by
  unfold Pen.totE Pen.bad
  cases h : far n with
  | true =>
    have : Pen.amt n = false := by
      unfold far at h
      exact Pen.amt_not n (by simpa using h)
    simp [this]
  | false =>
    have h2 := (far_iff n).1 h
    have h3 : Pen.amt n = true := Pen.amt_mk n h2.1 h2.2
    have h4 : Pen.amt 0 = true := by decide
    simp [h3, h4]
end Lg
theorem lmoved_any (n : Int) (b : Bool) (w : World) (hb : (!Lg.far n && decide (n ≠ 0)) = b) :
    Calls Try.prog 35 #[.int .i64 n] w fun e w' => e = .returned (.bool b) ∧ Below w.heap.size w w' := by
  subst hb
  have ht := Lg.totE_one n
  cases hf : Lg.far n with
  | true =>
    rw [hf, if_pos rfl] at ht
    have HT : Hid (Pen.totE [n, 0] = 3) := ht
    clear ht hf
    go_enter Try.func35, Try.ntmps35
    go_wp2_with (go_at_call 36; refine (pAdd_any n 0 _).mono ?_; rintro e w1 ⟨rfl, hb⟩; rw [HT.out])
    go_ret
    exact ⟨rfl, hb⟩
  | false =>
    rw [hf, if_neg (by decide)] at ht
    have HT : Hid (Pen.totE [n, 0] = 0) := ht
    clear ht hf
    by_cases h0 : n = 0
    · subst h0
      go_enter Try.func35, Try.ntmps35
      go_wp2_with (go_at_call 36; refine (pAdd_any _ 0 _).mono ?_; rintro e w1 ⟨rfl, hb⟩; rw [HT.out])
      go_ret
      exact ⟨rfl, hb⟩
    · have h0' : (n != 0) = true := by simpa using h0
      have HE : Hid ((!false && decide (n ≠ 0)) = true) := by show _ = _; simp [h0]
      rw [HE.out]
      clear h0
      go_enter Try.func35, Try.ntmps35
      go_wp2_with (go_at_call 36; refine (pAdd_any n 0 _).mono ?_; rintro e w1 ⟨rfl, hb⟩; rw [HT.out])
      go_ret
      exact ⟨rfl, hb⟩
end Go.Proofs.Ytdebhcdmbijanaa
