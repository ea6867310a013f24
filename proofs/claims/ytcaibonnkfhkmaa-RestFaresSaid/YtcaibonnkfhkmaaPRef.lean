/- The reference's answers on amounts: sums and parts. -/
import Derived.Test.YtcaibonnkfhkmaaPPart2
namespace Go.Proofs.Ytcaibonnkfhkmaa
open Go.RowKit

theorem noAmt_any (n : Int) (w : World) :
    Calls Try.prog 33 #[.int .i64 n] w fun e w' => e = .returned (.bool (!Pen.amt n)) ∧ w' = w := by
  by_cases h1 : n < -1099511627776
  · have e : (!Pen.amt n) = true := by rw [Pen.amt_not n (.inl h1)]; rfl
    rw [e]; clear e
    go_enter Try.func33, Try.ntmps33
    go_wp2
    go_ret
    exact ⟨rfl, rfl⟩
  · by_cases h2 : 1099511627776 < n
    · have e : (!Pen.amt n) = true := by rw [Pen.amt_not n (.inr h2)]; rfl
      rw [e]; clear e
      go_enter Try.func33, Try.ntmps33
      go_wp2
      go_ret
      exact ⟨rfl, rfl⟩
    · have e : (!Pen.amt n) = false := by rw [Pen.amt_mk n (by omega) (by omega)]; rfl
      rw [e]; clear e
      go_enter Try.func33, Try.ntmps33
      go_wp2
      go_ret
      exact ⟨rfl, rfl⟩
theorem noAmt_is (n : Int) (b : Bool) (w : World) (h : Pen.amt n = b) :
    Calls Try.prog 33 #[.int .i64 n] w fun e w' => e = .returned (.bool (!b)) ∧ w' = w := by
  subst h; exact noAmt_any n w
theorem floorP_any (a d : Int) (w : World) (h1 : -109951162777600000 ≤ a) (h2 : a ≤ 109951162777600000) (h3 : 1 ≤ d) (h4 : d ≤ 100000) :
    Calls Try.prog 34 #[.int .i64 a, .int .i64 d] w fun e w' => e = .returned (.int .i64 (a / d)) ∧ w' = w := by
  have hd0 : d ≠ 0 := by omega
  have hd1 : ¬ d < 0 := by omega
  by_cases hs : 0 ≤ a
  · have q0 : 0 ≤ a / d := Int.ediv_nonneg hs (by omega)
    have q1 : a / d ≤ a := Int.ediv_le_self _ hs
    by_cases h0 : a % d = 0
    all_goals
      go_enter Try.func34, Try.ntmps34
      go_wp2
      go_ret
      exact ⟨rfl, rfl⟩
  · have t1 : a.tdiv d = -((-a) / d) := by
      have : a.tdiv d = -((-a).tdiv d) := by rw [Int.neg_tdiv]; omega
      rw [this, Int.tdiv_eq_ediv_of_nonneg (by omega)]
    have t2 : a.tmod d = -((-a) % d) := by
      have : a.tmod d = -((-a).tmod d) := by rw [Int.neg_tmod]; omega
      rw [this, Int.tmod_eq_emod_of_nonneg (by omega)]
    have hs' : a < 0 := by omega
    obtain ⟨f1, f2, f3⟩ := Pen.div_facts (-a) d (by omega)
    have q0 : 0 ≤ -a / d := Int.ediv_nonneg (by omega) (by omega)
    have q1 : -a / d ≤ -a := Int.ediv_le_self _ (by omega)
    generalize -a / d = Q at *
    generalize -a % d = R at *
    have F : Hid (-a = Q * d + R) := f1
    clear f1 hs
    by_cases h0 : R = 0
    · subst h0
      have HE : Hid (-Q = a / d) := by
        have := (Pen.div_one a d (-Q) 0 (by omega) (by rw [Int.neg_mul]; have := F.out; omega) (by omega) (by omega)).1
        exact this.symm
      have t3 : a.tmod d = 0 := by omega
      clear t2
      go_enter Try.func34, Try.ntmps34
      go_wp2
      go_ret
      exact ⟨ret_int HE.out, rfl⟩
    · have HE : Hid (-Q - 1 = a / d) := by
        have := (Pen.div_one a d (-Q - 1) (d - R) (by omega) (by rw [Int.sub_mul, Int.neg_mul]; have := F.out; omega) (by omega) (by omega)).1
        exact this.symm
      have t3 : ¬ a.tmod d = 0 := by omega
      clear t2
      go_enter Try.func34, Try.ntmps34
      go_wp2
      go_ret
      exact ⟨ret_int HE.out, rfl⟩
end Go.Proofs.Ytcaibonnkfhkmaa
