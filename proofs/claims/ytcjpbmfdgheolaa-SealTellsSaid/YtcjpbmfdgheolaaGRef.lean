/- The walks of the document's own tags: words turned and xored bit by bit. -/
import Derived.Test.YtcjpbmfdgheolaaGWk
namespace Go.Proofs.Ytcjpbmfdgheolaa
open Go.RowKit

theorem turn_one (y : Tg.W) : IntKind.u64.wrap (IntKind.u64.wrap (2 * wd y) + wd y / 9223372036854775808) = wd (Tg.rl y 1) := by
  have h := y.isLt
  rw [← turned_is y 1 (by decide)]
  have h1 : y.toNat * 2 ^ 1 % 18446744073709551616 < 18446744073709551616 := Nat.mod_lt _ (by decide)
  have h2 : y.toNat / 2 ^ (64 - 1) < 18446744073709551616 := Nat.lt_of_le_of_lt (Nat.div_le_self _ _) y.isLt
  rw [bits_or_u64_nat _ _ h1 h2, nat_join 1 _ _ (by omega) (by omega)]
  unfold wd
  rw [IntKind.wrap_u64, IntKind.wrap_u64]
  omega
theorem u64_tdiv (x c : Int) (h0 : 0 ≤ x) (h1 : x < 18446744073709551616) (hc : 0 < c) : IntKind.u64.wrap (x.tdiv c) = x / c := by
  rw [Int.tdiv_eq_ediv_of_nonneg h0, IntKind.wrap_u64]
  have a := Int.ediv_nonneg h0 (Int.le_of_lt hc)
  have b := Int.ediv_le_self c h0
  exact Int.emod_eq_of_lt a (by omega)
set_option maxHeartbeats 400000 in
theorem turned_any (x : Tg.W) (r : Nat) (hr : r < 64) (w : World) :
    Calls Try.prog 49 #[.int .u64 (wd x), .int .i64 r] w fun e w' => e = .returned (.int .u64 (wd (Tg.rl x r))) ∧ w' = w := by
  go_enter Try.func49, Try.ntmps49
  go_wp2
  go_loop [0, 5, 6] (fun nv iv _ => ∃ k : Nat, k ≤ r ∧ iv = .int .i64 k ∧ nv = .int .u64 (wd (Tg.rl x k))) (fun _ iv _ => r - (intOf iv).toNat)
  case atStart => exact ⟨0, Nat.zero_le _, rfl, by rw [Tg.rl_zero]⟩
  case round =>
    obtain ⟨k, hk, rfl, rfl⟩ := hrel
    by_cases hlt : k < r
    · have hy := wd_lo (Tg.rl x k)
      have HS : Hid (IntKind.u64.wrap (IntKind.u64.wrap (2 * wd (Tg.rl x k)) + wd (Tg.rl x k) / 9223372036854775808) = wd (Tg.rl x (k + 1))) := by
        show _ = _
        rw [turn_one, Tg.rl_rl _ _ _ (by omega) (by omega) (by omega)]
      have hlz : (k : Int) < (r : Int) := by omega
      have hq := u64_tdiv (wd (Tg.rl x k)) 9223372036854775808 hy (wd_hi _) (by decide)
      generalize wd (Tg.rl x k) = Y at *
      go_wp2
      go_round
      case rel => exact ⟨k + 1, by omega, by go_num, congrArg (Value.int .u64) HS.out⟩
      case measure => simp [intOf]; omega
    · obtain rfl : k = r := by omega
      go_wp2
      go_ret
      exact ⟨rfl, rfl⟩
theorem turned_at (x : Tg.W) (k : Int) (h0 : 0 ≤ k) (h1 : k < 64) (w : World) :
    Calls Try.prog 49 #[.int .u64 (wd x), .int .i64 k] w fun e w' => e = .returned (.int .u64 (wd (Tg.rl x k.toNat))) ∧ w' = w := by
  obtain ⟨r, rfl⟩ := Int.eq_ofNat_of_zero_le h0
  exact turned_any x r (by omega) w
theorem xor_step (A B k : Nat) (_h : k < 64) : (A ^^^ B) % 2 ^ (k + 1) = (A ^^^ B) % 2 ^ k + (if A / 2 ^ k % 2 = B / 2 ^ k % 2 then 0 else 2 ^ k) := by
  rw [Nat.mod_pow_succ, Nat.xor_div_two_pow]
  have e : (A / 2 ^ k ^^^ B / 2 ^ k) % 2 = (A / 2 ^ k % 2) ^^^ (B / 2 ^ k % 2) := by
    have := Nat.xor_mod_two_pow (a := A / 2 ^ k) (b := B / 2 ^ k) (n := 1)
    simpa using this
  rw [e]
  have hs : A / 2 ^ k % 2 < 2 := Nat.mod_lt _ (by decide)
  have ht : B / 2 ^ k % 2 < 2 := Nat.mod_lt _ (by decide)
  generalize A / 2 ^ k % 2 = s at *
  generalize B / 2 ^ k % 2 = t at *
  match s, t, hs, ht with
  | 0, 0, _, _ => simp
  | 0, 1, _, _ => simp
  | 1, 0, _, _ => simp
  | 1, 1, _, _ => simp
/-- where the loop over bits stands -/
def XAt (A B : Nat) (k : Nat) (p q o u : Int) : Prop := p = ((A / 2 ^ k : Nat) : Int) ∧ q = ((B / 2 ^ k : Nat) : Int) ∧ o = (((A ^^^ B) % 2 ^ k : Nat) : Int) ∧ u = ((2 ^ k % 18446744073709551616 : Nat) : Int)
theorem half_cast (A k : Nat) : ((A / 2 ^ k : Nat) : Int) / 2 = ((A / 2 ^ (k + 1) : Nat) : Int) := by
  rw [Nat.pow_succ, ← Nat.div_div_eq_div_mul]; omega
theorem XAt.bd {A B k : Nat} {p q o u : Int} (h : XAt A B k p q o u) (hk : k < 64) : 0 ≤ p ∧ 0 ≤ q ∧ 0 ≤ o ∧ 0 ≤ u ∧ o + u < 18446744073709551616 := by
  obtain ⟨rfl, rfl, rfl, rfl⟩ := h
  have h1 : (A ^^^ B) % 2 ^ k < 2 ^ k := Nat.mod_lt _ (Nat.pow_pos (by decide))
  have h2 : 2 ^ (k + 1) ≤ 2 ^ 64 := Nat.pow_le_pow_right (by decide) (by omega)
  have h3 : 2 ^ k < 2 ^ 64 := Nat.pow_lt_pow_right (by decide) hk
  rw [Nat.pow_succ] at h2
  rw [Nat.mod_eq_of_lt (show 2 ^ k < 18446744073709551616 from h3)]
  have e64 : (2 : Nat) ^ 64 = 18446744073709551616 := by decide
  rw [e64] at h2
  have hp : 0 ≤ ((A / 2 ^ k : Nat) : Int) := Int.natCast_nonneg _
  have hq : 0 ≤ ((B / 2 ^ k : Nat) : Int) := Int.natCast_nonneg _
  refine ⟨hp, hq, Int.natCast_nonneg _, Int.natCast_nonneg _, ?_⟩
  generalize 2 ^ k = P at *
  omega
theorem XAt.lt {A B k : Nat} {p q o u : Int} (h : XAt A B k p q o u) (hA : A < 18446744073709551616) (hB : B < 18446744073709551616) : p < 18446744073709551616 ∧ q < 18446744073709551616 := by
  obtain ⟨rfl, rfl, rfl, rfl⟩ := h
  have h1 := Nat.div_le_self A (2 ^ k)
  have h2 := Nat.div_le_self B (2 ^ k)
  generalize A / 2 ^ k = a at *
  generalize B / 2 ^ k = b at *
  omega
theorem XAt.go {A B k : Nat} {p q o u : Int} (h : XAt A B k p q o u) (hk : k < 64) : XAt A B (k + 1) (p / 2) (q / 2) (if p % 2 = q % 2 then o else o + u) (IntKind.u64.wrap (u * 2)) := by
  obtain ⟨rfl, rfl, rfl, rfl⟩ := h
  have e64 : (2 : Nat) ^ 64 = 18446744073709551616 := by decide
  have h3 : 2 ^ k < 2 ^ 64 := Nat.pow_lt_pow_right (by decide) hk
  rw [e64] at h3
  refine ⟨half_cast A k, half_cast B k, ?_, ?_⟩
  · rw [xor_step A B k hk, Nat.mod_eq_of_lt h3]
    by_cases c : A / 2 ^ k % 2 = B / 2 ^ k % 2
    · rw [if_pos c, if_pos (by omega)]; simp
    · rw [if_neg c, if_neg (by omega)]; omega
  · rw [IntKind.wrap_u64, Nat.pow_succ, Nat.mod_eq_of_lt h3]; omega
set_option maxHeartbeats 400000 in
theorem xored_any (x y : Tg.W) (w : World) :
    Calls Try.prog 46 #[.int .u64 (wd x), .int .u64 (wd y)] w fun e w' => e = .returned (.int .u64 (wd (x ^^^ y))) ∧ w' = w := by
  go_enter Try.func46, Try.ntmps46
  go_wp2
  go_loop [0, 1, 5, 6, 7] (fun av bv ov uv iv => ∃ (k : Nat) (p q o u : Int), k ≤ 64 ∧ iv = .int .i64 k ∧ av = .int .u64 p ∧ bv = .int .u64 q ∧ ov = .int .u64 o ∧ uv = .int .u64 u ∧ XAt x.toNat y.toNat k p q o u) (fun _ _ _ _ iv => 64 - (intOf iv).toNat)
  case atStart => exact ⟨0, _, _, _, _, Nat.zero_le _, rfl, rfl, rfl, rfl, rfl, by unfold XAt wd; simp [Nat.mod_one]⟩
  case round =>
    obtain ⟨k, p, q, o, u, hk, rfl, rfl, rfl, rfl, rfl, HX0⟩ := hrel
    have HX : Hid (XAt x.toNat y.toNat k p q o u) := HX0
    clear HX0
    by_cases hlt : k < 64
    · obtain ⟨b1, b2, b3, b4, b5⟩ := HX.out.bd hlt
      have HN : Hid (XAt x.toNat y.toNat (k + 1) (p / 2) (q / 2) (if p % 2 = q % 2 then o else o + u) (IntKind.u64.wrap (u * 2))) := HX.out.go hlt
      have hlz : (k : Int) < 64 := by omega
      have hq1 := u64_tdiv p 2 b1 (HX.out.lt x.isLt y.isLt).1 (by decide)
      have hq2 := u64_tdiv q 2 b2 (HX.out.lt x.isLt y.isLt).2 (by decide)
      by_cases hd : p % 2 = q % 2
      · have HM : Hid (XAt x.toNat y.toNat (k + 1) (p / 2) (q / 2) o (IntKind.u64.wrap (u * 2))) := by have := HN.out; rwa [if_pos hd] at this
        have hdb : (p % 2 != q % 2) = false := by simp [hd]
        clear hd HN
        go_wp2
        go_round
        case rel => exact ⟨k + 1, _, _, _, _, by omega, by go_num, rfl, rfl, rfl, rfl, HM.out⟩
        case measure => simp [intOf]; omega
      · have HM : Hid (XAt x.toNat y.toNat (k + 1) (p / 2) (q / 2) (o + u) (IntKind.u64.wrap (u * 2))) := by have := HN.out; rwa [if_neg hd] at this
        have hdb : (p % 2 != q % 2) = true := by simp [hd]
        clear HN
        go_wp2
        go_round
        case rel => exact ⟨k + 1, _, _, _, _, by omega, by go_num, rfl, rfl, rfl, rfl, HM.out⟩
        case measure => simp [intOf]; omega
    · obtain rfl : k = 64 := by omega
      go_wp2
      go_ret
      refine ⟨ret_int ?_, rfl⟩
      rw [HX.out.2.2.1]
      unfold wd
      rw [BitVec.toNat_xor, Nat.mod_eq_of_lt (Nat.xor_lt_two_pow x.isLt y.isLt)]
end Go.Proofs.Ytcjpbmfdgheolaa
