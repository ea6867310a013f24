/- The walk of the document's rings: are two rings one. -/
import Derived.Test.YtcjpbmfdgheolaaRPl
import Derived.Laws.StructEq
namespace Go.Proofs.Ytcjpbmfdgheolaa
open Go.RowKit

theorem eqEp (n n' : Int) (A A' B B' : Tg.W) (w : World) : (Op.equalIn 10000 40 (.agg #[.int .i64 n, .int .u64 (wd A), .int .u64 (wd B)]) (.agg #[.int .i64 n', .int .u64 (wd A'), .int .u64 (wd B')])).run Try.prog w = .ok (decide ((n, A, B) = (n', A', B'))) w := by
  have u3 := Try.underlying3
  have a3 := Try.isAgg3
  have z3 := Try.sizeOf3
  have uk := Try.underlying25
  have ak := Try.isAgg25
  have zk := Try.sizeOf25
  have uu := Try.underlying23
  have au := Try.isAgg23
  have zu := Try.sizeOf23
  have hS : Try.prog.underlying 40 = some (.struct (Try.prog.fieldsOf 40)) := by kernel_rfl
  have hp : Try.prog.stoodInHeld 40 = false := by kernel_rfl
  have hS' : Try.prog.underlying 25 = some (.struct (Try.prog.fieldsOf 25)) := by kernel_rfl
  have hp' : Try.prog.stoodInHeld 25 = false := by kernel_rfl
  rw [show (10000 : Nat) = 9999 + 1 from rfl, run_equalIn_agg w 9999 40 _ _ hS hp]
  simp only [Program.fieldsOf, Try.underlying40]
  go_simp
  simp only [wd_inj]
  by_cases h1 : n = n' <;> by_cases h2 : A = A' <;> by_cases h3 : B = B' <;> simp [h1, h2, h3]
theorem Rg.take_succ_of (l : List Rg.Ep) (k : Nat) (e : Rg.Ep) (h : l[k]? = some e) : l.take (k + 1) = l.take k ++ [e] := by
  obtain ⟨hk, he⟩ := List.getElem?_eq_some_iff.1 h
  rw [List.take_succ_eq_append_getElem hk, he]
set_option maxRecDepth 100000 in
set_option maxHeartbeats 2000000 in
theorem sameRing_any (l r : List Rg.Ep) (a a' : Option Addr) (cap cap' : Nat) (w : World) (hl : l.length ≤ maxLen) (hl' : r.length ≤ maxLen) (hr : Row3 w a l) (hr' : Row3 w a' r) :
    Calls Try.prog 15 #[.slice a l.length cap, .slice a' r.length cap'] w fun e w' => e = .returned (.bool (decide (l = r))) ∧ ∃ m, w' = w.drewN m := by
  unfold maxLen at hl hl'
  by_cases hlen : l.length = r.length
  · have HL : Hid (l.length = r.length) := hlen
    go_enter Try.func15, Try.ntmps15
    rw [← hlen]
    clear hlen
    go_wp2
    go_loopw [5] (fun i wr => ∃ k : Nat, k ≤ l.length ∧ i = .int .i64 k ∧ l.take k = r.take k ∧ ∃ m, wr = w.drewN m) (fun i _ => l.length - (intOf i).toNat)
    case atStart => exact ⟨0, Nat.zero_le _, rfl, rfl, 0, rfl⟩
    case round =>
      obtain ⟨k, hk, rfl, hm, m, rfl⟩ := hrel
      have HM : Hid (l.take k = r.take k) := hm
      clear hm
      by_cases hlt : k < l.length
      · have hlt' : (k : Int) < (l.length : Int) := by omega
        obtain ⟨b, off, n, A, B, rfl, hbs, hx, c1, c2, c3⟩ := hr.at hlt
        obtain ⟨b', off', n', A', B', rfl, hbs', hx', c1', c2', c3'⟩ := hr'.at (k := k) (by have := HL.out; omega)
        have HX : Hid (l[k]? = some (n, A, B) ∧ r[k]? = some (n', A', B')) := ⟨hx, hx'⟩
        clear hx hx'
        have heq := fun W => eqEp n n' A A' B B' W
        by_cases e : (n, A, B) = (n', A', B')
        · rw [show decide ((n, A, B) = (n', A', B')) = true from by simpa using e] at heq
          have HE : Hid (l.take (k + 1) = r.take (k + 1)) := by
            unfold Hid; rw [Rg.take_succ_of l k _ HX.out.1, Rg.take_succ_of r k _ HX.out.2, HM.out, e]
          clear e
          go_wp2
          go_quiet (fail)
          go_wp2
          go_roundw
          case rel => exact ⟨k + 1, by omega, by go_num, HE.out, _, by first | rfl | simp only [World.drewN_drewN]⟩
          case measure => simp [intOf]; omega
        · rw [show decide ((n, A, B) = (n', A', B')) = false from by simpa using e] at heq
          have HE : Hid (decide (l = r) = false) := by
            unfold Hid
            simp only [decide_eq_false_iff_not]
            rintro rfl
            exact e (Option.some.inj (HX.out.1.symm.trans HX.out.2))
          clear e
          go_wp2
          go_quiet (fail)
          go_wp2
          go_ret
          exact ⟨ret_bool HE.out.symm, m + nq, by first | rfl | simp only [World.drewN_drewN]⟩
      · obtain rfl : k = l.length := by omega
        have HE : Hid (decide (l = r) = true) := by
          unfold Hid
          have := HM.out
          rw [List.take_of_length_le (Nat.le_refl _), List.take_of_length_le (by rw [HL.out]; exact Nat.le_refl _)] at this
          simpa using this
        go_wp2
        go_ret
        exact ⟨ret_bool HE.out.symm, _, rfl⟩
  · have HE : Hid (decide (l = r) = false) := by
      unfold Hid
      simp only [decide_eq_false_iff_not]
      rintro rfl
      exact hlen rfl
    have hne : ((l.length : Int) != (r.length : Int)) = true := by simp; omega
    clear hlen
    go_enter Try.func15, Try.ntmps15
    go_wp2
    go_ret
    exact ⟨ret_bool HE.out.symm, 0, rfl⟩
end Go.Proofs.Ytcjpbmfdgheolaa
