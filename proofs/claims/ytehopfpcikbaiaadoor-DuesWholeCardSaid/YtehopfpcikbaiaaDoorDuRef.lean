/- The document's words on dues: are two lists one; the look over dues; pence up to a day. -/
import Derived.Test.YtehopfpcikbaiaaDoorDRow
import Derived.Laws.StructEq
import Derived.Deep.QuietTactic
import Derived.BigQuiet
import Derived.Lib.QuietBelow
import Derived.Test.YtehopfpcikbaiaaDoorRef
namespace Go.Proofs.YtehopfpcikbaiaaDoor
open Go.RowKit Go.BigFrame

theorem eqDu (x y x' y' : Int) (w : World) : (Op.equalIn 10000 42 (.agg #[.int .i64 x, .int .i64 y]) (.agg #[.int .i64 x', .int .i64 y'])).run Tryd.prog w = .ok (decide ((x, y) = (x', y'))) w := by
  have u3 := Tryd.underlying3
  have a3 := Tryd.isAgg3
  have z3 := Tryd.sizeOf3
  have hS : Tryd.prog.underlying 42 = some (.struct (Tryd.prog.fieldsOf 42)) := by kernel_rfl
  have hp : Tryd.prog.stoodInHeld 42 = false := by kernel_rfl
  rw [show (10000 : Nat) = 9999 + 1 from rfl, run_equalIn_agg w 9999 42 _ _ hS hp]
  simp only [Program.fieldsOf, Tryd.underlying42]
  go_simp
  by_cases h1 : x = x' <;> by_cases h2 : y = y' <;> simp [h1, h2]
set_option maxRecDepth 100000 in
set_option maxHeartbeats 2000000 in
theorem sameDues_any (l r : List Dp.Du) (a a' : Option Addr) (cap cap' : Nat) (w : World) (hl : l.length ≤ maxLen) (hl' : r.length ≤ maxLen) (hr : RowD w a l) (hr' : RowD w a' r) :
    Calls Tryd.prog 12 #[.slice a l.length cap, .slice a' r.length cap'] w fun e w' => e = .returned (.bool (decide (l = r))) ∧ ∃ m, w' = w.drewN m := by
  unfold maxLen at hl hl'
  by_cases hlen : l.length = r.length
  · have HL : Hid (l.length = r.length) := hlen
    go_enter Tryd.func12, Tryd.ntmps12
    rw [← hlen]
    clear hlen
    go_wp2
    go_loopw [5] (fun i wr => ∃ k : Nat, k ≤ l.length ∧ i = .int .i64 k ∧ l.take k = r.take k ∧ ∃ m, wr = w.drewN m) (fun i _ => l.length - (intOf i).toNat)
    case atStart => exact ⟨0, Nat.zero_le _, rfl, rfl, 0, rfl⟩
    case round =>
      obtain ⟨k, hk, rfl, hm, m, rfl⟩ := hrel
      have HM : Hid (l.take k = r.take k) := hm
      clear hm
      by_cases hlt : k < l.length
      · have hlt' : (k : Int) < (l.length : Int) := by omega
        obtain ⟨b, off, x, y, rfl, hx, c1, c2⟩ := hr.at hlt
        obtain ⟨b', off', x', y', rfl, hx', c1', c2'⟩ := hr'.at (k := k) (by have := HL.out; omega)
        have HX : Hid (l[k]? = some (x, y) ∧ r[k]? = some (x', y')) := ⟨hx, hx'⟩
        clear hx hx'
        have heq := fun W => eqDu x y x' y' W
        by_cases e : (x, y) = (x', y')
        · rw [show decide ((x, y) = (x', y')) = true from by simpa using e] at heq
          have HE : Hid (l.take (k + 1) = r.take (k + 1)) := by
            unfold Hid; rw [Dp.take_snoc l k _ HX.out.1, Dp.take_snoc r k _ HX.out.2, HM.out, e]
          clear e
          go_wp2
          go_quiet (fail)
          go_wp2
          go_roundw
          case rel => exact ⟨k + 1, by omega, by go_num, HE.out, _, by first | rfl | simp only [World.drewN_drewN]⟩
          case measure => simp [intOf]; omega
        · rw [show decide ((x, y) = (x', y')) = false from by simpa using e] at heq
          have HE : Hid (decide (l = r) = false) := by
            unfold Hid
            simp only [decide_eq_false_iff_not]
            rintro rfl
            exact e (Option.some.inj (HX.out.1.symm.trans HX.out.2))
          clear e
          go_wp2
          go_quiet (fail)
          go_wp2
          go_ret
          refine ⟨ret_bool HE.out.symm, ?_⟩
          first | exact ⟨_, rfl⟩ | (rw [World.drewN_drewN]; exact ⟨_, rfl⟩)
      · obtain rfl : k = l.length := by omega
        have HE : Hid (decide (l = r) = true) := by
          unfold Hid
          have := HM.out
          rw [List.take_of_length_le (Nat.le_refl _), List.take_of_length_le (by rw [HL.out]; exact Nat.le_refl _)] at this
          simpa using this
        go_wp2
        go_ret
        exact ⟨ret_bool HE.out.symm, _, rfl⟩
  · have HE : Hid (decide (l = r) = false) := by
      unfold Hid
      simp only [decide_eq_false_iff_not]
      rintro rfl
      exact hlen rfl
    have hne : ((l.length : Int) != (r.length : Int)) = true := by simp; omega
    clear hlen
    go_enter Tryd.func12, Tryd.ntmps12
    go_wp2
    go_ret
    exact ⟨ret_bool HE.out.symm, 0, rfl⟩
theorem sameDues_at (l r : List Dp.Du) (a a' : Option Addr) (n n' cap cap' : Nat) (b : Bool) (w : World) (hn : l.length = n) (hn' : r.length = n') (hl : l.length ≤ maxLen) (hl' : r.length ≤ maxLen) (hb : decide (l = r) = b) (hr : RowD w a l) (hr' : RowD w a' r) :
    Calls Tryd.prog 12 #[.slice a n cap, .slice a' n' cap'] w fun e w' => e = .returned (.bool b) ∧ Below w.heap.size w w' := by
  subst hn hn' hb; exact (sameDues_any l r a a' cap cap' w hl hl' hr hr').mono fun _ _ h => ⟨h.1, drewN_below h.2⟩
set_option maxRecDepth 100000 in
set_option maxHeartbeats 2000000 in
theorem duePence_any (l : List Dp.Du) (a : Option Addr) (cap : Nat) (n : Int) (w : World) (hl : l.length ≤ 32) (hb : ∀ x ∈ l, 0 ≤ x.2 ∧ x.2 ≤ 1099511627776) (hr : RowD w a l) :
    Calls Tryd.prog 10 #[.slice a l.length cap, .int .i64 n] w fun e w' => e = .returned (.int .i64 (Dp.due l n)) ∧ w' = w := by
  have HB : Hid (∀ x ∈ l, 0 ≤ x.2 ∧ x.2 ≤ 1099511627776) := hb
  have R : Hid (RowD w a l) := hr
  obtain ⟨N, hN⟩ : ∃ N, l.length = N := ⟨_, rfl⟩
  have HN : Hid (l.length = N) := hN
  rw [hN] at hl ⊢
  clear hb hr hN
  go_enter Tryd.func10, Tryd.ntmps10
  go_wp2
  go_loop [5, 6] (fun sv iv => ∃ k : Nat, k ≤ N ∧ iv = .int .i64 k ∧ sv = .int .i64 (Dp.due (l.take k) n)) (fun _ iv => N - (intOf iv).toNat)
  case atStart => exact ⟨0, Nat.zero_le _, rfl, rfl⟩
  case round =>
    obtain ⟨k, hk, rfl, rfl⟩ := hrel
    by_cases hlt : k < N
    · have hlt' : (k : Int) < (N : Int) := by omega
      obtain ⟨b, off, d, p, rfl, hx, c1, c2⟩ := R.out.at (k := k) (by rw [HN.out]; exact hlt)
      have hbd := Dp.due_bd (l.take k) n (fun x hx => HB.out x (List.mem_of_mem_take hx))
      have hp := HB.out (d, p) (List.mem_of_getElem? hx)
      rw [List.length_take, HN.out, Nat.min_eq_left hk] at hbd
      have HT : Hid (_) := Dp.due_take l k (d, p) hx n
      obtain ⟨s0, hs0⟩ : ∃ s0, Dp.due (l.take k) n = s0 := ⟨_, rfl⟩
      have HS0 : Hid (Dp.due (l.take k) n = s0) := hs0
      rw [hs0] at hbd ⊢
      have s1 := hbd.1
      have s2 : s0 ≤ 35184372088832 := by omega
      have p1 := hp.1
      have p2 := hp.2
      simp only at p1 p2
      clear hbd hp hx hs0
      by_cases hd : d ≤ n
      · have HV : Hid (Dp.due (l.take (k + 1)) n = s0 + p) := by show _ = _; rw [HT.out, HS0.out, if_pos hd]
        go_wp2
        go_round
        case rel => exact ⟨k + 1, by omega, by go_num, by rw [HV.out]⟩
        case measure => simp [intOf]; omega
      · have HV : Hid (Dp.due (l.take (k + 1)) n = s0) := by show _ = _; rw [HT.out, HS0.out, if_neg hd, Int.add_zero]
        have hd' : decide (d ≤ n) = false := decide_eq_false hd
        go_wp2
        go_round
        case rel => exact ⟨k + 1, by omega, by go_num, by rw [HV.out]⟩
        case measure => simp [intOf]; omega
    · obtain rfl : k = N := by omega
      have HTK : Hid (l.take k = l) := by show _ = _; rw [List.take_of_length_le (by rw [HN.out]; exact Nat.le_refl _)]
      rw [HTK.out]
      obtain ⟨v, hv⟩ : ∃ v, Dp.due l n = v := ⟨_, rfl⟩
      have HVV : Hid (Dp.due l n = v) := hv
      rw [hv]
      clear hv
      go_wp2
      go_ret
      exact ⟨ret_int HVV.out.symm, rfl⟩
theorem unoDay_is (s : Int) (b : Bool) (w : World) (h : decide (s < 1 ∨ 3652059 < s) = b) : Calls Tryd.prog 20 #[.int .i64 s] w fun e w' => e = .returned (.bool b) ∧ w = w' := by
  subst h
  by_cases h1 : s < 1
  · rw [decide_eq_true (.inl h1)]
    go_enter Tryd.func20, Tryd.ntmps20
    go_wp2
    go_ret
    exact ⟨rfl, rfl⟩
  · have h1' : decide (s < 1) = false := decide_eq_false h1
    by_cases h2 : 3652059 < s
    · rw [decide_eq_true (.inr h2)]
      go_enter Tryd.func20, Tryd.ntmps20
      go_wp2
      go_ret
      exact ⟨rfl, rfl⟩
    · have h2' : decide (3652059 < s) = false := decide_eq_false h2
      rw [decide_eq_false (by omega)]
      go_enter Tryd.func20, Tryd.ntmps20
      go_wp2
      go_ret
      exact ⟨rfl, rfl⟩
set_option maxRecDepth 100000 in
set_option maxHeartbeats 4000000 in
theorem duesCheck_any (l : List Dp.Du) (a : Option Addr) (cap : Nat) (w : World) (hl : l.length ≤ maxLen) (hr : RowD w a l) :
    Calls Tryd.prog 9 #[.slice a l.length cap] w fun e w' => e = .returned (.int .i64 (Dp.chk l)) ∧ Below w.heap.size w w' := by
  unfold maxLen at hl
  have R : Hid (RowD w a l) := hr
  obtain ⟨N, hN⟩ : ∃ N, l.length = N := ⟨_, rfl⟩
  have HN : Hid (l.length = N) := hN
  by_cases h1 : 32 < N
  · have HE : Hid (Dp.chk l = 2) := by show _ = _; unfold Dp.chk; rw [if_pos (by omega)]
    rw [HE.out]
    rw [hN] at hl ⊢
    have h1' : (32 : Int) < (N : Int) := by omega
    clear hr hN
    go_enter Tryd.func9, Tryd.ntmps9
    go_wp2
    go_ret
    exact ⟨rfl, Below.refl _ _⟩
  · have HE : Hid (Dp.chk l = Dp.cat l 0) := by show _ = _; unfold Dp.chk; rw [if_neg (by omega)]; rfl
    rw [hN] at hl ⊢
    have h1' : ¬ (32 : Int) < (N : Int) := by omega
    clear hr hN
    go_enter Tryd.func9, Tryd.ntmps9
    go_wp2
    go_loopw [3] (fun iv wr => ∃ k : Nat, k ≤ N ∧ iv = .int .i64 k ∧ Dp.chk l = Dp.cat l k ∧ Below w.heap.size w wr) (fun iv _ => N - (intOf iv).toNat)
    case atStart => exact ⟨0, Nat.zero_le _, rfl, HE.out, Below.refl _ _⟩
    case round =>
      obtain ⟨k, hk, rfl, hc, hb⟩ := hrel
      have HC : Hid (Dp.chk l = Dp.cat l k) := hc
      have HB : Hid (Below w.heap.size w wr) := hb
      clear hc hb
      by_cases hlt : k < N
      · have hlt' : (k : Int) < (N : Int) := by omega
        obtain ⟨b, off, d, p, rfl, hx, c1, c2⟩ := (R.out.below HB.out).at (k := k) (by rw [HN.out]; exact hlt)
        have HX : Hid (l[k]? = some (d, p)) := hx
        have HS : Hid (_) := Dp.cat_step l k (d, p) hx
        clear hx
        by_cases d1 : d < 1 ∨ 3652059 < d
        · have HEE : Hid (Dp.chk l = 3) := by show _ = _; rw [HC.out, HS.out, if_pos (by unfold Dp.bad; simp only; omega)]
          have HD : Hid (decide (d < 1 ∨ 3652059 < d) = true) := decide_eq_true d1
          clear d1
          go_wp2_with (go_at_call 20; refine (unoDay_is _ _ _ HD.out).mono ?_; rintro e w1 ⟨rfl, rfl⟩)
          go_ret
          exact ⟨ret_int HEE.out.symm, HB.out⟩
        · have HD : Hid (decide (d < 1 ∨ 3652059 < d) = false) := decide_eq_false d1
          by_cases p1 : p < 0
          · have HEE : Hid (Dp.chk l = 3) := by show _ = _; rw [HC.out, HS.out, if_pos (by unfold Dp.bad; simp only; omega)]
            clear d1
            go_wp2_with (go_at_call 20; refine (unoDay_is _ _ _ HD.out).mono ?_; rintro e w1 ⟨rfl, rfl⟩)
            go_ret
            exact ⟨ret_int HEE.out.symm, HB.out⟩
          · have p1' : decide (p < 0) = false := decide_eq_false p1
            by_cases p2 : 1099511627776 < p
            · have HEE : Hid (Dp.chk l = 3) := by show _ = _; rw [HC.out, HS.out, if_pos (by unfold Dp.bad; simp only; omega)]
              clear d1
              go_wp2_with (go_at_call 20; refine (unoDay_is _ _ _ HD.out).mono ?_; rintro e w1 ⟨rfl, rfl⟩)
              go_ret
              exact ⟨ret_int HEE.out.symm, HB.out⟩
            · have p2' : decide (1099511627776 < p) = false := decide_eq_false p2
              have hnb : ¬ Dp.bad (d, p) := by unfold Dp.bad; simp only; omega
              by_cases hk0 : k = 0
              · subst hk0
                have HEE : Hid (Dp.chk l = Dp.cat l (0 + 1)) := by
                  show _ = _; rw [HC.out, HS.out, if_neg hnb, if_neg (by show ¬ d < 0; omega)]
                simp only [Nat.zero_mul, Nat.add_zero] at c1 c2
                have q1 := fun d os => cell_regrown c1 d os
                clear d1 hnb
                go_wp2_with (go_at_call 20; refine (unoDay_is _ _ _ HD.out).mono ?_; rintro e w1 ⟨rfl, rfl⟩)
                refine wp_region_quiet_below (by kernel_rfl) (by kernel_rfl) ?_
                repeat go_big_quiet_step (fail)
                refine wpQuiet_nil ?_
                intro _ hw'
                obtain ⟨⟨dq, osq⟩, hw''⟩ := hw'
                subst hw''
                have HB2 : Hid (Below w.heap.size w (Go.Sort.grow (redrawn wr dq) osq)) := below_on HB.out (Nat.le_refl _) (below_regrown _ _ _)
                generalize Go.Sort.grow (redrawn wr dq) osq = W2 at *
                go_wp2
                go_roundw
                case rel => exact ⟨0 + 1, by omega, by go_num, HEE.out, HB2.out⟩
                case measure => simp [intOf]; omega
              · obtain ⟨j, rfl⟩ : ∃ j, k = j + 1 := ⟨k - 1, by omega⟩
                obtain ⟨b', off', d', p', e', hx', c1', -⟩ := (R.out.below HB.out).at (k := j) (by rw [HN.out]; omega)
                obtain ⟨rfl, rfl⟩ : b = b' ∧ off = off' := by simpa using e'
                have HPV : Hid (Dp.prev l (j + 1) = d') := by show _ = _; rw [Dp.prev_succ l j _ hx']
                have ej : ((j + 1 : Nat) : Int) - 1 = (j : Int) := by omega
                have hj0 : (0 : Int) < ((j + 1 : Nat) : Int) := by omega
                have hjn : (j : Int) < (N : Int) := by omega
                clear e' hx' hk0
                have q1 := fun d os => cell_regrown c1 d os
                have q2 := fun d os => cell_regrown c1' d os
                by_cases hdd : d < d'
                · have HEE : Hid (Dp.chk l = 4) := by
                    show _ = _; rw [HC.out, HS.out, if_neg hnb, if_pos (by rw [HPV.out]; exact hdd)]
                  clear d1 hnb
                  go_wp2_with (go_at_call 20; refine (unoDay_is _ _ _ HD.out).mono ?_; rintro e w1 ⟨rfl, rfl⟩)
                  refine wp_region_quiet_below (by kernel_rfl) (by kernel_rfl) ?_
                  repeat go_big_quiet_step (fail)
                  refine wpQuiet_nil ?_
                  intro _ hw'
                  obtain ⟨⟨dq, osq⟩, hw''⟩ := hw'
                  subst hw''
                  have HB2 : Hid (Below w.heap.size w (Go.Sort.grow (redrawn wr dq) osq)) := below_on HB.out (Nat.le_refl _) (below_regrown _ _ _)
                  generalize Go.Sort.grow (redrawn wr dq) osq = W2 at *
                  go_wp2
                  go_ret
                  exact ⟨ret_int HEE.out.symm, HB2.out⟩
                · have HEE : Hid (Dp.chk l = Dp.cat l (j + 1 + 1)) := by
                    show _ = _; rw [HC.out, HS.out, if_neg hnb, if_neg (by rw [HPV.out]; exact hdd)]
                  have hdd' : decide (d < d') = false := decide_eq_false hdd
                  clear d1 hnb
                  go_wp2_with (go_at_call 20; refine (unoDay_is _ _ _ HD.out).mono ?_; rintro e w1 ⟨rfl, rfl⟩)
                  refine wp_region_quiet_below (by kernel_rfl) (by kernel_rfl) ?_
                  repeat go_big_quiet_step (fail)
                  refine wpQuiet_nil ?_
                  intro _ hw'
                  obtain ⟨⟨dq, osq⟩, hw''⟩ := hw'
                  subst hw''
                  have HB2 : Hid (Below w.heap.size w (Go.Sort.grow (redrawn wr dq) osq)) := below_on HB.out (Nat.le_refl _) (below_regrown _ _ _)
                  generalize Go.Sort.grow (redrawn wr dq) osq = W2 at *
                  go_wp2
                  go_roundw
                  case rel => exact ⟨j + 1 + 1, by omega, by go_num, HEE.out, HB2.out⟩
                  case measure => simp [intOf]; omega
      · have HEE : Hid (Dp.chk l = 0) := by
          have : k = l.length := by rw [HN.out]; omega
          show _ = _; rw [HC.out, this]; exact Dp.cat_end l
        go_wp2
        go_ret
        exact ⟨ret_int HEE.out.symm, HB.out⟩
end Go.Proofs.YtehopfpcikbaiaaDoor
