/- The program's look over dues, and what is paid of them. -/
import Derived.Test.YtehopfpcikbaiaaDoorDRow
import Derived.Laws.StructEq
import Derived.Deep.QuietTactic
import Derived.BigQuiet
import Derived.Lib.QuietBelow
import Derived.Test.YtehopfpcikbaiaaDoorRef
namespace Go.Proofs.YtehopfpcikbaiaaDoor
open Go.RowKit Go.BigFrame

theorem dWithin_any (n a b : Int) (w : World) :
    Calls Tryd.prog 27 #[.int .i64 n, .int .i64 a, .int .i64 b] w fun e w' => e = .returned (.bool (decide (a ≤ n ∧ n ≤ b))) ∧ w = w' := by
  by_cases h1 : a ≤ n
  · by_cases h2 : n ≤ b
    · have e : decide (a ≤ n ∧ n ≤ b) = true := by simp; omega
      rw [e]; clear e
      go_enter Tryd.func27, Tryd.ntmps27
      go_wp2
      go_ret
      exact ⟨rfl, rfl⟩
    · have e : decide (a ≤ n ∧ n ≤ b) = false := by simp; omega
      rw [e]; clear e
      go_enter Tryd.func27, Tryd.ntmps27
      go_wp2
      go_ret
      exact ⟨rfl, rfl⟩
  · have e : decide (a ≤ n ∧ n ≤ b) = false := by simp; omega
    rw [e]; clear e
    have h1' : decide (a ≤ n) = false := by simpa using h1
    go_enter Tryd.func27, Tryd.ntmps27
    go_wp2
    go_ret
    exact ⟨rfl, rfl⟩
theorem dWithin_is (n a b : Int) (v : Bool) (w : World) (h : decide (a ≤ n ∧ n ≤ b) = v) :
    Calls Tryd.prog 27 #[.int .i64 n, .int .i64 a, .int .i64 b] w fun e w' => e = .returned (.bool v) ∧ w = w' := by
  subst h; exact dWithin_any n a b w
theorem dDay_is (n : Int) (v : Bool) (w : World) (h : decide (1 ≤ n ∧ n ≤ 3652059) = v) :
    Calls Tryd.prog 26 #[.int .i64 n] w fun e w' => e = .returned (.bool v) ∧ w = w' := by
  go_enter Tryd.func26, Tryd.ntmps26
  go_wp2_with (go_at_call 27; refine (dWithin_is _ _ _ _ _ h).mono ?_; rintro e w1 ⟨rfl, rfl⟩)
  go_ret
  exact ⟨rfl, rfl⟩
set_option maxRecDepth 100000 in
set_option maxHeartbeats 2000000 in
theorem pDCheck_any (l : List Dp.Du) (a : Option Addr) (cap : Nat) (w : World) (hl : l.length ≤ maxLen ∧ l.length ≤ cap) (hr : RowD w a l) :
    Calls Tryd.prog 13 #[.slice a l.length cap] w fun e w' => e = .returned (.int .i64 (Dp.chk l)) ∧ Below w.heap.size w w' := by
  obtain ⟨hl, -⟩ := hl
  unfold maxLen at hl
  have R : Hid (RowD w a l) := hr
  obtain ⟨N, hN⟩ : ∃ N, l.length = N := ⟨_, rfl⟩
  have HN : Hid (l.length = N) := hN
  by_cases h1 : 32 < N
  · have HE : Hid (Dp.chk l = 2) := by show _ = _; unfold Dp.chk; rw [if_pos (by omega)]
    rw [HE.out]
    rw [hN] at hl ⊢
    have h1' : (32 : Int) < (N : Int) := by omega
    clear hr hN
    go_enter Tryd.func13, Tryd.ntmps13
    go_wp2
    go_ret
    exact ⟨rfl, Below.refl _ _⟩
  · have HE : Hid (Dp.chk l = Dp.cat l 0) := by show _ = _; unfold Dp.chk; rw [if_neg (by omega)]; rfl
    rw [hN] at hl ⊢
    have h1' : ¬ (32 : Int) < (N : Int) := by omega
    clear hr hN
    go_enter Tryd.func13, Tryd.ntmps13
    go_wp2
    go_loopw [10] (fun iv wr => ∃ k : Nat, k ≤ N ∧ iv = .int .i64 k ∧ Dp.chk l = Dp.cat l k ∧ Below w.heap.size w wr) (fun iv _ => N - (intOf iv).toNat)
    case atStart => exact ⟨0, Nat.zero_le _, rfl, HE.out, Below.refl _ _⟩
    case round =>
      obtain ⟨k, hk, rfl, hc, hb⟩ := hrel
      have HC : Hid (Dp.chk l = Dp.cat l k) := hc
      have HB : Hid (Below w.heap.size w wr) := hb
      clear hc hb
      by_cases hlt : k < N
      · have hlt' : (k : Int) < (N : Int) := by omega
        obtain ⟨b, off, d, p, rfl, hx, c1, c2⟩ := (R.out.below HB.out).at (k := k) (by rw [HN.out]; exact hlt)
        have HX : Hid (l[k]? = some (d, p)) := hx
        have HS : Hid (_) := Dp.cat_step l k (d, p) hx
        have HB2 : Hid (Below w.heap.size w (wr.alloc (.cells #[.int .i64 d, .int .i64 p] 42))) := HB.out.alloc HB.out.size _
        clear hx
        by_cases d1 : 1 ≤ d ∧ d ≤ 3652059
        · have HD : Hid (decide (1 ≤ d ∧ d ≤ 3652059) = true) := decide_eq_true d1
          by_cases p1 : 0 ≤ p ∧ p ≤ 1099511627776
          · have HP : Hid (decide (0 ≤ p ∧ p ≤ 1099511627776) = true) := decide_eq_true p1
            have hnb : ¬ Dp.bad (d, p) := by unfold Dp.bad; simp only; omega
            by_cases hk0 : k = 0
            · subst hk0
              have HEE : Hid (Dp.chk l = Dp.cat l (0 + 1)) := by
                show _ = _; rw [HC.out, HS.out, if_neg hnb, if_neg (by show ¬ d < 0; omega)]
              simp only [Nat.zero_mul, Nat.add_zero] at c1 c2
              clear d1 p1 hnb
              go_wp2_with (first
                | (go_at_call 26; refine (dDay_is _ _ _ HD.out).mono ?_; rintro e w1 ⟨rfl, rfl⟩)
                | (go_at_call 27; refine (dWithin_is _ _ _ _ _ HP.out).mono ?_; rintro e w1 ⟨rfl, rfl⟩))
              refine wp_region_quiet_below (by kernel_rfl) (by kernel_rfl) ?_
              repeat go_big_quiet_step (fail)
              refine wpQuiet_nil ?_
              intro _ hw'
              obtain ⟨⟨dq, osq⟩, hw''⟩ := hw'
              subst hw''
              have HB3 : Hid (Below w.heap.size w (Go.Sort.grow (redrawn _ dq) osq)) := below_on HB2.out (Nat.le_refl _) (below_regrown _ _ _)
              generalize Go.Sort.grow (redrawn _ dq) osq = W2 at *
              go_wp2
              go_roundw
              case rel => exact ⟨0 + 1, by omega, by go_num, HEE.out, HB3.out⟩
              case measure => simp [intOf]; omega
            · obtain ⟨j, rfl⟩ : ∃ j, k = j + 1 := ⟨k - 1, by omega⟩
              obtain ⟨b', off', d', p', e', hx', c1', -⟩ := (R.out.below HB2.out).at (k := j) (by rw [HN.out]; omega)
              obtain ⟨rfl, rfl⟩ : b = b' ∧ off = off' := by simpa using e'
              have HPV : Hid (Dp.prev l (j + 1) = d') := by show _ = _; rw [Dp.prev_succ l j _ hx']
              have ej : ((j + 1 : Nat) : Int) - 1 = (j : Int) := by omega
              have hj0 : (0 : Int) < ((j + 1 : Nat) : Int) := by omega
              have hjn : (j : Int) < (N : Int) := by omega
              clear e' hx' hk0
              have cB : (wr.alloc (.cells #[.int .i64 d, .int .i64 p] 42)).cell? ⟨wr.heap.size, 0, none⟩ = some (.int .i64 d) := by simp
              have q1 := fun d os => cell_regrown cB d os
              have q2 := fun d os => cell_regrown c1' d os
              by_cases hdd : d < d'
              · have HEE : Hid (Dp.chk l = 4) := by
                  show _ = _; rw [HC.out, HS.out, if_neg hnb, if_pos (by rw [HPV.out]; exact hdd)]
                clear d1 p1 hnb
                go_wp2_with (first
                  | (go_at_call 26; refine (dDay_is _ _ _ HD.out).mono ?_; rintro e w1 ⟨rfl, rfl⟩)
                  | (go_at_call 27; refine (dWithin_is _ _ _ _ _ HP.out).mono ?_; rintro e w1 ⟨rfl, rfl⟩))
                refine wp_region_quiet_below (by kernel_rfl) (by kernel_rfl) ?_
                repeat go_big_quiet_step (fail)
                refine wpQuiet_nil ?_
                intro _ hw'
                obtain ⟨⟨dq, osq⟩, hw''⟩ := hw'
                subst hw''
                have HB3 : Hid (Below w.heap.size w (Go.Sort.grow (redrawn _ dq) osq)) := below_on HB2.out (Nat.le_refl _) (below_regrown _ _ _)
                generalize Go.Sort.grow (redrawn _ dq) osq = W2 at *
                go_wp2
                go_ret
                exact ⟨ret_int HEE.out.symm, HB3.out⟩
              · have HEE : Hid (Dp.chk l = Dp.cat l (j + 1 + 1)) := by
                  show _ = _; rw [HC.out, HS.out, if_neg hnb, if_neg (by rw [HPV.out]; exact hdd)]
                have hdd' : decide (d < d') = false := decide_eq_false hdd
                clear d1 p1 hnb
                go_wp2_with (first
                  | (go_at_call 26; refine (dDay_is _ _ _ HD.out).mono ?_; rintro e w1 ⟨rfl, rfl⟩)
                  | (go_at_call 27; refine (dWithin_is _ _ _ _ _ HP.out).mono ?_; rintro e w1 ⟨rfl, rfl⟩))
                refine wp_region_quiet_below (by kernel_rfl) (by kernel_rfl) ?_
                repeat go_big_quiet_step (fail)
                refine wpQuiet_nil ?_
                intro _ hw'
                obtain ⟨⟨dq, osq⟩, hw''⟩ := hw'
                subst hw''
                have HB3 : Hid (Below w.heap.size w (Go.Sort.grow (redrawn _ dq) osq)) := below_on HB2.out (Nat.le_refl _) (below_regrown _ _ _)
                generalize Go.Sort.grow (redrawn _ dq) osq = W2 at *
                go_wp2
                go_roundw
                case rel => exact ⟨j + 1 + 1, by omega, by go_num, HEE.out, HB3.out⟩
                case measure => simp [intOf]; omega
          · have HP : Hid (decide (0 ≤ p ∧ p ≤ 1099511627776) = false) := decide_eq_false p1
            have HEE : Hid (Dp.chk l = 3) := by show _ = _; rw [HC.out, HS.out, if_pos (by unfold Dp.bad; simp only; omega)]
            clear d1 p1
            go_wp2_with (first
              | (go_at_call 26; refine (dDay_is _ _ _ HD.out).mono ?_; rintro e w1 ⟨rfl, rfl⟩)
              | (go_at_call 27; refine (dWithin_is _ _ _ _ _ HP.out).mono ?_; rintro e w1 ⟨rfl, rfl⟩))
            go_ret
            exact ⟨ret_int HEE.out.symm, HB2.out⟩
        · have HD : Hid (decide (1 ≤ d ∧ d ≤ 3652059) = false) := decide_eq_false d1
          have HEE : Hid (Dp.chk l = 3) := by show _ = _; rw [HC.out, HS.out, if_pos (by unfold Dp.bad; simp only; omega)]
          clear d1
          go_wp2_with (go_at_call 26; refine (dDay_is _ _ _ HD.out).mono ?_; rintro e w1 ⟨rfl, rfl⟩)
          go_ret
          exact ⟨ret_int HEE.out.symm, HB2.out⟩
      · have HEE : Hid (Dp.chk l = 0) := by
          have : k = l.length := by rw [HN.out]; omega
          show _ = _; rw [HC.out, this]; exact Dp.cat_end l
        go_wp2
        go_ret
        exact ⟨ret_int HEE.out.symm, HB.out⟩
set_option maxRecDepth 100000 in
set_option maxHeartbeats 2000000 in
theorem pPaid_any (l : List Dp.Du) (a : Option Addr) (cap : Nat) (n : Int) (w : World) (hl : l.length ≤ maxLen ∧ l.length ≤ cap) (hr : RowD w a l) :
    Calls Tryd.prog 7 #[.slice a l.length cap, .int .i64 n] w fun e w' => e = .returned (.tuple #[.int .i64 (Dp.pd l n), .int .i64 (Dp.op l n), .int .i64 (Dp.chk l)]) ∧ Below w.heap.size w w' := by
  have R : Hid (RowD w a l) := hr
  have hck := pDCheck_any l a cap w hl hr
  obtain ⟨c, hc⟩ : ∃ c, Dp.chk l = c := ⟨_, rfl⟩
  have HC : Hid (Dp.chk l = c) := hc
  rw [hc] at hck
  obtain ⟨N, hN⟩ : ∃ N, l.length = N := ⟨_, rfl⟩
  have HN : Hid (l.length = N) := hN
  obtain ⟨hl, -⟩ := hl
  unfold maxLen at hl
  rw [hN] at hl hck
  by_cases h0 : c = 0
  · subst h0
    have ok := (Dp.chk_ok l).1 hc
    have HB : Hid (∀ x ∈ l, 0 ≤ x.2 ∧ x.2 ≤ 1099511627776) := fun x hx => ⟨(ok.each x hx).2.2.1, (ok.each x hx).2.2.2⟩
    have h32 : N ≤ 32 := by rw [← hN]; exact ok.few
    have HE : Hid (Dp.pd l n = Dp.due l n ∧ Dp.op l n = Dp.all l - Dp.due l n) := by
      show _ ∧ _
      unfold Dp.pd Dp.op
      rw [hc, if_pos rfl, if_pos rfl]; exact ⟨rfl, rfl⟩
    rw [hN, hc]
    clear hr hN hc ok hl
    go_enter Tryd.func7, Tryd.ntmps7
    go_wp2_with fail
    refine hck.mono ?_
    rintro e w1 ⟨rfl, hb⟩
    have B1 : Hid (Below w.heap.size w w1) := hb
    clear hb hck
    go_wp2
    go_loopw [8, 9, 19] (fun uv bv iv wr => ∃ k : Nat, k ≤ N ∧ iv = .int .i64 k ∧ uv = .int .i64 (Dp.due (l.take k) n) ∧ bv = .int .i64 (Dp.all (l.take k) - Dp.due (l.take k) n) ∧ Below w.heap.size w wr) (fun _ _ iv _ => N - (intOf iv).toNat)
    case atStart => exact ⟨0, Nat.zero_le _, rfl, rfl, rfl, B1.out⟩
    case round =>
      obtain ⟨k, hk, rfl, rfl, rfl, hb⟩ := hrel
      have HBW : Hid (Below w.heap.size w wr) := hb
      clear hb
      by_cases hlt : k < N
      · have hlt' : (k : Int) < (N : Int) := by omega
        obtain ⟨b, off, d, p, rfl, hx, c1, c2⟩ := (R.out.below HBW.out).at (k := k) (by rw [HN.out]; exact hlt)
        have hbd := Dp.due_bd (l.take k) n (fun x hx => HB.out x (List.mem_of_mem_take hx))
        have hp := HB.out (d, p) (List.mem_of_getElem? hx)
        rw [List.length_take, HN.out, Nat.min_eq_left hk] at hbd
        have HT : Hid (_) := Dp.due_take l k (d, p) hx n
        have HA : Hid (_) := Dp.all_take l k (d, p) hx
        have HB2 : Hid (Below w.heap.size w (wr.alloc (.cells #[.int .i64 d, .int .i64 p] 42))) := HBW.out.alloc HBW.out.size _
        obtain ⟨s0, hs0⟩ : ∃ s0, Dp.due (l.take k) n = s0 := ⟨_, rfl⟩
        have HS0 : Hid (Dp.due (l.take k) n = s0) := hs0
        obtain ⟨z0, hz0⟩ : ∃ z0, Dp.all (l.take k) - Dp.due (l.take k) n = z0 := ⟨_, rfl⟩
        have HZ0 : Hid (Dp.all (l.take k) - Dp.due (l.take k) n = z0) := hz0
        have y1 : 0 ≤ z0 := by omega
        have y2 : z0 ≤ 35184372088832 := by omega
        rw [hs0] at hbd
        rw [hz0, hs0]
        have s1 := hbd.1
        have s2 : s0 ≤ 35184372088832 := by omega
        have p1 := hp.1
        have p2 := hp.2
        simp only at p1 p2
        clear hbd hp hx hs0 hz0
        by_cases hd : d ≤ n
        · have HV : Hid (Dp.due (l.take (k + 1)) n = s0 + p ∧ Dp.all (l.take (k + 1)) - Dp.due (l.take (k + 1)) n = z0) := by
            have := HZ0.out; have := HS0.out
            have e1 : Dp.due (l.take (k + 1)) n = s0 + p := by rw [HT.out, HS0.out, if_pos hd]
            have e2 : Dp.all (l.take (k + 1)) = Dp.all (l.take k) + p := HA.out
            exact ⟨e1, by omega⟩
          go_wp2
          go_roundw
          case rel => exact ⟨k + 1, by omega, by go_num, by rw [HV.out.1], by rw [HV.out.2], HB2.out⟩
          case measure => simp [intOf]; omega
        · have HV : Hid (Dp.due (l.take (k + 1)) n = s0 ∧ Dp.all (l.take (k + 1)) - Dp.due (l.take (k + 1)) n = z0 + p) := by
            have := HZ0.out; have := HS0.out
            have e1 : Dp.due (l.take (k + 1)) n = s0 := by rw [HT.out, HS0.out, if_neg hd, Int.add_zero]
            have e2 : Dp.all (l.take (k + 1)) = Dp.all (l.take k) + p := HA.out
            exact ⟨e1, by omega⟩
          have hd' : decide (d ≤ n) = false := decide_eq_false hd
          go_wp2
          go_roundw
          case rel => exact ⟨k + 1, by omega, by go_num, by rw [HV.out.1], by rw [HV.out.2], HB2.out⟩
          case measure => simp [intOf]; omega
      · obtain rfl : k = N := by omega
        have HTK : Hid (l.take k = l) := by show _ = _; rw [List.take_of_length_le (by rw [HN.out]; exact Nat.le_refl _)]
        rw [HTK.out]
        go_wp2
        refine bodyPost_ret (v := .tuple #[.int .i64 (Dp.due l n), .int .i64 (Dp.all l - Dp.due l n), .int .i64 0]) (by simp [results, Tryd.results7, go_sem]) rfl ?_
        exact ⟨by rw [HE.out.1, HE.out.2], HBW.out⟩
  · have HE : Hid (Dp.pd l n = 0 ∧ Dp.op l n = 0) := by
      show _ ∧ _
      unfold Dp.pd Dp.op
      rw [hc, if_neg h0, if_neg h0]; exact ⟨rfl, rfl⟩
    rw [HE.out.1, HE.out.2, hN, hc]
    have hne : (c != 0) = true := by simpa using h0
    clear hr hN hc hl h0
    go_enter Tryd.func7, Tryd.ntmps7
    go_wp2_with fail
    refine hck.mono ?_
    rintro e w1 ⟨rfl, hb⟩
    have B1 : Hid (Below w.heap.size w w1) := hb
    clear hb hck
    go_wp2
    refine bodyPost_ret (v := .tuple #[.int .i64 0, .int .i64 0, .int .i64 c]) (by simp [results, Tryd.results7, go_sem]) rfl ?_
    exact ⟨rfl, B1.out⟩
end Go.Proofs.YtehopfpcikbaiaaDoor
