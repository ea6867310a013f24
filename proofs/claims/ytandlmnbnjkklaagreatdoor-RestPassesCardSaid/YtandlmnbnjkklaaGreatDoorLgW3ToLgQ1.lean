/- The document's words on ledgers: are two the same; a posting turned round. The walks of package pence: its small functions, sums of lists. The walks of pence's entry points: Add, Sum, Part. The program's small walks over lines: an account, what a line moves, the look over a posting's lines, over a posting. -/
import Derived.Test.YtandlmnbnjkklaaGreatDoorLgRowToLgW2
import Derived.Deep.AppendLies
import Derived.Deep.RegionHeld3
import Derived.Lib.QuietBelow
import Derived.Test.YtandlmnbnjkklaaGreatDoorBaseToAppAll
import Derived.Test.YtandlmnbnjkklaaGreatDoorLg2ToPen
namespace Go.Proofs.YtandlmnbnjkklaaGreatDoor
open Go.RowKit Go.BigFrame

theorem sameLines_below (l r : List Lg.Ln) (a a' : Option Addr) (n n' cap cap' : Nat) (b : Bool) (w : World) (hn : l.length = n) (hn' : r.length = n') (hl : l.length ≤ maxLen) (hl' : r.length ≤ maxLen) (hb : decide (l = r) = b) (hr : RowL w a l) (hr' : RowL w a' r) :
    Calls Tryz.prog 47 #[.slice a n cap, .slice a' n' cap'] w fun e w' => e = .returned (.bool b) ∧ Below w.heap.size w w' :=
  (sameLines_at l r a a' n n' cap cap' b w hn hn' hl hl' hb hr hr').mono fun _ _ h => ⟨h.1, drewN_below h.2⟩
set_option maxRecDepth 100000 in
set_option maxHeartbeats 2000000 in
theorem sameLedger_any (l r : List Lg.Ps) (a a' : Option Addr) (cap cap' : Nat) (w : World) (hl : l.length ≤ maxLen) (hl' : r.length ≤ maxLen) (hf : Fit l) (hf' : Fit r) (hr : RowG w a l) (hr' : RowG w a' r) :
    Calls Tryz.prog 17 #[.slice a l.length cap, .slice a' r.length cap'] w fun e w' => e = .returned (.bool (decide (l = r))) ∧ Below w.heap.size w w' := by
  unfold maxLen at hl hl'
  have R : Hid (RowG w a l) := hr
  have R' : Hid (RowG w a' r) := hr'
  have HF : Hid (Fit l) := hf
  have HF' : Hid (Fit r) := hf'
  obtain ⟨n, hn⟩ : ∃ n, l.length = n := ⟨_, rfl⟩
  obtain ⟨m, hm⟩ : ∃ m, r.length = m := ⟨_, rfl⟩
  have HN : Hid (l.length = n) := hn
  have HM : Hid (r.length = m) := hm
  rw [hn] at hl
  rw [hm] at hl'
  rw [hn, hm]
  clear hr hr' hf hf' hn hm
  by_cases he : n = m
  · subst he
    have hne : ((n : Int) != (n : Int)) = false := by simp
    go_enter Tryz.func17, Tryz.ntmps17
    go_wp2
    go_loopw [5] (fun i wr => ∃ k : Nat, k ≤ n ∧ i = .int .i64 k ∧ (∀ j : Nat, j < k → l[j]? = r[j]?) ∧ Below w.heap.size w wr) (fun i _ => n - (intOf i).toNat)
    case atStart => exact ⟨0, Nat.zero_le _, rfl, fun j hj => by omega, Below.refl _ _⟩
    case round =>
      obtain ⟨k, hk, rfl, hz, hb⟩ := hrel
      have HZ : Hid (∀ j : Nat, j < k → l[j]? = r[j]?) := hz
      have HB : Hid (Below w.heap.size w wr) := hb
      clear hz hb
      by_cases hlt : k < n
      · have hlt' : (k : Int) < (n : Int) := by omega
        obtain ⟨b1, o1, id1, ls1, la1, lc1, rfl, -, hx, c1, c2, -, r1⟩ := (R.out.below HB.out).at (k := k) (by rw [HN.out]; exact hlt)
        obtain ⟨b2, o2, id2, ls2, la2, lc2, rfl, -, hy, d1, d2, -, r2⟩ := (R'.out.below HB.out).at (k := k) (by rw [HM.out]; exact hlt)
        have HX : Hid (l[k]? = some (id1, ls1)) := hx
        have HY : Hid (r[k]? = some (id2, ls2)) := hy
        have HR1 : Hid (RowL wr la1 ls1) := r1
        have HR2 : Hid (RowL wr la2 ls2) := r2
        have HL1 : Hid (ls1.length ≤ maxLen) := HF.out.at hx
        have HL2 : Hid (ls2.length ≤ maxLen) := HF'.out.at hy
        clear hx hy r1 r2
        have e1 := fun d os => cell_regrown c1 d os
        have e2 := fun d os => cell_regrown c2 d os
        have e3 := fun d os => cell_regrown d1 d os
        have e4 := fun d os => cell_regrown d2 d os
        by_cases hid : id1 = id2
        · have hidb : (id1 != id2) = false := by simpa using hid
          by_cases hls : ls1 = ls2
          · have HZ2 : Hid (∀ j : Nat, j < k + 1 → l[j]? = r[j]?) := by
              intro j hj
              by_cases c : j = k
              · subst c; rw [HX.out, HY.out, hid, hls]
              · exact HZ.out j (by omega)
            have HC : Hid (∀ W, Below wr.heap.size wr W → Calls Tryz.prog 47 #[.slice la1 ls1.length lc1, .slice la2 ls2.length lc2] W fun e w' => e = .returned (.bool true) ∧ Below W.heap.size W w') := fun W hb => sameLines_below ls1 ls2 la1 la2 _ _ lc1 lc2 true W rfl rfl HL1.out HL2.out (decide_eq_true hls) (HR1.out.below hb) (HR2.out.below hb)
            clear hid hls
            go_wp2
            refine wp_region_quiet_below (by kernel_rfl) (by kernel_rfl) ?_
            repeat go_big_quiet_step (first | (go_at_call 47; exact Calls.regrown_of (HC.out _ (below_regrown _ _ _))))
            refine wpQuiet_nil ?_
            intro _ hw'
            obtain ⟨⟨dq, osq⟩, hw''⟩ := hw'
            subst hw''
            have HB2 : Hid (Below w.heap.size w (Go.Sort.grow (redrawn wr dq) osq)) := below_on HB.out (Nat.le_refl _) (below_regrown _ _ _)
            generalize Go.Sort.grow (redrawn wr dq) osq = W2 at *
            go_wp2
            go_roundw
            case rel => exact ⟨k + 1, by omega, by go_num, HZ2.out, HB2.out⟩
            case measure => simp [intOf]; omega
          · have HEE : Hid (decide (l = r) = false) := by
              show _ = _
              rw [decide_eq_false_iff_not]
              rintro rfl
              have := Option.some.inj (HX.out.symm.trans HY.out)
              exact hls (Prod.mk.inj this).2
            have HC : Hid (∀ W, Below wr.heap.size wr W → Calls Tryz.prog 47 #[.slice la1 ls1.length lc1, .slice la2 ls2.length lc2] W fun e w' => e = .returned (.bool false) ∧ Below W.heap.size W w') := fun W hb => sameLines_below ls1 ls2 la1 la2 _ _ lc1 lc2 false W rfl rfl HL1.out HL2.out (decide_eq_false hls) (HR1.out.below hb) (HR2.out.below hb)
            clear hid hls
            go_wp2
            refine wp_region_quiet_below (by kernel_rfl) (by kernel_rfl) ?_
            repeat go_big_quiet_step (first | (go_at_call 47; exact Calls.regrown_of (HC.out _ (below_regrown _ _ _))))
            refine wpQuiet_nil ?_
            intro _ hw'
            obtain ⟨⟨dq, osq⟩, hw''⟩ := hw'
            subst hw''
            have HB2 : Hid (Below w.heap.size w (Go.Sort.grow (redrawn wr dq) osq)) := below_on HB.out (Nat.le_refl _) (below_regrown _ _ _)
            generalize Go.Sort.grow (redrawn wr dq) osq = W2 at *
            go_wp2
            go_ret
            exact ⟨ret_bool HEE.out.symm, HB2.out⟩
        · have hidb : (id1 != id2) = true := by simpa using hid
          have HEE : Hid (decide (l = r) = false) := by
            show _ = _
            rw [decide_eq_false_iff_not]
            rintro rfl
            have := Option.some.inj (HX.out.symm.trans HY.out)
            exact hid (Prod.mk.inj this).1
          clear hid
          go_wp2
          refine wp_region_quiet_below (by kernel_rfl) (by kernel_rfl) ?_
          repeat go_big_quiet_step (fail)
          refine wpQuiet_nil ?_
          intro _ hw'
          obtain ⟨⟨dq, osq⟩, hw''⟩ := hw'
          subst hw''
          have HB2 : Hid (Below w.heap.size w (Go.Sort.grow (redrawn wr dq) osq)) := below_on HB.out (Nat.le_refl _) (below_regrown _ _ _)
          generalize Go.Sort.grow (redrawn wr dq) osq = W2 at *
          go_wp2
          go_ret
          exact ⟨ret_bool HEE.out.symm, HB2.out⟩
      · obtain rfl : n = k := by omega
        have HEE : Hid (decide (l = r) = true) := by
          show _ = _
          rw [decide_eq_true_iff]
          apply List.ext_getElem?
          intro j
          by_cases c : j < n
          · exact HZ.out j c
          · rw [List.getElem?_eq_none (by rw [HN.out]; omega), List.getElem?_eq_none (by rw [HM.out]; omega)]
        go_wp2
        go_ret
        exact ⟨ret_bool HEE.out.symm, HB.out⟩
  · have hne : ((n : Int) != (m : Int)) = true := by simp; omega
    have HEE : Hid (decide (l = r) = false) := by
      show _ = _
      rw [decide_eq_false_iff_not]
      rintro rfl
      exact he (HN.out.symm.trans HM.out)
    go_enter Tryz.func17, Tryz.ntmps17
    go_wp2
    go_ret
    exact ⟨ret_bool HEE.out.symm, Below.refl _ _⟩
end Go.Proofs.YtandlmnbnjkklaaGreatDoor
namespace Go.Proofs.YtandlmnbnjkklaaGreatDoor
open Go.RowKit

theorem pwithin_any (n a b : Int) (w : World) :
    Calls Tryz.prog 129 #[.int .i64 n, .int .i64 a, .int .i64 b] w fun e w' => e = .returned (.bool (decide (a ≤ n) && decide (n ≤ b))) ∧ w' = w := by
  by_cases h1 : a ≤ n <;> by_cases h2 : n ≤ b
  all_goals
    simp [h1, h2]
    go_enter Tryz.func129, Tryz.ntmps129
    go_wp2
    go_ret
    exact ⟨rfl, rfl⟩
theorem amt_any (n : Int) (w : World) :
    Calls Tryz.prog 118 #[.int .i64 n] w fun e w' => e = .returned (.bool (Pen.amt n)) ∧ w' = w := by
  go_enter Tryz.func118, Tryz.ntmps118
  go_wp2_with (go_at_call 129; refine (pwithin_any _ _ _ _).mono ?_; rintro e w' ⟨rfl, rfl⟩)
  go_ret
  exact ⟨rfl, rfl⟩
theorem pwithin_yes (n a b : Int) (w : World) (h1 : a ≤ n) (h2 : n ≤ b) :
    Calls Tryz.prog 129 #[.int .i64 n, .int .i64 a, .int .i64 b] w fun e w' => e = .returned (.bool true) ∧ w' = w :=
  (pwithin_any n a b w).mono fun _ _ h => ⟨h.1.trans (ret_bool (by simp [h1, h2])), h.2⟩
theorem pwithin_no (n a b : Int) (w : World) (h : n < a ∨ b < n) :
    Calls Tryz.prog 129 #[.int .i64 n, .int .i64 a, .int .i64 b] w fun e w' => e = .returned (.bool false) ∧ w' = w :=
  (pwithin_any n a b w).mono fun _ _ h' => ⟨h'.1.trans (ret_bool (by simp; omega)), h'.2⟩
theorem amt_is (n : Int) (b : Bool) (w : World) (h : Pen.amt n = b) :
    Calls Tryz.prog 118 #[.int .i64 n] w fun e w' => e = .returned (.bool b) ∧ w' = w := by
  subst h; exact amt_any n w
set_option maxHeartbeats 400000 in
theorem total_any (l : List Int) (a : Option Addr) (cap : Nat) (w : World) (hl : l.length ≤ 32) (hr : Row1 w a l) :
    Calls Tryz.prog 100 #[.slice a l.length cap] w fun e w' => e = .returned (.tuple #[.int .i64 (Pen.tot l), .int .i64 (Pen.totE l)]) ∧ w' = w := by
  go_enter Tryz.func100, Tryz.ntmps100
  go_wp2
  go_loop [4, 9] (fun n i => ∃ k : Nat, k ≤ l.length ∧ i = .int .i64 k ∧ n = .int .i64 (l.take k).sum ∧ Pen.bad (l.take k) = false) (fun _ i => l.length - (intOf i).toNat)
  case atStart => exact ⟨0, Nat.zero_le _, rfl, rfl, rfl⟩
  case round =>
    obtain ⟨k, hk, rfl, rfl, hm⟩ := hrel
    have HM : Hid (Pen.bad (l.take k) = false) := hm
    have hs := Pen.sum_bd _ hm
    have hlen : (l.take k).length ≤ 32 := by rw [List.length_take]; omega
    have hb : -35184372088832 ≤ (l.take k).sum ∧ (l.take k).sum ≤ 35184372088832 := by omega
    clear hs hlen hm
    by_cases hlt : k < l.length
    · obtain ⟨b, off, x, rfl, _, hx, c1⟩ := hr.at hlt
      have HX : Hid (l[k]? = some x) := hx
      clear hx
      cases hax : Pen.amt x with
      | true =>
        have hxb := Pen.amt_yes x hax
        have HS : Hid ((l.take (k + 1)).sum = (l.take k).sum + x) := Pen.sum_succ l k x HX.out
        go_wp2_with (go_at_call 118; refine (amt_is _ _ _ hax).mono ?_; rintro e w' ⟨rfl, rfl⟩)
        go_round
        case rel => exact ⟨k + 1, by omega, by go_num, by rw [HS.out], Pen.bad_succ l k x HX.out HM.out hax⟩
        case measure => simp [intOf]; omega
      | false =>
        have HB : Hid (Pen.bad l = true) := Pen.bad_at l k x HX.out hax
        go_wp2_with (go_at_call 118; refine (amt_is _ _ _ hax).mono ?_; rintro e w' ⟨rfl, rfl⟩)
        go_ret2
        exact ⟨by unfold Pen.tot Pen.totE; rw [HB.out]; rfl, rfl⟩
    · have e1 : l.take k = l := List.take_of_length_le (by omega)
      have HB : Hid (Pen.bad l = false) := by have := HM.out; rwa [e1] at this
      rw [e1] at hb ⊢
      clear e1 HM
      cases hax : Pen.amt l.sum with
      | true =>
        go_wp2_with (go_at_call 118; refine (amt_is _ _ _ hax).mono ?_; rintro e w' ⟨rfl, rfl⟩)
        go_ret2
        exact ⟨by unfold Pen.tot Pen.totE; rw [HB.out, hax]; rfl, rfl⟩
      | false =>
        go_wp2_with (go_at_call 118; refine (amt_is _ _ _ hax).mono ?_; rintro e w' ⟨rfl, rfl⟩)
        go_ret2
        exact ⟨by unfold Pen.tot Pen.totE; rw [HB.out, hax]; rfl, rfl⟩
end Go.Proofs.YtandlmnbnjkklaaGreatDoor
namespace Go.Proofs.YtandlmnbnjkklaaGreatDoor
open Go.RowKit

theorem row1_two (w : World) (a b : Int) (t : TypeId) : Row1 (w.alloc (.cells #[.int .i64 a, .int .i64 b] t)) (some ⟨w.heap.size, 0, none⟩) [a, b] := by
  refine .inr ⟨w.heap.size, 0, rfl, by simp, fun i hi => ?_⟩
  match i, hi with
  | 0, _ => simp
  | 1, _ => simp
theorem pAdd_any (a b : Int) (w : World) :
    Calls Tryz.prog 90 #[.int .i64 a, .int .i64 b] w fun e w' => e = .returned (.tuple #[.int .i64 (Pen.tot [a, b]), .int .i64 (Pen.totE [a, b])]) ∧ Below w.heap.size w w' := by
  go_enter Tryz.func90, Tryz.ntmps90
  go_wp2_with (go_at_call 100; refine (total_any [a, b] _ _ _ (by simp) (row1_two _ _ _ _)).mono ?_; rintro e w' ⟨rfl, rfl⟩)
  go_ret2
  exact ⟨rfl, below_box _ _⟩
end Go.Proofs.YtandlmnbnjkklaaGreatDoor
namespace Go.Proofs.YtandlmnbnjkklaaGreatDoor
open Go.RowKit Go.BigFrame

theorem lwithin_any (n a b : Int) (w : World) :
    Calls Tryz.prog 82 #[.int .i64 n, .int .i64 a, .int .i64 b] w fun e w' => e = .returned (.bool (decide (a ≤ n ∧ n ≤ b))) ∧ w' = w := by
  by_cases h1 : a ≤ n
  · by_cases h2 : n ≤ b
    · have e : decide (a ≤ n ∧ n ≤ b) = true := by simp; omega
      rw [e]; clear e
      go_enter Tryz.func82, Tryz.ntmps82
      go_wp2
      go_ret
      exact ⟨rfl, rfl⟩
    · have e : decide (a ≤ n ∧ n ≤ b) = false := by simp; omega
      rw [e]; clear e
      go_enter Tryz.func82, Tryz.ntmps82
      go_wp2
      go_ret
      exact ⟨rfl, rfl⟩
  · have e : decide (a ≤ n ∧ n ≤ b) = false := by simp; omega
    rw [e]; clear e
    have h1' : decide (a ≤ n) = false := by simpa using h1
    go_enter Tryz.func82, Tryz.ntmps82
    go_wp2
    go_ret
    exact ⟨rfl, rfl⟩
theorem lacc_any (n : Int) (b : Bool) (w : World) (hb : decide (1 ≤ n ∧ n ≤ 5) = b) :
    Calls Tryz.prog 66 #[.int .i64 n] w fun e w' => e = .returned (.bool b) ∧ w' = w := by
  subst hb
  go_enter Tryz.func66, Tryz.ntmps66
  go_wp2_with (go_at_call 82; refine (lwithin_any _ _ _ _).mono ?_; rintro e w' ⟨rfl, rfl⟩)
  go_ret
  exact ⟨ret_bool (by simp), rfl⟩
namespace Lg
theorem totE_one (n : Int) : Pen.totE [n, 0] = if far n = true then 3 else 0 := by
  unfold Pen.totE Pen.bad
  cases h : far n with
  | true =>
    have : Pen.amt n = false := by
      unfold far at h
      exact Pen.amt_not n (by simpa using h)
    simp [this]
  | false =>
    have h2 := (far_iff n).1 h
    have h3 : Pen.amt n = true := Pen.amt_mk n h2.1 h2.2
    have h4 : Pen.amt 0 = true := by decide
    simp [h3, h4]
end Lg
theorem lmoved_any (n : Int) (b : Bool) (w : World) (hb : (!Lg.far n && decide (n ≠ 0)) = b) :
    Calls Tryz.prog 75 #[.int .i64 n] w fun e w' => e = .returned (.bool b) ∧ Below w.heap.size w w' := by
  subst hb
  have ht := Lg.totE_one n
  cases hf : Lg.far n with
  | true =>
    rw [hf, if_pos rfl] at ht
    have HT : Hid (Pen.totE [n, 0] = 3) := ht
    clear ht hf
    go_enter Tryz.func75, Tryz.ntmps75
    go_wp2_with (go_at_call 90; refine (pAdd_any n 0 _).mono ?_; rintro e w1 ⟨rfl, hb⟩; rw [HT.out])
    go_ret
    exact ⟨rfl, hb⟩
  | false =>
    rw [hf, if_neg (by decide)] at ht
    have HT : Hid (Pen.totE [n, 0] = 0) := ht
    clear ht hf
    by_cases h0 : n = 0
    · subst h0
      go_enter Tryz.func75, Tryz.ntmps75
      go_wp2_with (go_at_call 90; refine (pAdd_any _ 0 _).mono ?_; rintro e w1 ⟨rfl, hb⟩; rw [HT.out])
      go_ret
      exact ⟨rfl, hb⟩
    · have h0' : (n != 0) = true := by simpa using h0
      have HE : Hid ((!false && decide (n ≠ 0)) = true) := by show _ = _; simp [h0]
      rw [HE.out]
      clear h0
      go_enter Tryz.func75, Tryz.ntmps75
      go_wp2_with (go_at_call 90; refine (pAdd_any n 0 _).mono ?_; rintro e w1 ⟨rfl, hb⟩; rw [HT.out])
      go_ret
      exact ⟨rfl, hb⟩
end Go.Proofs.YtandlmnbnjkklaaGreatDoor
