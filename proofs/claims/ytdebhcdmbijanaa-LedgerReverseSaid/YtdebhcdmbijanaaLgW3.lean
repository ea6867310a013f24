/- The document's words on ledgers: are two the same; a posting turned round. -/
import Derived.Test.YtdebhcdmbijanaaLgW2
import Derived.Deep.AppendLies
import Derived.Deep.RegionHeld3
import Derived.Lib.QuietBelow
namespace Go.Proofs.Ytdebhcdmbijanaa
open Go.RowKit Go.BigFrame

theorem sameLines_below (l r : List Lg.Ln) (a a' : Option Addr) (n n' cap cap' : Nat) (b : Bool) (w : World) (hn : l.length = n) (hn' : r.length = n') (hl : l.length ≤ maxLen) (hl' : r.length ≤ maxLen) (hb : decide (l = r) = b) (hr : RowL w a l) (hr' : RowL w a' r) :
    Calls Try.prog 25 #[.slice a n cap, .slice a' n' cap'] w fun e w' => e = .returned (.bool b) ∧ Below w.heap.size w w' :=
  (sameLines_at l r a a' n n' cap cap' b w hn hn' hl hl' hb hr hr').mono fun _ _ h => ⟨h.1, drewN_below h.2⟩
set_option maxRecDepth 100000 in
set_option maxHeartbeats 2000000 in
theorem sameLedger_any (l r : List Lg.Ps) (a a' : Option Addr) (cap cap' : Nat) (w : World) (hl : l.length ≤ maxLen) (hl' : r.length ≤ maxLen) (hf : Fit l) (hf' : Fit r) (hr : RowG w a l) (hr' : RowG w a' r) :
    Calls Try.prog 17 #[.slice a l.length cap, .slice a' r.length cap'] w fun e w' => e = .returned (.bool (decide (l = r))) ∧ Below w.heap.size w w' := by
  unfold maxLen at hl hl'
  have R : Hid (RowG w a l) := hr
  have R' : Hid (RowG w a' r) := hr'
  have HF : Hid (Fit l) := hf
  have HF' : Hid (Fit r) := hf'
  obtain ⟨n, hn⟩ : ∃ n, l.length = n := ⟨_, rfl⟩
  obtain ⟨m, hm⟩ : ∃ m, r.length = m := ⟨_, rfl⟩
  have HN : Hid (l.length = n) := hn
  have HM : Hid (r.length = m) := hm
  rw [hn] at hl
  rw [hm] at hl'
  rw [hn, hm]
  clear hr hr' hf hf' hn hm
  by_cases he : n = m
  · subst he
    have hne : ((n : Int) != (n : Int)) = false := by simp
    go_enter Try.func17, Try.ntmps17
    go_wp2
    go_loopw [5] (fun i wr => ∃ k : Nat, k ≤ n ∧ i = .int .i64 k ∧ (∀ j : Nat, j < k → l[j]? = r[j]?) ∧ Below w.heap.size w wr) (fun i _ => n - (intOf i).toNat)
    case atStart => exact ⟨0, Nat.zero_le _, rfl, fun j hj => by omega, Below.refl _ _⟩
    case round =>
      obtain ⟨k, hk, rfl, hz, hb⟩ := hrel
      have HZ : Hid (∀ j : Nat, j < k → l[j]? = r[j]?) := hz
      have HB : Hid (Below w.heap.size w wr) := hb
      clear hz hb
      by_cases hlt : k < n
      · have hlt' : (k : Int) < (n : Int) := by omega
        obtain ⟨b1, o1, id1, ls1, la1, lc1, rfl, -, hx, c1, c2, -, r1⟩ := (R.out.below HB.out).at (k := k) (by rw [HN.out]; exact hlt)
        obtain ⟨b2, o2, id2, ls2, la2, lc2, rfl, -, hy, d1, d2, -, r2⟩ := (R'.out.below HB.out).at (k := k) (by rw [HM.out]; exact hlt)
        have HX : Hid (l[k]? = some (id1, ls1)) := hx
        have HY : Hid (r[k]? = some (id2, ls2)) := hy
        have HR1 : Hid (RowL wr la1 ls1) := r1
        have HR2 : Hid (RowL wr la2 ls2) := r2
        have HL1 : Hid (ls1.length ≤ maxLen) := HF.out.at hx
        have HL2 : Hid (ls2.length ≤ maxLen) := HF'.out.at hy
        clear hx hy r1 r2
        have e1 := fun d os => cell_regrown c1 d os
        have e2 := fun d os => cell_regrown c2 d os
        have e3 := fun d os => cell_regrown d1 d os
        have e4 := fun d os => cell_regrown d2 d os
        by_cases hid : id1 = id2
        · have hidb : (id1 != id2) = false := by simpa using hid
          by_cases hls : ls1 = ls2
          · have HZ2 : Hid (∀ j : Nat, j < k + 1 → l[j]? = r[j]?) := by
              intro j hj
              by_cases c : j = k
              · subst c; rw [HX.out, HY.out, hid, hls]
              · exact HZ.out j (by omega)
            have HC : Hid (∀ W, Below wr.heap.size wr W → Calls Try.prog 25 #[.slice la1 ls1.length lc1, .slice la2 ls2.length lc2] W fun e w' => e = .returned (.bool true) ∧ Below W.heap.size W w') := fun W hb => sameLines_below ls1 ls2 la1 la2 _ _ lc1 lc2 true W rfl rfl HL1.out HL2.out (decide_eq_true hls) (HR1.out.below hb) (HR2.out.below hb)
            clear hid hls
            go_wp2
            refine wp_region_quiet_below (by kernel_rfl) (by kernel_rfl) ?_
            repeat go_big_quiet_step (first | (go_at_call 25; exact Calls.regrown_of (HC.out _ (below_regrown _ _ _))))
            refine wpQuiet_nil ?_
            intro _ hw'
            obtain ⟨⟨dq, osq⟩, hw''⟩ := hw'
            subst hw''
            have HB2 : Hid (Below w.heap.size w (Go.Sort.grow (redrawn wr dq) osq)) := below_on HB.out (Nat.le_refl _) (below_regrown _ _ _)
            generalize Go.Sort.grow (redrawn wr dq) osq = W2 at *
            go_wp2
            go_roundw
            case rel => exact ⟨k + 1, by omega, by go_num, HZ2.out, HB2.out⟩
            case measure => simp [intOf]; omega
          · have HEE : Hid (decide (l = r) = false) := by
              show _ = _
              rw [decide_eq_false_iff_not]
              rintro rfl
              have := Option.some.inj (HX.out.symm.trans HY.out)
              exact hls (Prod.mk.inj this).2
            have HC : Hid (∀ W, Below wr.heap.size wr W → Calls Try.prog 25 #[.slice la1 ls1.length lc1, .slice la2 ls2.length lc2] W fun e w' => e = .returned (.bool false) ∧ Below W.heap.size W w') := fun W hb => sameLines_below ls1 ls2 la1 la2 _ _ lc1 lc2 false W rfl rfl HL1.out HL2.out (decide_eq_false hls) (HR1.out.below hb) (HR2.out.below hb)
            clear hid hls
            go_wp2
            refine wp_region_quiet_below (by kernel_rfl) (by kernel_rfl) ?_
            repeat go_big_quiet_step (first | (go_at_call 25; exact Calls.regrown_of (HC.out _ (below_regrown _ _ _))))
            refine wpQuiet_nil ?_
            intro _ hw'
            obtain ⟨⟨dq, osq⟩, hw''⟩ := hw'
            subst hw''
            have HB2 : Hid (Below w.heap.size w (Go.Sort.grow (redrawn wr dq) osq)) := below_on HB.out (Nat.le_refl _) (below_regrown _ _ _)
            generalize Go.Sort.grow (redrawn wr dq) osq = W2 at *
            go_wp2
            go_ret
            exact ⟨ret_bool HEE.out.symm, HB2.out⟩
        · have hidb : (id1 != id2) = true := by simpa using hid
          have HEE : Hid (decide (l = r) = false) := by
            show _ = _
            rw [decide_eq_false_iff_not]
            rintro rfl
            have := Option.some.inj (HX.out.symm.trans HY.out)
            exact hid (Prod.mk.inj this).1
          clear hid
          go_wp2
          refine wp_region_quiet_below (by kernel_rfl) (by kernel_rfl) ?_
          repeat go_big_quiet_step (fail)
          refine wpQuiet_nil ?_
          intro _ hw'
          obtain ⟨⟨dq, osq⟩, hw''⟩ := hw'
          subst hw''
          have HB2 : Hid (Below w.heap.size w (Go.Sort.grow (redrawn wr dq) osq)) := below_on HB.out (Nat.le_refl _) (below_regrown _ _ _)
          generalize Go.Sort.grow (redrawn wr dq) osq = W2 at *
          go_wp2
          go_ret
          exact ⟨ret_bool HEE.out.symm, HB2.out⟩
      · obtain rfl : n = k := by omega
        have HEE : Hid (decide (l = r) = true) := by
          show _ = _
          rw [decide_eq_true_iff]
          apply List.ext_getElem?
          intro j
          by_cases c : j < n
          · exact HZ.out j c
          · rw [List.getElem?_eq_none (by rw [HN.out]; omega), List.getElem?_eq_none (by rw [HM.out]; omega)]
        go_wp2
        go_ret
        exact ⟨ret_bool HEE.out.symm, HB.out⟩
  · have hne : ((n : Int) != (m : Int)) = true := by simp; omega
    have HEE : Hid (decide (l = r) = false) := by
      show _ = _
      rw [decide_eq_false_iff_not]
      rintro rfl
      exact he (HN.out.symm.trans HM.out)
    go_enter Try.func17, Try.ntmps17
    go_wp2
    go_ret
    exact ⟨ret_bool HEE.out.symm, Below.refl _ _⟩
end Go.Proofs.Ytdebhcdmbijanaa
