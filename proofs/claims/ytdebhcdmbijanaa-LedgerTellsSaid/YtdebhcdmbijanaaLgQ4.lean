/- The program's look over a ledger. -/
import Derived.Test.YtdebhcdmbijanaaLgQ3
import Derived.BigQuiet
import Derived.Lib.QuietBelow
namespace Go.Proofs.Ytdebhcdmbijanaa
open Go.RowKit Go.BigFrame

set_option maxRecDepth 100000 in
set_option maxHeartbeats 2000000 in
theorem lCheck_any (l : List Lg.Ps) (a : Option Addr) (cap : Nat) (w : World) (hl : l.length ≤ maxLen ∧ l.length ≤ cap) (hf : Fit l) (hr : RowG w a l) :
    Calls Try.prog 16 #[.slice a l.length cap] w fun e w' => e = .returned (.int .i64 (Lg.chk l)) ∧ Below w.heap.size w w' := by
  obtain ⟨hl, hcap⟩ := hl
  have HR : Hid (RowG w a l) := hr
  have HF : Hid (Fit l) := hf
  unfold maxLen at hl
  by_cases h1 : 100 < l.length
  · have HE : Hid (Lg.chk l = 2) := by show _ = _; unfold Lg.chk; rw [if_pos h1]
    rw [HE.out]
    have h1' : (100 : Int) < (l.length : Int) := by omega
    clear hr hf
    go_enter Try.func16, Try.ntmps16
    go_wp2
    go_ret
    exact ⟨rfl, Below.refl _ _⟩
  · have HE : Hid (Lg.chk l = Lg.gat l 0) := by show _ = _; unfold Lg.chk; rw [if_neg h1]; rfl
    have h1' : ¬ (100 : Int) < (l.length : Int) := by omega
    obtain ⟨n, hn⟩ : ∃ n, l.length = n := ⟨_, rfl⟩
    have HN : Hid (l.length = n) := hn
    rw [hn] at hl hcap h1 h1' ⊢
    clear hr hf hn
    go_enter Try.func16, Try.ntmps16
    go_wp2
    go_loopw [11] (fun iv wr => ∃ k : Nat, k ≤ n ∧ iv = .int .i64 k ∧ Lg.chk l = Lg.gat l k ∧ Below w.heap.size w wr) (fun iv _ => n - (intOf iv).toNat)
    case atStart => exact ⟨0, Nat.zero_le _, rfl, HE.out, Below.refl _ _⟩
    case round =>
      obtain ⟨k, hk, rfl, hg, hb⟩ := hrel
      have HG : Hid (Lg.chk l = Lg.gat l k) := hg
      have HB : Hid (Below w.heap.size w wr) := hb
      have HRK : Hid (RowG wr a l) := HR.out.below hb
      clear hg hb
      by_cases hlt : k < n
      · have hlt' : (k : Int) < (n : Int) := by omega
        obtain ⟨b, off, id, ls, la, lc, rfl, hbs, hx, c1, c2, -, hrl⟩ := HRK.out.at (k := k) (by rw [HN.out]; exact hlt)
        have HX : Hid (l[k]? = some (id, ls)) := hx
        have HS : Hid (_) := Lg.gat_step l k (id, ls) hx
        have HRL : Hid (RowL (wr.alloc (.cells #[.int .i64 id, .slice la ls.length lc] 25)) la ls) := hrl.below (below_box wr _)
        have HLF : Hid (ls.length ≤ maxLen) := HF.out.at hx
        have HT : Hid ((l.take k).length = k) := by show _ = _; rw [List.length_take, HN.out]; omega
        clear hx hrl
        obtain ⟨c, hc⟩ : ∃ c, Lg.pchk (id, ls) = c := ⟨_, rfl⟩
        have HC : Hid (Lg.pchk (id, ls) = c) := hc
        clear hc
        by_cases h0 : c = 0
        · subst h0
          have hkc : k ≤ cap := by omega
          rcases Lg.plc_is (l.take k) id with ⟨p1, -, p3⟩ | ⟨j, ls', p1, -, -, p3⟩
          · have HP : Hid (Lg.plc (l.take k) id = -1) := p1
            have HEE : Hid (Lg.chk l = Lg.gat l (k + 1)) := by show _ = _; rw [HG.out, HS.out, HC.out, if_pos rfl, if_neg (by rw [p3]; decide)]
            clear p1 p3
            go_wp2_with fail
            refine (checkPosting_at id ls _ _ _ _ _ rfl HLF.out HC.out HRL.out).mono ?_
            rintro e w1 ⟨rfl, hb⟩
            have e1 := fun d os => cell_regrown (box2_below hb).1 d os
            have HB1 : Hid (Below wr.heap.size wr w1) := (box2_below hb).2.2
            have HCF : Hid (∀ W, Below w1.heap.size w1 W → Calls Try.prog 19 #[.slice (some ⟨b, off, none⟩) k cap, .int .i64 id] W fun e w' => e = .returned (.int .i64 (-1)) ∧ Below W.heap.size W w') := fun W hW => lfind_at (l.take k) k _ _ _ _ _ HT.out (by unfold maxLen; omega) HP.out (((HRK.out.below HB1.out).below hW).take k)
            clear hb
            go_wp2
            refine wp_region_quiet_below (by kernel_rfl) (by kernel_rfl) ?_
            repeat go_big_quiet_step (first | (go_at_call 19; exact Calls.regrown_of (HCF.out _ (below_regrown _ _ _))))
            refine wpQuiet_nil ?_
            intro _ hw'
            obtain ⟨⟨dq, osq⟩, hw''⟩ := hw'
            subst hw''
            have HB2 : Hid (Below wr.heap.size wr (Go.Sort.grow (redrawn w1 dq) osq)) := below_on HB1.out (Nat.le_refl _) (below_regrown _ _ _)
            generalize Go.Sort.grow (redrawn w1 dq) osq = w2 at *
            go_wp2
            go_roundw
            case rel => exact ⟨k + 1, by omega, by go_num, HEE.out, below_on HB.out (Nat.le_refl _) HB2.out⟩
            case measure => simp [intOf]; omega
          · have HP : Hid (Lg.plc (l.take k) id = (j : Int)) := p1
            have HEE : Hid (Lg.chk l = 6) := by show _ = _; rw [HG.out, HS.out, HC.out, if_pos rfl, if_pos p3]
            clear p1 p3
            go_wp2_with fail
            refine (checkPosting_at id ls _ _ _ _ _ rfl HLF.out HC.out HRL.out).mono ?_
            rintro e w1 ⟨rfl, hb⟩
            have e1 := fun d os => cell_regrown (box2_below hb).1 d os
            have HB1 : Hid (Below wr.heap.size wr w1) := (box2_below hb).2.2
            have HCF : Hid (∀ W, Below w1.heap.size w1 W → Calls Try.prog 19 #[.slice (some ⟨b, off, none⟩) k cap, .int .i64 id] W fun e w' => e = .returned (.int .i64 (j : Int)) ∧ Below W.heap.size W w') := fun W hW => lfind_at (l.take k) k _ _ _ _ _ HT.out (by unfold maxLen; omega) HP.out (((HRK.out.below HB1.out).below hW).take k)
            clear hb
            go_wp2
            refine wp_region_quiet_below (by kernel_rfl) (by kernel_rfl) ?_
            repeat go_big_quiet_step (first | (go_at_call 19; exact Calls.regrown_of (HCF.out _ (below_regrown _ _ _))))
            refine wpQuiet_nil ?_
            intro _ hw'
            obtain ⟨⟨dq, osq⟩, hw''⟩ := hw'
            subst hw''
            have HB2 : Hid (Below wr.heap.size wr (Go.Sort.grow (redrawn w1 dq) osq)) := below_on HB1.out (Nat.le_refl _) (below_regrown _ _ _)
            generalize Go.Sort.grow (redrawn w1 dq) osq = w2 at *
            go_wp2
            go_ret
            exact ⟨ret_int HEE.out.symm, below_on HB.out (Nat.le_refl _) HB2.out⟩
        · have HEE : Hid (Lg.chk l = c) := by show _ = _; rw [HG.out, HS.out, HC.out, if_neg h0]
          have h0' : (c != 0) = true := by simpa using h0
          clear h0
          go_wp2_with (go_at_call 18; refine (checkPosting_at id ls _ _ _ _ _ rfl HLF.out HC.out HRL.out).mono ?_; rintro e w1 ⟨rfl, hb⟩; have HB1 : Hid (Below wr.heap.size wr w1) := (box2_below hb).2.2; clear hb)
          go_ret
          exact ⟨ret_int HEE.out.symm, below_on HB.out (Nat.le_refl _) HB1.out⟩
      · have HEE : Hid (Lg.chk l = 0) := by
          have : k = l.length := by rw [HN.out]; omega
          show _ = _; rw [HG.out, this]; exact Lg.gat_end l
        go_wp2
        go_ret
        exact ⟨ret_int HEE.out.symm, HB.out⟩
end Go.Proofs.Ytdebhcdmbijanaa
