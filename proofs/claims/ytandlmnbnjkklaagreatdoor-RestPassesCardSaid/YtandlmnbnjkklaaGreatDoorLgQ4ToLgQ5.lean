/- The program's look over a ledger. The program's comparison of two postings' lines; its copies of lines, of a posting. -/
import Derived.Test.YtandlmnbnjkklaaGreatDoorAppStepToLgQ3
import Derived.BigQuiet
import Derived.Lib.QuietBelow
import Derived.Laws.StructEq
import Derived.Lib.SliceRun
namespace Go.Proofs.YtandlmnbnjkklaaGreatDoor
open Go.RowKit Go.BigFrame

set_option maxRecDepth 100000 in
set_option maxHeartbeats 2000000 in
theorem lCheck_any (l : List Lg.Ps) (a : Option Addr) (cap : Nat) (w : World) (hl : l.length ≤ maxLen ∧ l.length ≤ cap) (hf : Fit l) (hr : RowG w a l) :
    Calls Tryz.prog 29 #[.slice a l.length cap] w fun e w' => e = .returned (.int .i64 (Lg.chk l)) ∧ Below w.heap.size w w' := by
  obtain ⟨hl, hcap⟩ := hl
  have HR : Hid (RowG w a l) := hr
  have HF : Hid (Fit l) := hf
  unfold maxLen at hl
  by_cases h1 : 100 < l.length
  · have HE : Hid (Lg.chk l = 2) := by show _ = _; unfold Lg.chk; rw [if_pos h1]
    rw [HE.out]
    have h1' : (100 : Int) < (l.length : Int) := by omega
    clear hr hf
    go_enter Tryz.func29, Tryz.ntmps29
    go_wp2
    go_ret
    exact ⟨rfl, Below.refl _ _⟩
  · have HE : Hid (Lg.chk l = Lg.gat l 0) := by show _ = _; unfold Lg.chk; rw [if_neg h1]; rfl
    have h1' : ¬ (100 : Int) < (l.length : Int) := by omega
    obtain ⟨n, hn⟩ : ∃ n, l.length = n := ⟨_, rfl⟩
    have HN : Hid (l.length = n) := hn
    rw [hn] at hl hcap h1 h1' ⊢
    clear hr hf hn
    go_enter Tryz.func29, Tryz.ntmps29
    go_wp2
    go_loopw [11] (fun iv wr => ∃ k : Nat, k ≤ n ∧ iv = .int .i64 k ∧ Lg.chk l = Lg.gat l k ∧ Below w.heap.size w wr) (fun iv _ => n - (intOf iv).toNat)
    case atStart => exact ⟨0, Nat.zero_le _, rfl, HE.out, Below.refl _ _⟩
    case round =>
      obtain ⟨k, hk, rfl, hg, hb⟩ := hrel
      have HG : Hid (Lg.chk l = Lg.gat l k) := hg
      have HB : Hid (Below w.heap.size w wr) := hb
      have HRK : Hid (RowG wr a l) := HR.out.below hb
      clear hg hb
      by_cases hlt : k < n
      · have hlt' : (k : Int) < (n : Int) := by omega
        obtain ⟨b, off, id, ls, la, lc, rfl, hbs, hx, c1, c2, -, hrl⟩ := HRK.out.at (k := k) (by rw [HN.out]; exact hlt)
        have HX : Hid (l[k]? = some (id, ls)) := hx
        have HS : Hid (_) := Lg.gat_step l k (id, ls) hx
        have HRL : Hid (RowL (wr.alloc (.cells #[.int .i64 id, .slice la ls.length lc] 34)) la ls) := hrl.below (below_box wr _)
        have HLF : Hid (ls.length ≤ maxLen) := HF.out.at hx
        have HT : Hid ((l.take k).length = k) := by show _ = _; rw [List.length_take, HN.out]; omega
        clear hx hrl
        obtain ⟨c, hc⟩ : ∃ c, Lg.pchk (id, ls) = c := ⟨_, rfl⟩
        have HC : Hid (Lg.pchk (id, ls) = c) := hc
        clear hc
        by_cases h0 : c = 0
        · subst h0
          have hkc : k ≤ cap := by omega
          rcases Lg.plc_is (l.take k) id with ⟨p1, -, p3⟩ | ⟨j, ls', p1, -, -, p3⟩
          · have HP : Hid (Lg.plc (l.take k) id = -1) := p1
            have HEE : Hid (Lg.chk l = Lg.gat l (k + 1)) := by show _ = _; rw [HG.out, HS.out, HC.out, if_pos rfl, if_neg (by rw [p3]; decide)]
            clear p1 p3
            go_wp2_with fail
            refine (checkPosting_at id ls _ _ _ _ _ rfl HLF.out HC.out HRL.out).mono ?_
            rintro e w1 ⟨rfl, hb⟩
            have e1 := fun d os => cell_regrown (box2_below hb).1 d os
            have HB1 : Hid (Below wr.heap.size wr w1) := (box2_below hb).2.2
            have HCF : Hid (∀ W, Below w1.heap.size w1 W → Calls Tryz.prog 31 #[.slice (some ⟨b, off, none⟩) k cap, .int .i64 id] W fun e w' => e = .returned (.int .i64 (-1)) ∧ Below W.heap.size W w') := fun W hW => lfind_at (l.take k) k _ _ _ _ _ HT.out (by unfold maxLen; omega) HP.out (((HRK.out.below HB1.out).below hW).take k)
            clear hb
            go_wp2
            refine wp_region_quiet_below (by kernel_rfl) (by kernel_rfl) ?_
            repeat go_big_quiet_step (first | (go_at_call 31; exact Calls.regrown_of (HCF.out _ (below_regrown _ _ _))))
            refine wpQuiet_nil ?_
            intro _ hw'
            obtain ⟨⟨dq, osq⟩, hw''⟩ := hw'
            subst hw''
            have HB2 : Hid (Below wr.heap.size wr (Go.Sort.grow (redrawn w1 dq) osq)) := below_on HB1.out (Nat.le_refl _) (below_regrown _ _ _)
            generalize Go.Sort.grow (redrawn w1 dq) osq = w2 at *
            go_wp2
            go_roundw
            case rel => exact ⟨k + 1, by omega, by go_num, HEE.out, below_on HB.out (Nat.le_refl _) HB2.out⟩
            case measure => simp [intOf]; omega
          · have HP : Hid (Lg.plc (l.take k) id = (j : Int)) := p1
            have HEE : Hid (Lg.chk l = 6) := by show _ = _; rw [HG.out, HS.out, HC.out, if_pos rfl, if_pos p3]
            clear p1 p3
            go_wp2_with fail
            refine (checkPosting_at id ls _ _ _ _ _ rfl HLF.out HC.out HRL.out).mono ?_
            rintro e w1 ⟨rfl, hb⟩
            have e1 := fun d os => cell_regrown (box2_below hb).1 d os
            have HB1 : Hid (Below wr.heap.size wr w1) := (box2_below hb).2.2
            have HCF : Hid (∀ W, Below w1.heap.size w1 W → Calls Tryz.prog 31 #[.slice (some ⟨b, off, none⟩) k cap, .int .i64 id] W fun e w' => e = .returned (.int .i64 (j : Int)) ∧ Below W.heap.size W w') := fun W hW => lfind_at (l.take k) k _ _ _ _ _ HT.out (by unfold maxLen; omega) HP.out (((HRK.out.below HB1.out).below hW).take k)
            clear hb
            go_wp2
            refine wp_region_quiet_below (by kernel_rfl) (by kernel_rfl) ?_
            repeat go_big_quiet_step (first | (go_at_call 31; exact Calls.regrown_of (HCF.out _ (below_regrown _ _ _))))
            refine wpQuiet_nil ?_
            intro _ hw'
            obtain ⟨⟨dq, osq⟩, hw''⟩ := hw'
            subst hw''
            have HB2 : Hid (Below wr.heap.size wr (Go.Sort.grow (redrawn w1 dq) osq)) := below_on HB1.out (Nat.le_refl _) (below_regrown _ _ _)
            generalize Go.Sort.grow (redrawn w1 dq) osq = w2 at *
            go_wp2
            go_ret
            exact ⟨ret_int HEE.out.symm, below_on HB.out (Nat.le_refl _) HB2.out⟩
        · have HEE : Hid (Lg.chk l = c) := by show _ = _; rw [HG.out, HS.out, HC.out, if_neg h0]
          have h0' : (c != 0) = true := by simpa using h0
          clear h0
          go_wp2_with (go_at_call 30; refine (checkPosting_at id ls _ _ _ _ _ rfl HLF.out HC.out HRL.out).mono ?_; rintro e w1 ⟨rfl, hb⟩; have HB1 : Hid (Below wr.heap.size wr w1) := (box2_below hb).2.2; clear hb)
          go_ret
          exact ⟨ret_int HEE.out.symm, below_on HB.out (Nat.le_refl _) HB1.out⟩
      · have HEE : Hid (Lg.chk l = 0) := by
          have : k = l.length := by rw [HN.out]; omega
          show _ = _; rw [HG.out, this]; exact Lg.gat_end l
        go_wp2
        go_ret
        exact ⟨ret_int HEE.out.symm, HB.out⟩
end Go.Proofs.YtandlmnbnjkklaaGreatDoor
namespace Go.Proofs.YtandlmnbnjkklaaGreatDoor
open Go.RowKit Go.BigFrame

theorem eqLn (x y x' y' : Int) (w : World) : (Op.equalIn 10000 54 (.agg #[.int .i64 x, .int .i64 y]) (.agg #[.int .i64 x', .int .i64 y'])).run Tryz.prog w = .ok (decide ((x, y) = (x', y'))) w := by
  have u3 := Tryz.underlying3
  have a3 := Tryz.isAgg3
  have z3 := Tryz.sizeOf3
  have hS : Tryz.prog.underlying 54 = some (.struct (Tryz.prog.fieldsOf 54)) := by kernel_rfl
  have hp : Tryz.prog.stoodInHeld 54 = false := by kernel_rfl
  rw [show (10000 : Nat) = 9999 + 1 from rfl, run_equalIn_agg w 9999 54 _ _ hS hp]
  simp only [Program.fieldsOf, Tryz.underlying54]
  go_simp
  by_cases h1 : x = x' <;> by_cases h2 : y = y' <;> simp [h1, h2]
set_option maxRecDepth 100000 in
set_option maxHeartbeats 2000000 in
theorem lEqual_any (l r : List Lg.Ln) (a a' : Option Addr) (cap cap' : Nat) (w : World) (hl : l.length ≤ maxLen) (hl' : r.length ≤ maxLen) (hr : RowL w a l) (hr' : RowL w a' r) :
    Calls Tryz.prog 32 #[.slice a l.length cap, .slice a' r.length cap'] w fun e w' => e = .returned (.bool (decide (l = r))) ∧ ∃ m, w' = w.drewN m := by
  unfold maxLen at hl hl'
  by_cases hlen : l.length = r.length
  · have HL : Hid (l.length = r.length) := hlen
    go_enter Tryz.func32, Tryz.ntmps32
    rw [← hlen]
    clear hlen
    go_wp2
    go_loopw [13] (fun i wr => ∃ k : Nat, k ≤ l.length ∧ i = .int .i64 k ∧ l.take k = r.take k ∧ ∃ m, wr = w.drewN m) (fun i _ => l.length - (intOf i).toNat)
    case atStart => exact ⟨0, Nat.zero_le _, rfl, rfl, 0, rfl⟩
    case round =>
      obtain ⟨k, hk, rfl, hm, m, rfl⟩ := hrel
      have HM : Hid (l.take k = r.take k) := hm
      clear hm
      by_cases hlt : k < l.length
      · have hlt' : (k : Int) < (l.length : Int) := by omega
        obtain ⟨b, off, x, y, rfl, hx, c1, c2⟩ := hr.at hlt
        obtain ⟨b', off', x', y', rfl, hx', c1', c2'⟩ := hr'.at (k := k) (by have := HL.out; omega)
        have HX : Hid (l[k]? = some (x, y) ∧ r[k]? = some (x', y')) := ⟨hx, hx'⟩
        clear hx hx'
        have heq := fun W => eqLn x y x' y' W
        by_cases e : (x, y) = (x', y')
        · rw [show decide ((x, y) = (x', y')) = true from by simpa using e] at heq
          have HE : Hid (l.take (k + 1) = r.take (k + 1)) := by
            unfold Hid; rw [Lg.take_snoc l k _ HX.out.1, Lg.take_snoc r k _ HX.out.2, HM.out, e]
          clear e
          go_wp2
          go_quiet (fail)
          go_wp2
          go_roundw
          case rel => exact ⟨k + 1, by omega, by go_num, HE.out, _, by first | rfl | simp only [World.drewN_drewN]⟩
          case measure => simp [intOf]; omega
        · rw [show decide ((x, y) = (x', y')) = false from by simpa using e] at heq
          have HE : Hid (decide (l = r) = false) := by
            unfold Hid
            simp only [decide_eq_false_iff_not]
            rintro rfl
            exact e (Option.some.inj (HX.out.1.symm.trans HX.out.2))
          clear e
          go_wp2
          go_quiet (fail)
          go_wp2
          go_ret
          refine ⟨ret_bool HE.out.symm, ?_⟩
          first | exact ⟨_, rfl⟩ | (rw [World.drewN_drewN]; exact ⟨_, rfl⟩)
      · obtain rfl : k = l.length := by omega
        have HE : Hid (decide (l = r) = true) := by
          unfold Hid
          have := HM.out
          rw [List.take_of_length_le (Nat.le_refl _), List.take_of_length_le (by rw [HL.out]; exact Nat.le_refl _)] at this
          simpa using this
        go_wp2
        go_ret
        exact ⟨ret_bool HE.out.symm, _, rfl⟩
  · have HE : Hid (decide (l = r) = false) := by
      unfold Hid
      simp only [decide_eq_false_iff_not]
      rintro rfl
      exact hlen rfl
    have hne : ((l.length : Int) != (r.length : Int)) = true := by simp; omega
    clear hlen
    go_enter Tryz.func32, Tryz.ntmps32
    go_wp2
    go_ret
    exact ⟨ret_bool HE.out.symm, 0, rfl⟩
theorem lEqual_below (l r : List Lg.Ln) (a a' : Option Addr) (n n' cap cap' : Nat) (b : Bool) (w : World) (hn : l.length = n) (hn' : r.length = n') (hl : l.length ≤ maxLen) (hl' : r.length ≤ maxLen) (hb : decide (l = r) = b) (hr : RowL w a l) (hr' : RowL w a' r) :
    Calls Tryz.prog 32 #[.slice a n cap, .slice a' n' cap'] w fun e w' => e = .returned (.bool b) ∧ Below w.heap.size w w' := by
  subst hn hn' hb; exact (lEqual_any l r a a' cap cap' w hl hl' hr hr').mono fun _ _ h => ⟨h.1, drewN_below h.2⟩
set_option maxRecDepth 100000 in
set_option maxHeartbeats 1000000 in
theorem lClone_any (l : List Lg.Ln) (a : Option Addr) (cap : Nat) (w : World) (hl : l.length ≤ 1000000) (hn : l ≠ []) (hr : RowL w a l) :
    Calls Tryz.prog 60 #[.slice a l.length cap] w fun e w' => ∃ g c, e = .returned (.slice (some ⟨g, 0, none⟩) l.length c) ∧ l.length ≤ c ∧ w.heap.size ≤ g ∧ RowL w' (some ⟨g, 0, none⟩) l ∧ Below w.heap.size w w' := by
  have q22 : ∀ (w : World) (a : Option Addr) (n c n' c' : Nat), (binOp .eql 32 (.slice a n c) (.slice none n' c')).run Tryz.prog w = .ok (.bool a.isNone) w := fun w a n c n' c' => Lib.run_eql_slice_nil w _ _ a n c n' c' Tryz.underlying32
  obtain ⟨i0, hi, hz0, hz1, hz2⟩ := infoL
  obtain ⟨ad, rfl⟩ : ∃ ad, a = some ad := by
    rcases hr with h | ⟨b, off, h, _⟩
    · exact absurd h hn
    · exact ⟨_, h⟩
  have HN := (hr.below (below_box w (.cells #[] 54))).news ad rfl
  have HR : Hid (_) := HN
  have HNE : Hid (l ≠ []) := hn
  clear hr hn HN
  go_enter Tryz.func60, Tryz.ntmps60
  go_wp2_with (at_builtin; refine wpList_append_own _ rfl _ _ 32 rfl w.heap.size 54 i0 _ 2 16 Tryz.underlying32 hi hz0 hz1 hz2 rfl (by omega) _ _ _ rfl (World.ownsRow_made w #[] 0 (Nat.le_refl _) (Nat.zero_le _) (by simp)) ad l.length cap (flatL l) rfl ?qc1 ?qc2 ?qc3 ?qc4 ?qc5 ?qc6 ?_)
  case qc1 => exact flatL_len l
  case qc2 => exact HR.out
  case qc3 => exact flatL_one l
  case qc4 => unfold maxLen; omega
  case qc5 => omega
  case qc6 => simp
  intro v' w1 hown hgrow hnil
  go_wp2
  go_ret
  have ho : OwnL w1 w.heap.size v' l := by unfold OwnL; simpa using hown
  rcases ho.form with ⟨-, h⟩ | ⟨g, c, rfl, hB, hg⟩
  · exact absurd h HNE.out
  · have hfit := ho.fits rfl
    obtain ⟨a2, c2, e2, -, hrow⟩ := ho.row
    cases e2
    exact ⟨g, c, rfl, hfit, hB, hrow, ((Below.refl _ w).alloc (Nat.le_refl _) _).grown hgrow (by simp) (by intro k hk; simp [Value.ownBlock] at hk; omega)⟩
end Go.Proofs.YtandlmnbnjkklaaGreatDoor
