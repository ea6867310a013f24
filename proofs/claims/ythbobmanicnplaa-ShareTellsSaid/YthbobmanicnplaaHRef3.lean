/- The walks of the reference's shares by weights, the greatest rests. -/
import Derived.Test.YthbobmanicnplaaHRef2
namespace Go.Proofs.Ythbobmanicnplaa
open Go.RowKit Go.BigFrame Go.Sort

theorem refJeff_no (T : Int) (l : List Int) (a : Option Addr) (cap : Nat) (c : Int) (w : World) (hl : l.length ≤ maxLen) (hc : Shr.code T l = c) (hn : c ≠ 0) (hr : Row1 w a l) :
    Calls Try.prog 14 #[.int .i64 T, .slice a l.length cap] w fun e w' => e = .returned (.tuple #[.slice none 0 0, .int .i64 c]) ∧ Below w.heap.size w w' := by
  have hb := Shr.code_bd T l
  have HWS : Hid (wsum T l = 0) := wsum_no T l (by rw [hc]; exact hn)
  rw [hc] at hb
  have HC : Hid (Shr.code T l = c) := hc
  have hc0 : 0 < c := by omega
  clear hc hn
  go_enter Try.func14, Try.ntmps14
  go_wp2_with (go_at_call 26; refine (wcheck_at T l _ _ _ _ _ hl HWS.out HC.out hr).mono ?_; rintro e w1 ⟨rfl, b1⟩)
  all_goals first | (exfalso; rename_i hq; simp at hq; omega) | skip
  go_ret2
  exact ⟨rfl, b1⟩
theorem refJeff (T : Int) (l : List Int) (a : Option Addr) (cap : Nat) (w : World) (hl : l.length ≤ maxLen) (hr : Row1 w a l) :
    Calls Try.prog 14 #[.int .i64 T, .slice a l.length cap] w fun e w' => ∃ v, e = .returned (.tuple #[v, .int .i64 (Shr.code T l)]) ∧ OutI w w' v (Shr.jeff T l) ∧ Below w.heap.size w w' := by
  by_cases h : Shr.code T l = 0
  · have ok := Shr.ok_of T l h
    obtain ⟨k, rfl⟩ := Int.eq_ofNat_of_zero_le ok.t0
    unfold Shr.jeff
    rw [if_pos h, h]
    exact refJeff_yes k l a cap w ok h hr
  · unfold Shr.jeff
    rw [if_neg h]
    exact (refJeff_no T l a cap _ w hl rfl h hr).mono fun e w' ⟨he, hw⟩ => ⟨_, he, .inl ⟨rfl, rfl⟩, hw⟩
theorem refHam_no (T : Int) (l : List Int) (a : Option Addr) (cap : Nat) (c : Int) (w : World) (hl : l.length ≤ maxLen) (hc : Shr.code T l = c) (hn : c ≠ 0) (hr : Row1 w a l) :
    Calls Try.prog 13 #[.int .i64 T, .slice a l.length cap] w fun e w' => e = .returned (.tuple #[.slice none 0 0, .int .i64 c]) ∧ Below w.heap.size w w' := by
  have hb := Shr.code_bd T l
  have HWS : Hid (wsum T l = 0) := wsum_no T l (by rw [hc]; exact hn)
  rw [hc] at hb
  have HC : Hid (Shr.code T l = c) := hc
  have hc0 : 0 < c := by omega
  clear hc hn
  go_enter Try.func13, Try.ntmps13
  go_wp2_with (go_at_call 26; refine (wcheck_at T l _ _ _ _ _ hl HWS.out HC.out hr).mono ?_; rintro e w1 ⟨rfl, b1⟩)
  all_goals first | (exfalso; rename_i hq; simp at hq; omega) | skip
  go_ret2
  exact ⟨rfl, b1⟩
theorem cnt_yes (T : Int) (l : List Int) (i k : Nat) (h : Shr.rs T l i < Shr.rs T l k ∨ (Shr.rs T l k = Shr.rs T l i ∧ k < i)) : Shr.cnt (k + 1) (fun j => Shr.ltb T l (j : Int) (i : Int)) = Shr.cnt k (fun j => Shr.ltb T l (j : Int) (i : Int)) + 1 := by
  rw [Shr.cnt_succ, if_pos]
  rw [Shr.ltb_iff]
  simp only [Int.toNat_natCast]
  omega
theorem cnt_no (T : Int) (l : List Int) (i k : Nat) (h : ¬ (Shr.rs T l i < Shr.rs T l k ∨ (Shr.rs T l k = Shr.rs T l i ∧ k < i))) : Shr.cnt (k + 1) (fun j => Shr.ltb T l (j : Int) (i : Int)) = Shr.cnt k (fun j => Shr.ltb T l (j : Int) (i : Int)) := by
  rw [Shr.cnt_succ, if_neg, Nat.add_zero]
  rw [Shr.ltb_iff]
  simp only [Int.toNat_natCast]
  omega
set_option maxHeartbeats 4000000 in
set_option maxRecDepth 100000 in
theorem refHam_yes (T : Int) (l : List Int) (a : Option Addr) (cap : Nat) (w : World) (ok : Shr.Ok T l) (hc : Shr.code T l = 0) (hr : Row1 w a l) :
    Calls Try.prog 13 #[.int .i64 T, .slice a l.length cap] w fun e w' => ∃ v, e = .returned (.tuple #[v, .int .i64 0]) ∧ OwnI w' w.heap.size v ((List.range l.length).map (Shr.hamAt T l)) ∧ Below w.heap.size w w' := by
  obtain ⟨i0, hi, hz0, hz1, hz2⟩ := info_parts infoInt
  have HI : Hid (Try.prog.info? 3 = some i0 ∧ i0.zero = some (.int .i64 0) ∧ i0.size = 1 ∧ i0.bytes = 8) := ⟨hi, hz0, hz1, hz2⟩
  clear hi hz0 hz1 hz2
  have hl := ok.len
  have hn0 := ok.n0
  have HC : Hid (Shr.code T l = 0) := hc
  have HWS : Hid (wsum T l = l.sum) := wsum_ok T l hc
  have HOK : Hid (Shr.Ok T l) := ok
  have hs0 := ok.sum
  have hs1 := ok.sum1
  have ht0 := ok.t0
  have ht1 := ok.t1
  have HQ : Hid (∀ k, 0 ≤ Shr.sm k (Shr.q T l) ∧ Shr.sm k (Shr.q T l) ≤ k * 10000000000) := fun k => ⟨Shr.sm_nonneg k _ (fun i _ => (HOK.out.qr i).2.2.2), by rw [← Shr.sm_const k 10000000000]; exact Shr.sm_le k _ _ (fun i _ => HOK.out.q_le i)⟩
  have HLF : Hid (T - Shr.sm l.length (Shr.q T l) = Shr.left T l) := rfl
  have hlf := ok.left_pos.1
  have hlf2 := ok.left_n
  clear ok hc
  go_enter Try.func13, Try.ntmps13
  go_wp2_with (go_at_call 26; refine (wcheck_at T l _ _ _ _ _ (by unfold maxLen; omega) HWS.out HC.out hr).mono ?_; rintro e w1 ⟨rfl, b1⟩)
  have HR : Hid (Row1 w1 a l) := hr.below b1
  have HR0 : Hid (Row1 w a l) := hr
  have HB1 : Hid (Below w.heap.size w w1) := b1
  clear hr b1
  go_loop [8, 9] (fun lv iv => ∃ k : Nat, k ≤ l.length ∧ iv = .int .i64 k ∧ lv = .int .i64 (T - Shr.sm k (Shr.q T l))) (fun _ iv => l.length - (intOf iv).toNat)
  case atStart => exact ⟨0, Nat.zero_le _, rfl, by rw [Shr.sm_zero, Int.sub_zero]⟩
  case round =>
    obtain ⟨k, hk, rfl, rfl⟩ := hrel
    by_cases hlt : k < l.length
    · obtain ⟨b, off, rfl, _, _, c1⟩ := HR.out.get hlt
      have hp := HOK.out.prod k
      have hp0 := hp.1
      have hp1 := hp.2
      have hq := (HOK.out.qr k).2.2.2
      have hq2 := HOK.out.q_le k
      have hsm := HQ.out k
      have HS : Hid (Shr.sm (k + 1) (Shr.q T l) = Shr.sm k (Shr.q T l) + Shr.q T l k) := Shr.sm_succ k _
      have HQk : Hid (T * Shr.at' l k / l.sum = Shr.q T l k) := rfl
      have kz : (k : Int) < (l.length : Int) := by omega
      have hqq : T * Shr.at' l k / l.sum = Shr.q T l k := rfl
      clear hp
      generalize Shr.q T l k = qk at *
      generalize Shr.sm k (Shr.q T l) = s at *
      generalize Shr.at' l k = x at *
      generalize hS : l.sum = S at *
      clear hS
      go_wp2
      go_round
      case rel => exact ⟨k + 1, by omega, by go_num, by rw [HS.out, Int.sub_sub]⟩
      case measure => simp [intOf]; omega
    · obtain rfl : k = l.length := by omega
      rw [HLF.out]
      generalize hLL : Shr.left T l = LF at *
      have HLL : Hid (Shr.left T l = LF) := hLL
      clear hLL
      go_wp2
      go_loopw [10, 11] (fun v iv wr => ∃ i : Nat, i ≤ l.length ∧ iv = .int .i64 i ∧ OwnI wr w.heap.size v ((List.range i).map (Shr.hamAt T l)) ∧ Below w.heap.size w wr) (fun _ iv _ => l.length - (intOf iv).toNat)
      case atStart => exact ⟨0, Nat.zero_le _, rfl, OwnI.nil _ _, HB1.out⟩
      case round =>
        obtain ⟨i, hi, rfl, hown, hnx⟩ := hrel
        by_cases hlt2 : i < l.length
        · have hsz : w.heap.size ≤ wr.heap.size := hnx.size
          have HRw : Hid (Row1 wr a l) := HR0.out.below hnx
          obtain ⟨b, off, ea, -, -, c1⟩ := HRw.out.get hlt2
          have hp := HOK.out.prod i
          have hp0 := hp.1
          have hp1 := hp.2
          have hqr := HOK.out.qr i
          have hr1 := hqr.2.1
          have hr2 := hqr.2.2.1
          have hq1 := hqr.2.2.2
          have hq2 := HOK.out.q_le i
          have hqq : T * Shr.at' l i / l.sum = Shr.q T l i := rfl
          have hrr : T * Shr.at' l i % l.sum = Shr.rs T l i := rfl
          have HMS : Hid ((List.range (i + 1)).map (Shr.hamAt T l) = (List.range i).map (Shr.hamAt T l) ++ [Shr.hamAt T l i]) := map_succ i _
          have HLn : Hid (((List.range i).map (Shr.hamAt T l)).length = i) := by show _ = _; simp
          have HHY : Hid ((Shr.cnt l.length (fun j => Shr.ltb T l (j : Int) (i : Int)) : Int) < LF → Shr.hamAt T l i = Shr.q T l i + 1) := fun h => by unfold Shr.hamAt Shr.ahead; rw [HLL.out, if_pos h]
          have HHN : Hid (¬ (Shr.cnt l.length (fun j => Shr.ltb T l (j : Int) (i : Int)) : Int) < LF → Shr.hamAt T l i = Shr.q T l i) := fun h => by unfold Shr.hamAt Shr.ahead; rw [HLL.out, if_neg h, Int.add_zero]
          have HCY : Hid (∀ k, (Shr.rs T l i < Shr.rs T l k ∨ (Shr.rs T l k = Shr.rs T l i ∧ k < i)) → Shr.cnt (k + 1) (fun j => Shr.ltb T l (j : Int) (i : Int)) = Shr.cnt k (fun j => Shr.ltb T l (j : Int) (i : Int)) + 1) := fun k h => cnt_yes T l i k h
          have HCN : Hid (∀ k, ¬ (Shr.rs T l i < Shr.rs T l k ∨ (Shr.rs T l k = Shr.rs T l i ∧ k < i)) → Shr.cnt (k + 1) (fun j => Shr.ltb T l (j : Int) (i : Int)) = Shr.cnt k (fun j => Shr.ltb T l (j : Int) (i : Int))) := fun k h => cnt_no T l i k h
          have HCB : Hid (∀ k, Shr.cnt k (fun j => Shr.ltb T l (j : Int) (i : Int)) ≤ k) := fun k => Shr.cnt_le k _
          have iz : (i : Int) < (l.length : Int) := by omega
          subst ea
          clear hp hqr
          generalize (List.range i).map (Shr.hamAt T l) = xs at *
          generalize Shr.hamAt T l i = hv at *
          generalize Shr.q T l i = qi at *
          generalize Shr.rs T l i = ri at *
          generalize Shr.at' l i = x at *
          generalize hcf : (fun j : Nat => Shr.ltb T l (j : Int) (i : Int)) = cf at *
          clear hcf
          generalize hS : l.sum = S at *
          have HSS : Hid (l.sum = S) := hS
          clear hS
          go_wp2
          go_loop [12, 14, 15] (fun av kv _ => ∃ k : Nat, k ≤ l.length ∧ kv = .int .i64 k ∧ av = .int .i64 (Shr.cnt k cf : Nat)) (fun _ kv _ => l.length - (intOf kv).toNat)
          case atStart => exact ⟨0, Nat.zero_le _, rfl, rfl⟩
          case round =>
            obtain ⟨k, hk, rfl, rfl⟩ := hrel
            have hcb := HCB.out k
            by_cases hlt3 : k < l.length
            · obtain ⟨b', off', ea', -, -, c2⟩ := HRw.out.get hlt3
              obtain ⟨rfl, rfl⟩ : b = b' ∧ off = off' := by simpa using ea'
              clear ea'
              have hp := HOK.out.prod k
              have hp2 := hp.1
              have hp3 := hp.2
              have hqr := HOK.out.qr k
              have hr3 := hqr.2.1
              have hr4 := hqr.2.2.1
              rw [HSS.out] at hr4
              have hrk : T * Shr.at' l k % l.sum = Shr.rs T l k := rfl
              rw [HSS.out] at hrk
              have hcy := HCY.out k
              have hcn := HCN.out k
              have H1 : Hid (_) := hcy
              have H2 : Hid (_) := hcn
              have kz : (k : Int) < (l.length : Int) := by omega
              clear hp hqr hcy hcn
              generalize Shr.rs T l k = rk at *
              generalize Shr.at' l k = y at *
              rcases Int.lt_trichotomy ri rk with d | d | d
              · have e1 := H1.out (.inl d)
                have HE : Hid (Shr.cnt (k + 1) cf = Shr.cnt k cf + 1) := e1
                clear e1
                generalize Shr.cnt k cf = ck at *
                go_wp2
                go_round
                case rel => exact ⟨k + 1, by omega, by go_num, by rw [HE.out]; go_num⟩
                case measure => simp [intOf]; omega
              · subst d
                by_cases d2 : k < i
                · have HE : Hid (Shr.cnt (k + 1) cf = Shr.cnt k cf + 1) := H1.out (.inr ⟨by first | trivial | rfl, d2⟩)
                  have d2z : (k : Int) < (i : Int) := by omega
                  generalize Shr.cnt k cf = ck at *
                  go_wp2
                  go_round
                  case rel => exact ⟨k + 1, by omega, by go_num, by rw [HE.out]; go_num⟩
                  case measure => simp [intOf]; omega
                · have HE : Hid (Shr.cnt (k + 1) cf = Shr.cnt k cf) := H2.out (by omega)
                  have d2z : (i : Int) ≤ (k : Int) := by omega
                  generalize Shr.cnt k cf = ck at *
                  go_wp2
                  go_round
                  case rel => exact ⟨k + 1, by omega, by go_num, by rw [HE.out]⟩
                  case measure => simp [intOf]; omega
              · have HE : Hid (Shr.cnt (k + 1) cf = Shr.cnt k cf) := H2.out (by omega)
                have d3 : (rk == ri) = false := by simp; omega
                generalize Shr.cnt k cf = ck at *
                go_wp2
                go_round
                case rel => exact ⟨k + 1, by omega, by go_num, by rw [HE.out]⟩
                case measure => simp [intOf]; omega
            · obtain rfl : k = l.length := by omega
              have HCL : Hid (Shr.cnt l.length cf ≤ l.length) := hcb
              by_cases d : ((Shr.cnt l.length cf : Nat) : Int) < LF
              · have HV : Hid (hv = qi + 1) := HHY.out d
                generalize Shr.cnt l.length cf = ck at *
                go_wp2_with (at_builtin; refine wpList_append_own _ rfl (.tmp 99) (.tmp 101) 22 rfl w.heap.size 3 i0 (.int .i64 0) 1 8 Try.underlying22 HI.out.1 HI.out.2.1 HI.out.2.2.1 HI.out.2.2.2 rfl (by decide) _ _ _ rfl (World.ownsRow.alloc hown _) ⟨wr.heap.size, 0, none⟩ 1 1 [.int .i64 (qi + 1)] rfl rfl (cell1_new _ _ _) (one1 _) (by unfold maxLen; have := HLn.out; omega) (by have := HLn.out; omega) (by first | omega | (simp; omega)) ?_; intro v1 w2 own1 grow1 _)
                have R := OwnI.keep hsz hown hnx own1 grow1
                clear own1 grow1 hown
                go_wp2
                go_roundw
                case rel => exact ⟨i + 1, by omega, by go_num, by rw [HMS.out, HV.out]; exact R.1, R.2⟩
                case measure => simp [intOf]; omega
              · have HV : Hid (hv = qi) := HHN.out (by first | exact d | omega)
                generalize Shr.cnt l.length cf = ck at *
                go_wp2_with (at_builtin; refine wpList_append_own _ rfl (.tmp 99) (.tmp 101) 22 rfl w.heap.size 3 i0 (.int .i64 0) 1 8 Try.underlying22 HI.out.1 HI.out.2.1 HI.out.2.2.1 HI.out.2.2.2 rfl (by decide) _ _ _ rfl (World.ownsRow.alloc hown _) ⟨wr.heap.size, 0, none⟩ 1 1 [.int .i64 qi] rfl rfl (cell1_new _ _ _) (one1 _) (by unfold maxLen; have := HLn.out; omega) (by have := HLn.out; omega) (by first | omega | (simp; omega)) ?_; intro v1 w2 own1 grow1 _)
                have R := OwnI.keep hsz hown hnx own1 grow1
                clear own1 grow1 hown
                go_wp2
                go_roundw
                case rel => exact ⟨i + 1, by omega, by go_num, by rw [HMS.out, HV.out]; exact R.1, R.2⟩
                case measure => simp [intOf]; omega
        · obtain rfl : i = l.length := by omega
          go_wp2
          go_ret2
          exact ⟨_, rfl, hown, hnx⟩
theorem refHam (T : Int) (l : List Int) (a : Option Addr) (cap : Nat) (w : World) (hl : l.length ≤ maxLen) (hr : Row1 w a l) :
    Calls Try.prog 13 #[.int .i64 T, .slice a l.length cap] w fun e w' => ∃ v, e = .returned (.tuple #[v, .int .i64 (Shr.code T l)]) ∧ OwnI w' w.heap.size v (Shr.ham T l) ∧ Below w.heap.size w w' := by
  by_cases h : Shr.code T l = 0
  · have ok := Shr.ok_of T l h
    unfold Shr.ham
    rw [if_pos h, h]
    exact refHam_yes T l a cap w ok h hr
  · unfold Shr.ham
    rw [if_neg h]
    exact (refHam_no T l a cap _ w hl rfl h hr).mono fun e w' ⟨he, hw⟩ => ⟨_, he, OwnI.nil _ _, hw⟩
end Go.Proofs.Ythbobmanicnplaa
