/- The program's balance of an account. -/
import Derived.Test.YtdebhcdmbijanaaLgQ7
namespace Go.Proofs.Ytdebhcdmbijanaa
open Go.RowKit Go.BigFrame

namespace Lg
def balC (l : List Ps) (a : Int) : Int := if chk l = 0 then (if a < 1 ∨ 5 < a then 7 else 0) else chk l
def balV (l : List Ps) (a : Int) : Int := if balC l a = 0 then bal l a else 0
theorem bal_take (l : List Ps) (k : Nat) (p : Ps) (h : l[k]? = some p) (a : Int) : bal (l.take (k + 1)) a = bal (l.take k) a + lsum p.2 a := by
  rw [take_snoc l k p h, bal_append, bal_one]
end Lg
set_option maxRecDepth 100000 in
set_option maxHeartbeats 4000000 in
theorem lBalance_any (l : List Lg.Ps) (a : Option Addr) (cap : Nat) (acc : Int) (w : World) (hl : l.length ≤ maxLen ∧ l.length ≤ cap) (hf : Fit l) (hr : RowG w a l) :
    Calls Try.prog 9 #[.slice a l.length cap, .int .i64 acc] w fun e w' => e = .returned (.tuple #[.int .i64 (Lg.balV l acc), .int .i64 (Lg.balC l acc)]) ∧ Below w.heap.size w w' := by
  have R : Hid (RowG w a l) := hr
  obtain ⟨n, hn⟩ : ∃ n, l.length = n := ⟨_, rfl⟩
  have HN : Hid (l.length = n) := hn
  obtain ⟨c, hc⟩ : ∃ c, Lg.chk l = c := ⟨_, rfl⟩
  have HC : Hid (Lg.chk l = c) := hc
  have hlc := lCheck_any l a cap w hl hf hr
  rw [hn, hc] at hlc
  rw [hn]
  clear hl hf hr hn hc
  by_cases c0 : c = 0
  · subst c0
    have HLO : Hid (Lg.LOk l) := (Lg.chk_ok l).1 HC.out
    have h100 : n ≤ 100 := by rw [← HN.out]; exact HLO.out.len
    by_cases ha : acc < 1 ∨ 5 < acc
    · have HA : Hid (decide (1 ≤ acc ∧ acc ≤ 5) = false) := by show _ = _; rw [decide_eq_false_iff_not]; omega
      have HE1 : Hid (Lg.balC l acc = 7) := by show _ = _; unfold Lg.balC; rw [if_pos HC.out, if_pos ha]
      have HE2 : Hid (Lg.balV l acc = 0) := by show _ = _; unfold Lg.balV; rw [HE1.out]; rfl
      rw [HE1.out, HE2.out]
      clear ha
      go_enter Try.func9, Try.ntmps9
      go_wp2_with fail
      refine hlc.mono ?_
      rintro e w1 ⟨rfl, hb⟩
      have B1 : Hid (Below w.heap.size w w1) := hb
      clear hb hlc
      go_wp2_with (go_at_call 23; refine (lacc_any _ _ _ HA.out).mono ?_; rintro e w2 ⟨rfl, rfl⟩)
      go_ret2
      exact ⟨rfl, B1.out⟩
    · have HA : Hid (decide (1 ≤ acc ∧ acc ≤ 5) = true) := by show _ = _; rw [decide_eq_true_iff]; omega
      have HE1 : Hid (Lg.balC l acc = 0) := by show _ = _; unfold Lg.balC; rw [if_pos HC.out, if_neg ha]
      have HE2 : Hid (Lg.balV l acc = Lg.bal l acc) := by show _ = _; unfold Lg.balV; rw [HE1.out]; rfl
      rw [HE1.out, HE2.out]
      clear ha
      go_enter Try.func9, Try.ntmps9
      go_wp2_with fail
      refine hlc.mono ?_
      rintro e w1 ⟨rfl, hb⟩
      have B1 : Hid (Below w.heap.size w w1) := hb
      clear hb hlc
      go_wp2_with (go_at_call 23; refine (lacc_any _ _ _ HA.out).mono ?_; rintro e w2 ⟨rfl, rfl⟩)
      go_loopw [7, 22] (fun sv iv wr => ∃ k : Nat, k ≤ n ∧ iv = .int .i64 k ∧ sv = .int .i64 (Lg.bal (l.take k) acc) ∧ Below w.heap.size w wr) (fun _ iv _ => n - (intOf iv).toNat)
      case atStart => exact ⟨0, Nat.zero_le _, rfl, rfl, B1.out⟩
      case round =>
        obtain ⟨k, hk, rfl, rfl, hb⟩ := hrel
        have HB : Hid (Below w.heap.size w wr) := hb
        clear hb
        by_cases hlt : k < n
        · have hlt' : (k : Int) < (n : Int) := by omega
          obtain ⟨b, off, id, ls, la, lc, rfl, -, hx, c1, c2, -, hrl⟩ := (R.out.below HB.out).at (k := k) (by rw [HN.out]; exact hlt)
          have HX : Hid (l[k]? = some (id, ls)) := hx
          have pok := HLO.out.each (id, ls) (List.mem_of_getElem? hx)
          have h6 := pok.six
          simp only at h6
          have HLB : Hid (∀ k, -((ls.take k).length * 1099511627776) ≤ Lg.lsum (ls.take k) acc ∧ Lg.lsum (ls.take k) acc ≤ (ls.take k).length * 1099511627776) := fun k => Lg.lsum_bd _ acc (fun x hx => by have := pok.line x (List.mem_of_mem_take hx); exact ⟨this.2.2.1, this.2.2.2.1⟩)
          have HLI : Hid (∀ x ∈ ls, -1099511627776 ≤ x.2 ∧ x.2 ≤ 1099511627776) := fun x hx => by have := pok.line x hx; exact ⟨this.2.2.1, this.2.2.2.1⟩
          have hbb := Lg.bal_bd (l.take k) acc (fun p hp => HLO.out.each p (List.mem_of_mem_take hp))
          have HBD : Hid (Lg.bal (l.take (k + 1)) acc = Lg.bal (l.take k) acc + Lg.lsum ls acc) := Lg.bal_take l k _ hx acc
          have hdl : (l.take k).length ≤ 100 := by rw [List.length_take, HN.out]; omega
          obtain ⟨s0, hs0⟩ : ∃ s0, Lg.bal (l.take k) acc = s0 := ⟨_, rfl⟩
          have HS0 : Hid (Lg.bal (l.take k) acc = s0) := hs0
          rw [hs0] at hbb ⊢
          have s1 : -659706976665600 ≤ s0 := by omega
          have s2 : s0 ≤ 659706976665600 := by omega
          obtain ⟨m, hm⟩ : ∃ m, ls.length = m := ⟨_, rfl⟩
          have HM : Hid (ls.length = m) := hm
          rw [hm] at h6 c2
          have HBP : Hid (Below wr.heap.size wr (wr.alloc (.cells #[.int .i64 id, .slice la m lc] 25))) := below_box wr _
          have HRL : Hid (RowL (wr.alloc (.cells #[.int .i64 id, .slice la m lc] 25)) la ls) := hrl.below HBP.out
          clear hx hrl pok hbb hdl hs0 hm
          go_wp2
          have HW2 : Hid (∃ W2, wr.alloc (.cells #[.int .i64 id, .slice la m lc] 25) = W2) := ⟨_, rfl⟩
          generalize wr.alloc (.cells #[.int .i64 id, .slice la m lc] 25) = W2 at *
          clear HW2
          go_loopw [7, 29] (fun sv kv wi => ∃ k : Nat, k ≤ m ∧ kv = .int .i64 k ∧ sv = .int .i64 (s0 + Lg.lsum (ls.take k) acc) ∧ Below W2.heap.size W2 wi) (fun _ kv _ => m - (intOf kv).toNat)
          case atStart => exact ⟨0, Nat.zero_le _, rfl, by show _ = Value.int .i64 (s0 + 0); rw [Int.add_zero], Below.refl _ _⟩
          case round =>
            obtain ⟨j, hj, rfl, rfl, hb2⟩ := hrel
            have HB2 : Hid (_) := hb2
            by_cases hjm : j < m
            · have hjm' : (j : Int) < (m : Int) := by omega
              obtain ⟨b2, off2, p, q, rfl, hx2, d1, d2⟩ := (HRL.out.below hb2).at (k := j) (by rw [HM.out]; exact hjm)
              clear hb2
              have hlb := HLB.out j
              rw [List.length_take, HM.out, Nat.min_eq_left hj] at hlb
              have hli := HLI.out (p, q) (List.mem_of_getElem? hx2)
              have HT : Hid (_) := Lg.lsum_take ls j (p, q) hx2 acc
              obtain ⟨t0, ht0⟩ : ∃ t0, Lg.lsum (ls.take j) acc = t0 := ⟨_, rfl⟩
              have HT0 : Hid (Lg.lsum (ls.take j) acc = t0) := ht0
              rw [ht0] at hlb ⊢
              have t1 := hlb.1
              have t2 := hlb.2
              have q1 := hli.1
              have q2 := hli.2
              simp only at q1 q2
              clear hlb hli hx2 ht0
              by_cases hpa : p = acc
              · have hpb : (p == acc) = true := by simpa using hpa
                have HV : Hid (Lg.lsum (ls.take (j + 1)) acc = t0 + q) := by show _ = _; rw [HT.out, HT0.out, if_pos hpa]
                clear hpa
                go_wp2
                go_roundw
                case rel => exact ⟨j + 1, by omega, by go_num, by rw [HV.out, Int.add_assoc], below_on HB2.out (Nat.le_refl _) (below_box _ _)⟩
                case measure => simp [intOf]; omega
              · have hpb : (p == acc) = false := by simpa using hpa
                have HV : Hid (Lg.lsum (ls.take (j + 1)) acc = t0) := by show _ = _; rw [HT.out, HT0.out, if_neg hpa, Int.add_zero]
                clear hpa
                go_wp2
                go_roundw
                case rel => exact ⟨j + 1, by omega, by go_num, by rw [HV.out], below_on HB2.out (Nat.le_refl _) (below_box _ _)⟩
                case measure => simp [intOf]; omega
            · obtain rfl : j = m := by omega
              clear hb2
              have HTK : Hid (ls.take j = ls) := by show _ = _; rw [List.take_of_length_le (by rw [HM.out]; exact Nat.le_refl _)]
              rw [HTK.out]
              have HV : Hid (s0 + Lg.lsum ls acc = Lg.bal (l.take (k + 1)) acc) := by show _ = _; rw [HBD.out, HS0.out]
              rw [HV.out]
              obtain ⟨v, hv⟩ : ∃ v, Lg.bal (l.take (k + 1)) acc = v := ⟨_, rfl⟩
              have HVV : Hid (Lg.bal (l.take (k + 1)) acc = v) := hv
              rw [hv]
              clear hv
              go_wp2
              go_roundw
              case rel => exact ⟨k + 1, by omega, by go_num, by rw [HVV.out], below_on (below_on HB.out (Nat.le_refl _) HBP.out) (Nat.le_refl _) HB2.out⟩
              case measure => simp [intOf]; omega
        · obtain rfl : k = n := by omega
          have HTK : Hid (l.take k = l) := by show _ = _; rw [List.take_of_length_le (by rw [HN.out]; exact Nat.le_refl _)]
          rw [HTK.out]
          obtain ⟨v, hv⟩ : ∃ v, Lg.bal l acc = v := ⟨_, rfl⟩
          have HVV : Hid (Lg.bal l acc = v) := hv
          rw [hv]
          clear hv
          go_wp2
          go_ret2
          rw [HVV.out]
          exact ⟨rfl, HB.out⟩
  · have HE1 : Hid (Lg.balC l acc = c) := by show _ = _; unfold Lg.balC; rw [HC.out, if_neg c0]
    have HE2 : Hid (Lg.balV l acc = 0) := by show _ = _; unfold Lg.balV; rw [HE1.out, if_neg c0]
    rw [HE1.out, HE2.out]
    have c1 : (c != 0) = true := by simpa using c0
    clear c0
    go_enter Try.func9, Try.ntmps9
    go_wp2_with fail
    refine hlc.mono ?_
    rintro e w1 ⟨rfl, hb⟩
    have B1 : Hid (Below w.heap.size w w1) := hb
    clear hb hlc
    go_wp2
    go_ret2
    exact ⟨rfl, B1.out⟩
end Go.Proofs.Ytdebhcdmbijanaa
