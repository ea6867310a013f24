/- The program's balance of an account. The program's turning of a posting. The contracts of package ledger, all together: Check (LgQ4), Post (LgQ7), Balance (LgQ8), Reverse (LgQ9). -/
import Derived.Test.YtandlmnbnjkklaaGreatDoorLgQ7
namespace Go.Proofs.YtandlmnbnjkklaaGreatDoor
open Go.RowKit Go.BigFrame

namespace Lg
def balC (l : List Ps) (a : Int) : Int := if chk l = 0 then (if a < 1 ∨ 5 < a then 7 else 0) else chk l
def balV (l : List Ps) (a : Int) : Int := if balC l a = 0 then bal l a else 0
theorem bal_take (l : List Ps) (k : Nat) (p : Ps) (h : l[k]? = some p) (a : Int) : bal (l.take (k + 1)) a = bal (l.take k) a + lsum p.2 a := by
  rw [take_snoc l k p h, bal_append, bal_one]
end Lg
set_option maxRecDepth 100000 in
set_option maxHeartbeats 4000000 in
theorem lBalance_any (l : List Lg.Ps) (a : Option Addr) (cap : Nat) (acc : Int) (w : World) (hl : l.length ≤ maxLen ∧ l.length ≤ cap) (hf : Fit l) (hr : RowG w a l) :
    Calls Tryz.prog 46 #[.slice a l.length cap, .int .i64 acc] w fun e w' => e = .returned (.tuple #[.int .i64 (Lg.balV l acc), .int .i64 (Lg.balC l acc)]) ∧ Below w.heap.size w w' := by
  have R : Hid (RowG w a l) := hr
  obtain ⟨n, hn⟩ : ∃ n, l.length = n := ⟨_, rfl⟩
  have HN : Hid (l.length = n) := hn
  obtain ⟨c, hc⟩ : ∃ c, Lg.chk l = c := ⟨_, rfl⟩
  have HC : Hid (Lg.chk l = c) := hc
  have hlc := lCheck_any l a cap w hl hf hr
  rw [hn, hc] at hlc
  rw [hn]
  clear hl hf hr hn hc
  by_cases c0 : c = 0
  · subst c0
    have HLO : Hid (Lg.LOk l) := (Lg.chk_ok l).1 HC.out
    have h100 : n ≤ 100 := by rw [← HN.out]; exact HLO.out.len
    by_cases ha : acc < 1 ∨ 5 < acc
    · have HA : Hid (decide (1 ≤ acc ∧ acc ≤ 5) = false) := by show _ = _; rw [decide_eq_false_iff_not]; omega
      have HE1 : Hid (Lg.balC l acc = 7) := by show _ = _; unfold Lg.balC; rw [if_pos HC.out, if_pos ha]
      have HE2 : Hid (Lg.balV l acc = 0) := by show _ = _; unfold Lg.balV; rw [HE1.out]; rfl
      rw [HE1.out, HE2.out]
      clear ha
      go_enter Tryz.func46, Tryz.ntmps46
      go_wp2_with fail
      refine hlc.mono ?_
      rintro e w1 ⟨rfl, hb⟩
      have B1 : Hid (Below w.heap.size w w1) := hb
      clear hb hlc
      go_wp2_with (go_at_call 66; refine (lacc_any _ _ _ HA.out).mono ?_; rintro e w2 ⟨rfl, rfl⟩)
      go_ret2
      exact ⟨rfl, B1.out⟩
    · have HA : Hid (decide (1 ≤ acc ∧ acc ≤ 5) = true) := by show _ = _; rw [decide_eq_true_iff]; omega
      have HE1 : Hid (Lg.balC l acc = 0) := by show _ = _; unfold Lg.balC; rw [if_pos HC.out, if_neg ha]
      have HE2 : Hid (Lg.balV l acc = Lg.bal l acc) := by show _ = _; unfold Lg.balV; rw [HE1.out]; rfl
      rw [HE1.out, HE2.out]
      clear ha
      go_enter Tryz.func46, Tryz.ntmps46
      go_wp2_with fail
      refine hlc.mono ?_
      rintro e w1 ⟨rfl, hb⟩
      have B1 : Hid (Below w.heap.size w w1) := hb
      clear hb hlc
      go_wp2_with (go_at_call 66; refine (lacc_any _ _ _ HA.out).mono ?_; rintro e w2 ⟨rfl, rfl⟩)
      go_loopw [7, 22] (fun sv iv wr => ∃ k : Nat, k ≤ n ∧ iv = .int .i64 k ∧ sv = .int .i64 (Lg.bal (l.take k) acc) ∧ Below w.heap.size w wr) (fun _ iv _ => n - (intOf iv).toNat)
      case atStart => exact ⟨0, Nat.zero_le _, rfl, rfl, B1.out⟩
      case round =>
        obtain ⟨k, hk, rfl, rfl, hb⟩ := hrel
        have HB : Hid (Below w.heap.size w wr) := hb
        clear hb
        by_cases hlt : k < n
        · have hlt' : (k : Int) < (n : Int) := by omega
          obtain ⟨b, off, id, ls, la, lc, rfl, -, hx, c1, c2, -, hrl⟩ := (R.out.below HB.out).at (k := k) (by rw [HN.out]; exact hlt)
          have HX : Hid (l[k]? = some (id, ls)) := hx
          have pok := HLO.out.each (id, ls) (List.mem_of_getElem? hx)
          have h6 := pok.six
          simp only at h6
          have HLB : Hid (∀ k, -((ls.take k).length * 1099511627776) ≤ Lg.lsum (ls.take k) acc ∧ Lg.lsum (ls.take k) acc ≤ (ls.take k).length * 1099511627776) := fun k => Lg.lsum_bd _ acc (fun x hx => by have := pok.line x (List.mem_of_mem_take hx); exact ⟨this.2.2.1, this.2.2.2.1⟩)
          have HLI : Hid (∀ x ∈ ls, -1099511627776 ≤ x.2 ∧ x.2 ≤ 1099511627776) := fun x hx => by have := pok.line x hx; exact ⟨this.2.2.1, this.2.2.2.1⟩
          have hbb := Lg.bal_bd (l.take k) acc (fun p hp => HLO.out.each p (List.mem_of_mem_take hp))
          have HBD : Hid (Lg.bal (l.take (k + 1)) acc = Lg.bal (l.take k) acc + Lg.lsum ls acc) := Lg.bal_take l k _ hx acc
          have hdl : (l.take k).length ≤ 100 := by rw [List.length_take, HN.out]; omega
          obtain ⟨s0, hs0⟩ : ∃ s0, Lg.bal (l.take k) acc = s0 := ⟨_, rfl⟩
          have HS0 : Hid (Lg.bal (l.take k) acc = s0) := hs0
          rw [hs0] at hbb ⊢
          have s1 : -659706976665600 ≤ s0 := by omega
          have s2 : s0 ≤ 659706976665600 := by omega
          obtain ⟨m, hm⟩ : ∃ m, ls.length = m := ⟨_, rfl⟩
          have HM : Hid (ls.length = m) := hm
          rw [hm] at h6 c2
          have HBP : Hid (Below wr.heap.size wr (wr.alloc (.cells #[.int .i64 id, .slice la m lc] 34))) := below_box wr _
          have HRL : Hid (RowL (wr.alloc (.cells #[.int .i64 id, .slice la m lc] 34)) la ls) := hrl.below HBP.out
          clear hx hrl pok hbb hdl hs0 hm
          go_wp2
          have HW2 : Hid (∃ W2, wr.alloc (.cells #[.int .i64 id, .slice la m lc] 34) = W2) := ⟨_, rfl⟩
          generalize wr.alloc (.cells #[.int .i64 id, .slice la m lc] 34) = W2 at *
          clear HW2
          go_loopw [7, 29] (fun sv kv wi => ∃ k : Nat, k ≤ m ∧ kv = .int .i64 k ∧ sv = .int .i64 (s0 + Lg.lsum (ls.take k) acc) ∧ Below W2.heap.size W2 wi) (fun _ kv _ => m - (intOf kv).toNat)
          case atStart => exact ⟨0, Nat.zero_le _, rfl, by show _ = Value.int .i64 (s0 + 0); rw [Int.add_zero], Below.refl _ _⟩
          case round =>
            obtain ⟨j, hj, rfl, rfl, hb2⟩ := hrel
            have HB2 : Hid (_) := hb2
            by_cases hjm : j < m
            · have hjm' : (j : Int) < (m : Int) := by omega
              obtain ⟨b2, off2, p, q, rfl, hx2, d1, d2⟩ := (HRL.out.below hb2).at (k := j) (by rw [HM.out]; exact hjm)
              clear hb2
              have hlb := HLB.out j
              rw [List.length_take, HM.out, Nat.min_eq_left hj] at hlb
              have hli := HLI.out (p, q) (List.mem_of_getElem? hx2)
              have HT : Hid (_) := Lg.lsum_take ls j (p, q) hx2 acc
              obtain ⟨t0, ht0⟩ : ∃ t0, Lg.lsum (ls.take j) acc = t0 := ⟨_, rfl⟩
              have HT0 : Hid (Lg.lsum (ls.take j) acc = t0) := ht0
              rw [ht0] at hlb ⊢
              have t1 := hlb.1
              have t2 := hlb.2
              have q1 := hli.1
              have q2 := hli.2
              simp only at q1 q2
              clear hlb hli hx2 ht0
              by_cases hpa : p = acc
              · have hpb : (p == acc) = true := by simpa using hpa
                have HV : Hid (Lg.lsum (ls.take (j + 1)) acc = t0 + q) := by show _ = _; rw [HT.out, HT0.out, if_pos hpa]
                clear hpa
                go_wp2
                go_roundw
                case rel => exact ⟨j + 1, by omega, by go_num, by rw [HV.out, Int.add_assoc], below_on HB2.out (Nat.le_refl _) (below_box _ _)⟩
                case measure => simp [intOf]; omega
              · have hpb : (p == acc) = false := by simpa using hpa
                have HV : Hid (Lg.lsum (ls.take (j + 1)) acc = t0) := by show _ = _; rw [HT.out, HT0.out, if_neg hpa, Int.add_zero]
                clear hpa
                go_wp2
                go_roundw
                case rel => exact ⟨j + 1, by omega, by go_num, by rw [HV.out], below_on HB2.out (Nat.le_refl _) (below_box _ _)⟩
                case measure => simp [intOf]; omega
            · obtain rfl : j = m := by omega
              clear hb2
              have HTK : Hid (ls.take j = ls) := by show _ = _; rw [List.take_of_length_le (by rw [HM.out]; exact Nat.le_refl _)]
              rw [HTK.out]
              have HV : Hid (s0 + Lg.lsum ls acc = Lg.bal (l.take (k + 1)) acc) := by show _ = _; rw [HBD.out, HS0.out]
              rw [HV.out]
              obtain ⟨v, hv⟩ : ∃ v, Lg.bal (l.take (k + 1)) acc = v := ⟨_, rfl⟩
              have HVV : Hid (Lg.bal (l.take (k + 1)) acc = v) := hv
              rw [hv]
              clear hv
              go_wp2
              go_roundw
              case rel => exact ⟨k + 1, by omega, by go_num, by rw [HVV.out], below_on (below_on HB.out (Nat.le_refl _) HBP.out) (Nat.le_refl _) HB2.out⟩
              case measure => simp [intOf]; omega
        · obtain rfl : k = n := by omega
          have HTK : Hid (l.take k = l) := by show _ = _; rw [List.take_of_length_le (by rw [HN.out]; exact Nat.le_refl _)]
          rw [HTK.out]
          obtain ⟨v, hv⟩ : ∃ v, Lg.bal l acc = v := ⟨_, rfl⟩
          have HVV : Hid (Lg.bal l acc = v) := hv
          rw [hv]
          clear hv
          go_wp2
          go_ret2
          rw [HVV.out]
          exact ⟨rfl, HB.out⟩
  · have HE1 : Hid (Lg.balC l acc = c) := by show _ = _; unfold Lg.balC; rw [HC.out, if_neg c0]
    have HE2 : Hid (Lg.balV l acc = 0) := by show _ = _; unfold Lg.balV; rw [HE1.out, if_neg c0]
    rw [HE1.out, HE2.out]
    have c1 : (c != 0) = true := by simpa using c0
    clear c0
    go_enter Tryz.func46, Tryz.ntmps46
    go_wp2_with fail
    refine hlc.mono ?_
    rintro e w1 ⟨rfl, hb⟩
    have B1 : Hid (Below w.heap.size w w1) := hb
    clear hb hlc
    go_wp2
    go_ret2
    exact ⟨rfl, B1.out⟩
end Go.Proofs.YtandlmnbnjkklaaGreatDoor
namespace Go.Proofs.YtandlmnbnjkklaaGreatDoor
open Go.RowKit Go.BigFrame

/-- what the turning keeps: the new posting's box, its lines of the call's own -/
structure RInv (w2 : World) (as' : Int) (wr : World) (v : Value) (xs : List Lg.Ln) : Prop where
  out : Blk2 wr w2.heap.size (.int .i64 as') v
  own : OwnL wr (w2.heap.size + 1) v xs
  below : Below w2.heap.size w2 wr
theorem RInv.start (w2 : World) (as' : Int) (t : TypeId) : RInv w2 as' (w2.alloc (.cells #[.int .i64 as', .slice none 0 0] t)) (.slice none 0 0) [] :=
  ⟨Blk2.new w2 _ _ _, OwnL.nil _ _, below_box w2 _⟩
theorem RInv.keep {w2 : World} {as' : Int} {W X w1 : World} {v : Value} {xs : List Lg.Ln} (h : RInv w2 as' W v xs) (hX : Below W.heap.size W X) (hgrow : X.grownBy w1 v.ownBlock) : Blk2 w1 w2.heap.size (.int .i64 as') v :=
  (h.out.below hX).grown hgrow (fun e => by have := (World.ownsRow.lt h.own _ e).1; omega)
theorem RInv.step {w2 : World} {as' : Int} {W X w1 : World} {v v1 : Value} {xs : List Lg.Ln} {x y : Int} (h : RInv w2 as' W v xs) (hX : Below W.heap.size W X)
    (hown : w1.ownsRow (w2.heap.size + 1) 54 2 v1 (xs.length + 1) (flatL xs ++ [.int .i64 x, .int .i64 y])) (hgrow : X.grownBy w1 v.ownBlock) :
    RInv w2 as' (w1.setCell ⟨w2.heap.size, 1, none⟩ v1) v1 (xs ++ [(x, y)]) := by
  have hlt := fun j hj => (World.ownsRow.lt h.own j hj).1
  have hbX := below_on h.below (Nat.le_refl _) hX
  have o1 : OwnL w1 (w2.heap.size + 1) v1 (xs ++ [(x, y)]) := by unfold OwnL; rw [flatL_append, List.length_append]; exact hown
  refine ⟨(h.keep hX hgrow).set1 _, ?_, ?_⟩
  · have hv := World.ownsRow.lt o1
    obtain ⟨k1, k2⟩ := o1
    refine ⟨k1, ?_⟩
    rcases k2 with k2 | ⟨g, cap, cur, rfl, b, c, d⟩
    · exact .inl k2
    · exact .inr ⟨g, cap, cur, rfl, b, by rw [Deep.blk_setCell_other _ _ _ _ (show g ≠ w2.heap.size by omega)]; exact c, d⟩
  · exact (hbX.grown hgrow hbX.size (fun k hk => by have := hlt k hk; omega)).setCell (Nat.le_refl _) _
set_option maxRecDepth 100000 in
set_option maxHeartbeats 4000000 in
theorem lReverse_any (l : List Lg.Ps) (a : Option Addr) (cap : Nat) (id as' : Int) (w : World) (hl : l.length ≤ maxLen ∧ l.length ≤ cap) (hna : a = none → l = [] ∧ cap = 0) (hf : Fit l) (hr : RowG w a l) :
    Calls Tryz.prog 45 #[.slice a l.length cap, .int .i64 id, .int .i64 as'] w (ldgPost w (Lg.rev l id as')) := by
  have HL : Hid (l.length ≤ maxLen ∧ l.length ≤ cap) := hl
  have HF : Hid (Fit l) := hf
  have HNA0 : Hid (a = none → l = [] ∧ cap = 0) := hna
  have R0 : Hid (RowG w a l) := hr
  obtain ⟨n, hn⟩ : ∃ n, l.length = n := ⟨_, rfl⟩
  have HN : Hid (l.length = n) := hn
  obtain ⟨c, hc⟩ : ∃ c, Lg.chk l = c := ⟨_, rfl⟩
  have HC : Hid (Lg.chk l = c) := hc
  have hlc := lCheck_any l a cap w hl hf hr
  rw [hn] at hlc ⊢
  rw [hc] at hlc
  clear hl hna hf hr hn hc
  by_cases c0 : c = 0
  · subst c0
    have HLO : Hid (Lg.LOk l) := (Lg.chk_ok l).1 HC.out
    have h100 : n ≤ 100 := by rw [← HN.out]; exact HLO.out.len
    rcases Lg.plc_is l id with ⟨p1, p2, -⟩ | ⟨j, ls, p1, p2, p3, -⟩
    · have HP : Hid (Lg.plc l id = -1) := p1
      have HE : Hid (Lg.rev l id as' = ([], 5)) := by
        show _ = _
        unfold Lg.rev
        rw [if_pos HC.out, p2]
      clear p1 p2
      go_enter Tryz.func45, Tryz.ntmps45
      go_wp2_with fail
      refine hlc.mono ?_
      rintro e w1 ⟨rfl, hb⟩
      have B1 : Hid (Below w.heap.size w w1) := hb
      clear hb hlc
      go_wp2_with fail
      refine (lfind_at l n _ a cap id _ HN.out (by unfold maxLen; omega) HP.out (R0.out.below B1.out)).mono ?_
      rintro e w2 ⟨rfl, hb⟩
      have B2 : Hid (Below w.heap.size w w2) := below_on B1.out (Nat.le_refl _) hb
      clear hb
      go_wp2
      go_ret2
      exact ldgPost.bad HE.out B2.out
    · have HP : Hid (Lg.plc l id = (j : Int)) := p1
      have HX : Hid (l[j]? = some (id, ls)) := p2
      have HE : Hid (Lg.rev l id as' = Lg.post l (as', Lg.neg ls)) := by
        show _ = _
        unfold Lg.rev
        rw [if_pos HC.out, p3]
      have hjn : j < n := by
        rcases Nat.lt_or_ge j l.length with c | c
        · rw [← HN.out]; exact c
        · rw [List.getElem?_eq_none c] at p2; cases p2
      have pok := HLO.out.each (id, ls) (List.mem_of_getElem? p2)
      have HSX : Hid (ls.length ≤ 6) := pok.six
      have HQ : Hid (∀ x ∈ ls, -1099511627776 ≤ x.2 ∧ x.2 ≤ 1099511627776) := fun x hx => by have := pok.line x hx; exact ⟨this.2.2.1, this.2.2.2.1⟩
      clear p1 p2 p3 pok
      have hjl : (j : Int) < (n : Int) := by omega
      obtain ⟨i0, hi0, hi1, hi2, hi3⟩ := infoL
      have HI : Hid (Tryz.prog.info? 54 = some i0 ∧ i0.zero = some (.agg #[.int .i64 0, .int .i64 0]) ∧ i0.size = 2 ∧ i0.bytes = 16) := ⟨hi0, hi1, hi2, hi3⟩
      clear hi0 hi1 hi2 hi3
      go_enter Tryz.func45, Tryz.ntmps45
      go_wp2_with fail
      refine hlc.mono ?_
      rintro e w1 ⟨rfl, hb⟩
      have B1 : Hid (Below w.heap.size w w1) := hb
      clear hb hlc
      go_wp2_with fail
      refine (lfind_at l n _ a cap id _ HN.out (by unfold maxLen; omega) HP.out (R0.out.below B1.out)).mono ?_
      rintro e w2 ⟨rfl, hb⟩
      have B2 : Hid (Below w.heap.size w w2) := below_on B1.out (Nat.le_refl _) hb
      have R2 : Hid (RowG w2 a l) := R0.out.below B2.out
      clear hb
      obtain ⟨b, off, id2, ls2, la, lc, hab, hbs, hx2, c1, c2, -, hrl⟩ := R2.out.at (k := j) (by rw [HN.out]; exact hjn)
      obtain ⟨rfl, rfl⟩ : id = id2 ∧ ls = ls2 := by have := HX.out.symm.trans hx2; simpa using this
      subst hab
      have HRL : Hid (RowL w2 la ls) := hrl
      obtain ⟨m, hm⟩ : ∃ m, ls.length = m := ⟨_, rfl⟩
      have HM : Hid (ls.length = m) := hm
      have h6 : m ≤ 6 := by rw [← HM.out]; exact HSX.out
      have HST : Hid (RInv w2 as' (w2.alloc (.cells #[.int .i64 as', .slice none 0 0] 34)) (.slice none 0 0) []) := RInv.start w2 as' _
      rw [hm] at c2
      clear hrl hx2 hm
      go_wp2
      clear c1 c2
      generalize w2.alloc (.cells #[.int .i64 as', .slice none 0 0] 34) = W0 at *
      go_loopw [31] (fun iv wr => ∃ (k : Nat) (v : Value), k ≤ m ∧ iv = .int .i64 k ∧ RInv w2 as' wr v (Lg.neg (ls.take k))) (fun iv _ => m - (intOf iv).toNat)
      case atStart => exact ⟨0, _, Nat.zero_le _, rfl, HST.out⟩
      case round =>
        obtain ⟨k, v, hk, rfl, hinv⟩ := hrel
        have HJ : Hid (RInv w2 as' wr v (Lg.neg (ls.take k))) := hinv
        have hsz : w2.heap.size < wr.heap.size := hinv.out.1
        have o1 := hinv.out.2.2.1
        have o0 := hinv.out.2.1
        by_cases hlt : k < m
        · have hlt' : (k : Int) < (m : Int) := by omega
          obtain ⟨b', off', p, q, rfl, hx, d1, d2⟩ := (HRL.out.below hinv.below).at (k := k) (by rw [HM.out]; exact hlt)
          clear hinv
          have hqq := HQ.out (p, q) (List.mem_of_getElem? hx)
          have q1 := hqq.1
          have q2 := hqq.2
          simp only at q1 q2
          have HNG : Hid (_) := Lg.neg_take ls k (p, q) hx
          have HNL : Hid ((Lg.neg (ls.take k)).length = k) := by show _ = _; rw [Lg.neg_len, List.length_take, HM.out]; omega
          have hw : IntKind.i64.wrap (-q) = -q := by rw [IntKind.wrap_i64]; omega
          clear hqq hx
          go_wp2_with (at_builtin; refine wpList_append_own _ rfl (.tmp 36) (.tmp 43) 32 rfl (w2.heap.size + 1) 54 i0 _ 2 16 Tryz.underlying32 HI.out.1 HI.out.2.1 HI.out.2.2.1 HI.out.2.2.2 rfl (by omega) v (Lg.neg (ls.take k)).length (flatL (Lg.neg (ls.take k))) rfl (World.ownsRow.alloc (World.ownsRow.alloc HJ.out.own _) _) ⟨(wr.alloc (.cells #[.int .i64 p, .int .i64 q] 54)).heap.size, 0, none⟩ 1 1 [.int .i64 p, .int .i64 (-q)] ?q0 rfl (cellL_new _ _ _ _) (oneL _ _) ?q2 ?q3 ?q4 ?_)
          case q2 => unfold maxLen; have := HNL.out; omega
          case q3 => have := HNL.out; omega
          case q4 => first | omega | (simp; omega)
          intro v1 w3 hown hgrow _
          have hX : Below wr.heap.size wr ((wr.alloc (.cells #[.int .i64 p, .int .i64 q] 54)).alloc (.cells #[.int .i64 p, .int .i64 (-q)] 54)) := (below_box wr _).alloc (by simp) _
          have kp := HJ.out.keep hX hgrow
          have t1 := kp.2.2.1
          have t2 := kp.2.2.2.2
          have HS1 : Hid (RInv w2 as' (w3.setCell ⟨w2.heap.size, 1, none⟩ v1) v1 (Lg.neg (ls.take (k + 1)))) := by
            have := HJ.out.step hX hown hgrow
            rw [← Int.zero_sub, ← HNG.out] at this
            exact this
          clear hown hgrow hX kp
          obtain ⟨va, vn, vc, hvv⟩ : ∃ va vn vc, v1 = .slice va vn vc := by
            rcases HS1.out.own.form with ⟨hv, _⟩ | ⟨g, cp, hv, _, _⟩
            · exact ⟨_, _, _, hv⟩
            · exact ⟨_, _, _, hv⟩
          subst hvv
          go_wp2
          go_roundw
          case rel => exact ⟨k + 1, _, by omega, by go_num, HS1.out⟩
          case measure => simp [intOf]; omega
        · obtain rfl : k = m := by omega
          have HTK : Hid (ls.take k = ls) := by show _ = _; rw [List.take_of_length_le (by rw [HM.out]; exact Nat.le_refl _)]
          rw [HTK.out] at hinv
          obtain ⟨ta, tc, rfl, -, htr⟩ := hinv.own.row
          have HFT : Hid ((Lg.neg ls).length ≤ tc) := hinv.own.fits rfl
          have HTR : Hid (RowL wr ta (Lg.neg ls)) := htr
          have B3 : Hid (Below w.heap.size w wr) := below_on B2.out (Nat.le_refl _) hinv.below
          have R3 : Hid (RowG wr (some ⟨b, off, none⟩) l) := R2.out.below hinv.below
          have HTL : Hid ((Lg.neg ls).length ≤ maxLen) := by show _ ≤ _; rw [Lg.neg_len, HM.out]; unfold maxLen; omega
          clear hinv htr HJ
          have hpo := lPost_any l (some ⟨b, off, none⟩) cap as' (Lg.neg ls) ta tc wr HL.out HNA0.out HF.out R3.out ⟨HTL.out, HFT.out⟩ HTR.out
          rw [HN.out, ← HE.out] at hpo
          go_wp2_with fail
          refine hpo.mono ?_
          rintro e w3 h3
          have h4 := h3
          obtain ⟨ra, rc, rfl, -, -, -, -, -⟩ := h4
          have H3 : Hid (ldgPost w _ _ w3) := ldgPost.mono h3 B3.out
          clear h3 hpo
          go_wp2
          go_ret2
          exact H3.out
  · have HE : Hid (Lg.rev l id as' = ([], c)) := by
      show _ = _
      unfold Lg.rev
      rw [HC.out, if_neg c0]
    have c1 : (c != 0) = true := by simpa using c0
    clear c0
    go_enter Tryz.func45, Tryz.ntmps45
    go_wp2_with fail
    refine hlc.mono ?_
    rintro e w1 ⟨rfl, hb⟩
    have B1 : Hid (Below w.heap.size w w1) := hb
    clear hb hlc
    go_wp2
    go_ret2
    exact ldgPost.bad HE.out B1.out
end Go.Proofs.YtandlmnbnjkklaaGreatDoor

