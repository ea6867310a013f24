/- The document's words on ledgers: the look over one, are two the same, a balance. -/
import Derived.Test.YtdebhcdmbijanaaLgW1
namespace Go.Proofs.Ytdebhcdmbijanaa
open Go.RowKit Go.BigFrame

theorem postingCheck_at (id : Int) (ls : List Lg.Ln) (a : Option Addr) (n cap : Nat) (c : Int) (w : World) (hn : ls.length = n) (hl : ls.length ≤ maxLen) (hc : Lg.pchk (id, ls) = c) (hr : RowL w a ls) :
    Calls Try.prog 24 #[.agg #[.int .i64 id, .slice a n cap]] w fun e w' => e = .returned (.int .i64 c) ∧ Below w.heap.size w w' := by
  subst hn hc; exact postingCheck_any id ls a cap w hl hr
/-- no lines are longer than can be -/
def Fit (l : List Lg.Ps) : Prop := ∀ p ∈ l, p.2.length ≤ maxLen
theorem Fit.at {l : List Lg.Ps} (h : Fit l) {k : Nat} {p : Lg.Ps} (hk : l[k]? = some p) : p.2.length ≤ maxLen := h p (List.mem_of_getElem? hk)
set_option maxRecDepth 100000 in
set_option maxHeartbeats 4000000 in
theorem ledgerCheck_any (l : List Lg.Ps) (a : Option Addr) (cap : Nat) (w : World) (hl : l.length ≤ maxLen) (hf : Fit l) (hr : RowG w a l) :
    Calls Try.prog 11 #[.slice a l.length cap] w fun e w' => e = .returned (.int .i64 (Lg.chk l)) ∧ Below w.heap.size w w' := by
  unfold maxLen at hl
  have R : Hid (RowG w a l) := hr
  have HF : Hid (Fit l) := hf
  obtain ⟨n, hn⟩ : ∃ n, l.length = n := ⟨_, rfl⟩
  have HN : Hid (l.length = n) := hn
  rw [hn] at hl ⊢
  clear hr hf
  by_cases h1 : 100 < n
  · have HE : Hid (Lg.chk l = 2) := by show _ = _; unfold Lg.chk; rw [if_pos (by rw [hn]; exact h1)]
    rw [HE.out]
    have h1' : (100 : Int) < (n : Int) := by omega
    clear hn
    go_enter Try.func11, Try.ntmps11
    go_wp2
    go_ret
    exact ⟨rfl, Below.refl _ _⟩
  · have HE : Hid (Lg.chk l = Lg.gat l 0) := by show _ = _; unfold Lg.chk; rw [if_neg (by rw [hn]; exact h1)]; rfl
    rw [HE.out]
    have h1' : ¬ (100 : Int) < (n : Int) := by omega
    have h2' : n ≤ 100 := by omega
    clear hn h1 hl HE
    go_enter Try.func11, Try.ntmps11
    go_wp2
    go_loopw [3] (fun iv wr => ∃ k : Nat, k ≤ n ∧ iv = .int .i64 k ∧ Lg.gat l 0 = Lg.gat l k ∧ Below w.heap.size w wr) (fun iv _ => n - (intOf iv).toNat)
    case atStart => exact ⟨0, Nat.zero_le _, rfl, rfl, Below.refl _ _⟩
    case round =>
      obtain ⟨k, hk, rfl, hlat, hb⟩ := hrel
      have HLA : Hid (Lg.gat l 0 = Lg.gat l k) := hlat
      have HB : Hid (Below w.heap.size w wr) := hb
      clear hlat hb
      by_cases hlt : k < n
      · have hlt' : (k : Int) < (n : Int) := by omega
        obtain ⟨b, off, id, ls, la, lc, rfl, hbs, hx, c1, c2, hlc, hrl⟩ := (R.out.below HB.out).at (k := k) (by rw [HN.out]; exact hlt)
        have HX : Hid (l[k]? = some (id, ls)) := hx
        have HS : Hid (_) := Lg.gat_step l k (id, ls) hx
        have HRL : Hid (RowL wr la ls) := hrl
        have HLF : Hid (ls.length ≤ maxLen) := HF.out.at hx
        obtain ⟨q, hq⟩ : ∃ q, Lg.pchk (id, ls) = q := ⟨_, rfl⟩
        have HQ : Hid (Lg.pchk (id, ls) = q) := hq
        clear hx hrl hq hlc
        by_cases q0 : q = 0
        · subst q0
          go_wp2_with fail
          refine (postingCheck_at id ls la _ lc 0 _ rfl HLF.out HQ.out HRL.out).mono ?_
          rintro e w1 ⟨rfl, hb⟩
          have HB1 : Hid (Below w.heap.size w w1) := below_on HB.out (Nat.le_refl _) hb
          clear hb c1 c2
          go_wp2
          go_loopw [5] (fun jv wr => ∃ j : Nat, j ≤ k ∧ jv = .int .i64 j ∧ Lg.hasI (l.take j) id = false ∧ Below w.heap.size w wr) (fun jv _ => k - (intOf jv).toNat)
          case atStart => exact ⟨0, Nat.zero_le _, rfl, rfl, HB1.out⟩
          case round =>
            obtain ⟨j, hj, rfl, hno, hb⟩ := hrel
            have HNO : Hid (Lg.hasI (l.take j) id = false) := hno
            have HBj : Hid (Below w.heap.size w wr) := hb
            clear hno hb
            by_cases hjk : j < k
            · have hjk' : (j : Int) < (k : Int) := by omega
              have hjn : (j : Int) < (n : Int) := by omega
              obtain ⟨b', off', id1, ls1, la1, lc1, e', -, hx1, d1, -, -, -⟩ := (R.out.below HBj.out).at (k := k) (by rw [HN.out]; exact hlt)
              obtain ⟨rfl, rfl⟩ : b = b' ∧ off = off' := by simpa using e'
              obtain ⟨rfl, -⟩ : id1 = id ∧ ls1 = ls := by have := hx1.symm.trans HX.out; simpa using this
              clear e' hx1
              obtain ⟨b', off', id2, ls2, la2, lc2, e', -, hx2, d2, -, -, -⟩ := (R.out.below HBj.out).at (k := j) (by rw [HN.out]; omega)
              obtain ⟨rfl, rfl⟩ : b = b' ∧ off = off' := by simpa using e'
              have HX2 : Hid (l[j]? = some (id2, ls2)) := hx2
              clear e' hx2
              by_cases hpp : id2 = id1
              · have HE : Hid (Lg.gat l 0 = 6) := by
                  have hh : Lg.hasI (l.take k) id1 = true := (Lg.hasI_mem _ _).2 ⟨(id2, ls2), List.mem_of_getElem? (i := j) (by rw [List.getElem?_take_of_lt hjk]; exact HX2.out), hpp⟩
                  show _ = _; rw [HLA.out, HS.out, HQ.out, if_pos rfl, if_pos hh]
                have hppb : (id2 == id1) = true := by simpa using hpp
                clear hpp
                go_wp2
                go_quiet (fail)
                go_wp2
                go_ret
                exact ⟨ret_int HE.out.symm, below_drewN HBj.out _⟩
              · have HN2 : Hid (Lg.hasI (l.take (j + 1)) id1 = false) := by
                  show _ = _; rw [Lg.hasI_take l j _ HX2.out, HNO.out, decide_eq_false hpp]; rfl
                have hppb : (id2 == id1) = false := by simpa using hpp
                clear hpp
                go_wp2
                go_quiet (fail)
                go_wp2
                go_roundw
                case rel => exact ⟨j + 1, by omega, by go_num, HN2.out, below_drewN HBj.out _⟩
                case measure => simp [intOf]; omega
            · obtain rfl : j = k := by omega
              have HE : Hid (Lg.gat l 0 = Lg.gat l (j + 1)) := by
                show _ = _; rw [HLA.out, HS.out, HQ.out, if_pos rfl, if_neg (by rw [HNO.out]; decide)]
              go_wp2
              go_roundw
              case rel => exact ⟨j + 1, by omega, by go_num, HE.out, HBj.out⟩
              case measure => simp [intOf]; omega
        · have HE : Hid (Lg.gat l 0 = q) := by show _ = _; rw [HLA.out, HS.out, HQ.out, if_neg q0]
          have q1 : (q != 0) = true := by simpa using q0
          clear q0
          go_wp2_with fail
          refine (postingCheck_at id ls la _ lc q _ rfl HLF.out HQ.out HRL.out).mono ?_
          rintro e w1 ⟨rfl, hb⟩
          have HB1 : Hid (Below w.heap.size w w1) := below_on HB.out (Nat.le_refl _) hb
          clear hb
          go_wp2
          go_ret
          exact ⟨ret_int HE.out.symm, HB1.out⟩
      · obtain rfl : k = n := by omega
        have HE : Hid (Lg.gat l 0 = 0) := by
          have := Lg.gat_end l
          rw [HN.out] at this
          show _ = _; rw [HLA.out, this]
        go_wp2
        go_ret
        exact ⟨ret_int HE.out.symm, HB.out⟩
namespace Lg
theorem bal_drop (l : List Ps) (k : Nat) (p : Ps) (h : l[k]? = some p) (a : Int) : bal (l.drop k) a = lsum p.2 a + bal (l.drop (k + 1)) a := by
  rw [drop_cons l k p h, bal_cons]
theorem lsum_take (l : List Ln) (k : Nat) (x : Ln) (h : l[k]? = some x) (a : Int) : lsum (l.take (k + 1)) a = lsum (l.take k) a + if x.1 = a then x.2 else 0 := by
  rw [take_snoc l k x h]; unfold lsum; rw [List.map_append, List.sum_append]; simp
end Lg
set_option maxRecDepth 100000 in
set_option maxHeartbeats 4000000 in
/-- A balance, of right postings, at most 100. -/
theorem balanceOf_any (l : List Lg.Ps) (a : Option Addr) (cap : Nat) (acc : Int) (w : World) (hl : l.length ≤ 100) (ok : ∀ p ∈ l, Lg.POk p) (hr : RowG w a l) :
    Calls Try.prog 14 #[.slice a l.length cap, .int .i64 acc] w fun e w' => e = .returned (.int .i64 (Lg.bal l acc)) ∧ w' = w := by
  have R : Hid (RowG w a l) := hr
  have HOK : Hid (∀ p ∈ l, Lg.POk p) := ok
  obtain ⟨n, hn⟩ : ∃ n, l.length = n := ⟨_, rfl⟩
  have HN : Hid (l.length = n) := hn
  rw [hn] at hl ⊢
  clear hr ok hn
  go_enter Try.func14, Try.ntmps14
  go_wp2
  go_loop [5, 6] (fun sv iv => ∃ i : Nat, i ≤ n ∧ iv = .int .i64 ((i : Int) - 1) ∧ sv = .int .i64 (Lg.bal (l.drop i) acc)) (fun _ iv => (intOf iv + 1).toNat)
  case atStart => exact ⟨n, Nat.le_refl _, rfl, by rw [← HN.out, List.drop_length]; rfl⟩
  case round =>
    obtain ⟨i1, hi1, rfl, rfl⟩ := hrel
    by_cases hi0 : i1 = 0
    · subst hi0
      have HB : Hid (Lg.bal (l.drop 0) acc = Lg.bal l acc) := by show _ = _; rw [List.drop_zero]
      rw [HB.out]
      obtain ⟨v, hv⟩ : ∃ v, Lg.bal l acc = v := ⟨_, rfl⟩
      have HVV : Hid (Lg.bal l acc = v) := hv
      rw [hv]
      clear hv
      go_wp2
      go_ret
      exact ⟨ret_int HVV.out.symm, rfl⟩
    · obtain ⟨i, rfl⟩ : ∃ i, i1 = i + 1 := ⟨i1 - 1, by omega⟩
      have ecast : (((i + 1 : Nat) : Int) - 1) = (i : Int) := by omega
      rw [ecast]
      have him : i < n := by omega
      have him' : (i : Int) < (n : Int) := by omega
      have him0 : (0 : Int) ≤ (i : Int) := by omega
      clear ecast hi0
      obtain ⟨b, off, id, ls, la, lc, rfl, -, hx, c1, c2, -, hrl⟩ := R.out.at (k := i) (by rw [HN.out]; exact him)
      have HX : Hid (l[i]? = some (id, ls)) := hx
      have HRL : Hid (RowL w la ls) := hrl
      have pok := HOK.out (id, ls) (List.mem_of_getElem? hx)
      have h6 := pok.six
      simp only at h6
      have HLB : Hid (∀ k, -((ls.take k).length * 1099511627776) ≤ Lg.lsum (ls.take k) acc ∧ Lg.lsum (ls.take k) acc ≤ (ls.take k).length * 1099511627776) := fun k => Lg.lsum_bd _ acc (fun x hx => by have := pok.line x (List.mem_of_mem_take hx); exact ⟨this.2.2.1, this.2.2.2.1⟩)
      have HLI : Hid (∀ x ∈ ls, -1099511627776 ≤ x.2 ∧ x.2 ≤ 1099511627776) := fun x hx => by have := pok.line x hx; exact ⟨this.2.2.1, this.2.2.2.1⟩
      have hbb := Lg.bal_bd (l.drop (i + 1)) acc (fun p hp => HOK.out p (List.mem_of_mem_drop hp))
      have HBD : Hid (Lg.bal (l.drop i) acc = Lg.lsum ls acc + Lg.bal (l.drop (i + 1)) acc) := Lg.bal_drop l i _ hx acc
      have hdl : (l.drop (i + 1)).length ≤ 100 := by rw [List.length_drop, HN.out]; omega
      obtain ⟨s0, hs0⟩ : ∃ s0, Lg.bal (l.drop (i + 1)) acc = s0 := ⟨_, rfl⟩
      have HS0 : Hid (Lg.bal (l.drop (i + 1)) acc = s0) := hs0
      rw [hs0] at hbb ⊢
      have s1 : -659706976665600 ≤ s0 := by omega
      have s2 : s0 ≤ 659706976665600 := by omega
      obtain ⟨m, hm⟩ : ∃ m, ls.length = m := ⟨_, rfl⟩
      have HM : Hid (ls.length = m) := hm
      rw [hm] at h6 c2
      clear hx hrl pok hbb hdl hs0 hm
      go_wp2
      go_loop [5, 7] (fun sv kv => ∃ k : Nat, k ≤ m ∧ kv = .int .i64 k ∧ sv = .int .i64 (s0 + Lg.lsum (ls.take k) acc)) (fun _ kv => m - (intOf kv).toNat)
      case atStart => exact ⟨0, Nat.zero_le _, rfl, by show _ = Value.int .i64 (s0 + 0); rw [Int.add_zero]⟩
      case round =>
        obtain ⟨k, hk, rfl, rfl⟩ := hrel
        by_cases hkm : k < m
        · have hkm' : (k : Int) < (m : Int) := by omega
          obtain ⟨b2, off2, p, q, rfl, hx2, d1, d2⟩ := HRL.out.at (k := k) (by rw [HM.out]; exact hkm)
          have hlb := HLB.out k
          rw [List.length_take, HM.out, Nat.min_eq_left hk] at hlb
          have hli := HLI.out (p, q) (List.mem_of_getElem? hx2)
          have HT : Hid (_) := Lg.lsum_take ls k (p, q) hx2 acc
          obtain ⟨t0, ht0⟩ : ∃ t0, Lg.lsum (ls.take k) acc = t0 := ⟨_, rfl⟩
          have HT0 : Hid (Lg.lsum (ls.take k) acc = t0) := ht0
          rw [ht0] at hlb ⊢
          have t1 := hlb.1
          have t2 := hlb.2
          have q1 := hli.1
          have q2 := hli.2
          simp only at q1 q2
          clear hlb hli hx2 ht0
          by_cases hpa : p = acc
          · have hpb : (p == acc) = true := by simpa using hpa
            have HV : Hid (Lg.lsum (ls.take (k + 1)) acc = t0 + q) := by show _ = _; rw [HT.out, HT0.out, if_pos hpa]
            clear hpa
            go_wp2
            go_round
            case rel => exact ⟨k + 1, by omega, by go_num, by rw [HV.out, Int.add_assoc]⟩
            case measure => simp [intOf]; omega
          · have hpb : (p == acc) = false := by simpa using hpa
            have HV : Hid (Lg.lsum (ls.take (k + 1)) acc = t0) := by show _ = _; rw [HT.out, HT0.out, if_neg hpa, Int.add_zero]
            clear hpa
            go_wp2
            go_round
            case rel => exact ⟨k + 1, by omega, by go_num, by rw [HV.out]⟩
            case measure => simp [intOf]; omega
        · obtain rfl : k = m := by omega
          have HTK : Hid (ls.take k = ls) := by show _ = _; rw [List.take_of_length_le (by rw [HM.out]; exact Nat.le_refl _)]
          rw [HTK.out]
          have HV : Hid (s0 + Lg.lsum ls acc = Lg.bal (l.drop i) acc) := by show _ = _; rw [HBD.out, HS0.out, Int.add_comm]
          rw [HV.out]
          obtain ⟨v, hv⟩ : ∃ v, Lg.bal (l.drop i) acc = v := ⟨_, rfl⟩
          have HVV : Hid (Lg.bal (l.drop i) acc = v) := hv
          rw [hv]
          clear hv
          go_wp2
          go_round
          case rel => exact ⟨i, by omega, rfl, by rw [HVV.out]⟩
          case measure => simp [intOf]
end Go.Proofs.Ytdebhcdmbijanaa
