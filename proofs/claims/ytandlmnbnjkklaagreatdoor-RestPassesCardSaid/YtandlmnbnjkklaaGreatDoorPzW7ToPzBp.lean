/- The program's pass cut. The contracts of package pass, all together. Plain mathematics of passes: what must be in any case. -/
import Derived.Test.YtandlmnbnjkklaaGreatDoorPzW4ToPzC
import Derived.Test.YtandlmnbnjkklaaGreatDoorPzRenToSpnJoin
import Derived.Test.YtandlmnbnjkklaaGreatDoorPzW2ToPzW5
import Derived.Test.YtandlmnbnjkklaaGreatDoorPzW6
import Derived.Test.YtandlmnbnjkklaaGreatDoorPz
namespace Go.Proofs.YtandlmnbnjkklaaGreatDoor
open Go.RowKit Go.BigFrame

theorem zqMeet (la lb rs : List Spn.Sp) (a b : Option Addr) (na ca nb cb : Nat) (w : World) (ea : la.length = na) (eb : lb.length = nb) (hla : na ≤ maxLen) (hlb : nb ≤ maxLen) (hna : a = none → ca = 0 ∧ la = []) (hnb : b = none → cb = 0 ∧ lb = [])
    (hx : Spn.code 1 la lb = 0) (hs : Spn.ans 1 la lb = rs) (ra : Row2 w a la) (rb : Row2 w b lb) :
    Calls Tryz.prog 22 #[.slice a na ca, .slice b nb cb] w fun e w' => ∃ va vn vc, e = .returned (.tuple #[.slice va vn vc, .int .i64 0]) ∧ rs.length = vn ∧ vn ≤ vc ∧ vn ≤ 64 ∧ (va = none → vc = 0 ∧ rs = []) ∧ OwnS w' w.heap.size (.slice va vn vc) rs ∧ Below w.heap.size w w' := by
  subst ea eb hs
  refine (pMeet la lb a b ca cb w hla hlb hna hnb ra rb).mono ?_
  rintro e w' ⟨v, rfl, own, hb⟩
  obtain ⟨va, vc, rfl, h1, h2, h3, h4⟩ := own.parts
  exact ⟨va, _, vc, by rw [hx], rfl, h1, Spn.ans_len 1 la lb, h2, own, hb⟩
theorem zqMinus (la lb rs : List Spn.Sp) (a b : Option Addr) (na ca nb cb : Nat) (w : World) (ea : la.length = na) (eb : lb.length = nb) (hla : na ≤ maxLen) (hlb : nb ≤ maxLen) (hna : a = none → ca = 0 ∧ la = []) (hnb : b = none → cb = 0 ∧ lb = [])
    (hx : Spn.code 2 la lb = 0) (hs : Spn.ans 2 la lb = rs) (ra : Row2 w a la) (rb : Row2 w b lb) :
    Calls Tryz.prog 24 #[.slice a na ca, .slice b nb cb] w fun e w' => ∃ va vn vc, e = .returned (.tuple #[.slice va vn vc, .int .i64 0]) ∧ rs.length = vn ∧ vn ≤ vc ∧ vn ≤ 64 ∧ (va = none → vc = 0 ∧ rs = []) ∧ OwnS w' w.heap.size (.slice va vn vc) rs ∧ Below w.heap.size w w' := by
  subst ea eb hs
  refine (pMinus la lb a b ca cb w hla hlb hna hnb ra rb).mono ?_
  rintro e w' ⟨v, rfl, own, hb⟩
  obtain ⟨va, vc, rfl, h1, h2, h3, h4⟩ := own.parts
  exact ⟨va, _, vc, by rw [hx], rfl, h1, Spn.ans_len 2 la lb, h2, own, hb⟩
theorem zqSize (l : List Spn.Sp) (x : Int) (a : Option Addr) (n c : Nat) (w : World) (hn : l.length = n) (hl : n ≤ maxLen) (hc : Spn.chk l = 0) (hx : Spn.size l = x) (hr : Row2 w a l) :
    Calls Tryz.prog 23 #[.slice a n c] w fun e w' => e = .returned (.tuple #[.int .i64 x, .int .i64 0]) ∧ Below w.heap.size w w' := by
  subst hn hx
  refine (pSize l a c w hl hr).mono ?_
  rintro e w' ⟨rfl, hb⟩
  rw [hc, if_pos rfl]
  exact ⟨rfl, hb⟩
set_option maxRecDepth 100000 in
set_option maxHeartbeats 4000000 in
theorem pZCut_ok (p : Pz.Pq) (a : Option Addr) (N c : Nat) (n : Int) (w : World) (hN : p.days.length = N) (hl : N ≤ maxLen) (hc : N ≤ c) (hn : a = none → c = 0 ∧ p.days = []) (hr : Row2 w a p.days) (h0 : Pz.chk p = 0) (hd : ¬ Pz.noD n) :
    Calls Tryz.prog 6 #[pv p a N c, .int .i64 n] w (rzOwn w (Pz.cut p n)) := by
  have ok := (Pz.chk_ok _).1 h0
  have h64 := ((Spn.chk_zero _).1 ok.sp).1
  have T0 : Hid (Two w _ p a N c) := Two.new w p a N c
  have R : Hid (Row2 w a p.days) := hr
  have HN : Hid (p.days.length = N ∧ N ≤ 64 ∧ N ≤ c ∧ (a = none → c = 0 ∧ p.days = [])) := ⟨hN, by omega, hc, hn⟩
  have HON : Hid (∀ W, Row2 W a p.days → Calls Tryz.prog 18 #[pv p a N c, .int .i64 n] W fun e w' => e = .returned (.int .i64 0) ∧ Below W.heap.size W w') := fun W hW => zqOn p a N c n 0 W hN hl hc hn hW (by rw [h0, if_pos rfl, if_neg hd])
  have HP : Hid (_) := Pz.cut_parts ok (show 1 ≤ n by unfold Pz.noD at hd; omega) (show n ≤ 3652059 by unfold Pz.noD at hd; omega)
  obtain ⟨m, hm⟩ : ∃ m, Spn.size p.days - Spn.size (Pz.cutL p.days n) = m := ⟨_, rfl⟩
  have HM : Hid (Spn.size p.days - Spn.size (Pz.cutL p.days n) = m) := hm
  have HE : Hid (Pz.cut p n = (Pz.cutP p n, m, 0)) := by
    show _ = _
    unfold Pz.cut
    rw [h0, if_pos rfl, if_neg hd, hm]
  clear ok h64 hN hl hc hn hr h0 hd hm
  obtain ⟨id, born, pa, pb, ser, l⟩ := p
  simp only at R HN HP HM
  go_enter Tryz.func6, Tryz.ntmps6
  go_wp2_with fail
  refine (HON.out _ (R.out.below T0.out.b)).mono ?_
  rintro e w1 ⟨rfl, hb⟩
  have T1 : Hid (Two w w1 ⟨id, born, pa, pb, ser, l⟩ a N c) := T0.out.below hb
  clear hb T0
  have e5 := T1.out.h.c5
  have gl := T1.out.h.lt
  go_wp2_with fail
  have BL : Hid (Below w1.heap.size w1 (w1.alloc (.cells #[.int .i64 n, .int .i64 3652060] 49))) := below_box _ _
  have RO : Hid (Row2 (w1.alloc (.cells #[.int .i64 n, .int .i64 3652060] 49)) (some ⟨w1.heap.size, 0, none⟩) [(n, 3652060)]) := (one_own w1 n 3652060).row'
  have TL : Hid (Two w (w1.alloc (.cells #[.int .i64 n, .int .i64 3652060] 49)) ⟨id, born, pa, pb, ser, l⟩ a N c) := T1.out.below BL.out
  refine (zqMeet l [(n, 3652060)] (Pz.restL l n) a (some ⟨w1.heap.size, 0, none⟩) N c 1 1 _ HN.out.1 rfl (by have := HN.out.2.1; unfold maxLen; omega) (by decide) HN.out.2.2.2 (fun e => by cases e) HP.out.1.1 HP.out.1.2 (R.out.below TL.out.b) RO.out).mono ?_
  rintro e w2 ⟨va, vn, vc, rfl, hvl, hvc, hv64, hvn, hvo, hb⟩
  have T2 : Hid (Two w w2 ⟨id, born, pa, pb, ser, l⟩ a N c) := TL.out.below hb
  have R2 : Hid (Row2 w2 (some ⟨w1.heap.size, 0, none⟩) [(n, 3652060)]) := RO.out.below hb
  have O2 : Hid (OwnS w2 _ (.slice va vn vc) (Pz.restL l n)) := hvo
  have HVL : Hid ((Pz.restL l n).length = vn ∧ vn ≤ 64) := ⟨hvl, hv64⟩
  clear hb hvl hvc hv64 hvn hvo
  go_wp2_with fail
  refine (zqSize (Pz.restL l n) m va vn vc _ HVL.out.1 (by have := HVL.out.2; unfold maxLen; omega) HP.out.2.2.1 (by rw [HP.out.2.2.2]; exact HM.out) O2.out.row').mono ?_
  rintro e w3 ⟨rfl, hb⟩
  have T3 : Hid (Two w w3 ⟨id, born, pa, pb, ser, l⟩ a N c) := T2.out.below hb
  have R3 : Hid (Row2 w3 (some ⟨w1.heap.size, 0, none⟩) [(n, 3652060)]) := R2.out.below hb
  clear hb e5 gl
  have e5 := T3.out.h.c5
  go_wp2_with fail
  refine (zqMinus l [(n, 3652060)] (Pz.cutL l n) a (some ⟨w1.heap.size, 0, none⟩) N c 1 1 _ HN.out.1 rfl (by have := HN.out.2.1; unfold maxLen; omega) (by decide) HN.out.2.2.2 (fun e => by cases e) HP.out.2.1.1 HP.out.2.1.2 (R.out.below T3.out.b) R3.out).mono ?_
  rintro e w4 ⟨ga, gn, gc, rfl, hvl, hvc, hv64, hvn, hvo, hb⟩
  have hz3 : w.heap.size + 1 < w3.heap.size := T3.out.z.lt
  have T4 : Hid (Two w w4 ⟨id, born, pa, pb, ser, l⟩ a N c) := T3.out.below hb
  have O4 : Hid (OwnS w4 (w.heap.size + 2) (.slice ga gn gc) (Pz.cutL l n)) := hvo.weak hz3
  have HVN : Hid ((Pz.cutL l n).length = gn ∧ gn ≤ gc ∧ gn ≤ 64 ∧ (ga = none → gc = 0 ∧ Pz.cutL l n = [])) := ⟨hvl, hvc, hv64, hvn⟩
  have T5 : Hid (Two w (w4.setCell ⟨w.heap.size, 5, none⟩ (.slice ga gn gc)) ⟨id, born, pa, pb, ser, Pz.cutL l n⟩ ga gn gc) := T4.out.dys _ ga gn gc
  clear hb hz3 e5 hvl hvc hv64 hvn hvo
  obtain ⟨-, e0, e1, e2, e3, e4, e5⟩ := T4.out.h
  simp only at e0 e1 e2 e3 e4 e5
  have f5 := T4.out.f 5
  obtain ⟨-, z0, z1, z2, z3, z4, z5, g⟩ := T4.out.z
  have g0 := g 0
  have g1 := g 1
  have g2 := g 2
  have g3 := g 3
  have g4 := g 4
  have g5 := g 5
  clear g
  go_wp2
  have OW := O4.out.aside ⟨w.heap.size, 5, none⟩ (show w.heap.size < w.heap.size + 2 by omega) (.slice ga gn gc)
  have OW6 := (six_own OW (show w.heap.size + 1 < w.heap.size + 2 by omega) (.int .i64 id) (.int .i64 born) (.int .i64 pa) (.int .i64 pb) (.int .i64 ser) (.slice ga gn gc)).weak (show w.heap.size ≤ w.heap.size + 2 by omega)
  have B6 := six_below T5.out.b (show w.heap.size ≤ w.heap.size + 1 by omega) (.int .i64 id) (.int .i64 born) (.int .i64 pa) (.int .i64 pb) (.int .i64 ser) (.slice ga gn gc)
  have HF : rzOwn w (Pz.cutP ⟨id, born, pa, pb, ser, l⟩ n, m, 0) (.returned (.tuple #[pv ⟨id, born, pa, pb, ser, Pz.cutL l n⟩ ga gn gc, .int .i64 m, .int .i64 0])) (six (w4.setCell ⟨w.heap.size, 5, none⟩ (.slice ga gn gc)) (w.heap.size + 1) (.int .i64 id) (.int .i64 born) (.int .i64 pa) (.int .i64 pb) (.int .i64 ser) (.slice ga gn gc)) :=
    ⟨ga, gn, gc, rfl, HVN.out.1, HVN.out.2.1, HVN.out.2.2.1, HVN.out.2.2.2, OW6, B6⟩
  rw [← HE.out] at HF
  have HFF : Hid (rzOwn _ _ _ _) := HF
  clear HF OW OW6 B6 T1 T2 T3 T4 T5 TL O2 O4 HE HN HP HM HVL HVN HON R R2 R3 RO BL e0 e1 e2 e3 e4 e5 f5
  refine bodyPost_ret (v := .tuple #[pv ⟨id, born, pa, pb, ser, Pz.cutL l n⟩ ga gn gc, .int .i64 m, .int .i64 0]) ?_ rfl HFF.out
  clear HFF
  simp [results, Tryz.results6, go_sem, z0, z1, z2, z3, z4, z5]
set_option maxRecDepth 100000 in
set_option maxHeartbeats 4000000 in
theorem pZCut_bad (p : Pz.Pq) (a : Option Addr) (N c : Nat) (n d : Int) (w : World) (hN : p.days.length = N) (hl : N ≤ maxLen) (hc : N ≤ c) (hn : a = none → c = 0 ∧ p.days = []) (hr : Row2 w a p.days) (h0 : (if Pz.chk p = 0 then (if Pz.noD n then 3 else 0) else Pz.chk p) = d) (hd : d ≠ 0) :
    Calls Tryz.prog 6 #[pv p a N c, .int .i64 n] w (rzOwn w (Pz.cut p n)) := by
  have T0 : Hid (Two w _ p a N c) := Two.new w p a N c
  have R : Hid (Row2 w a p.days) := hr
  have HON : Hid (∀ W, Row2 W a p.days → Calls Tryz.prog 18 #[pv p a N c, .int .i64 n] W fun e w' => e = .returned (.int .i64 d) ∧ Below W.heap.size W w') := fun W hW => zqOn p a N c n d W hN hl hc hn hW h0
  have HE : Hid (Pz.cut p n = (Pz.zero, 0, d)) := by
    show _ = _
    unfold Pz.cut
    by_cases k : Pz.chk p = 0
    · rw [if_pos k] at h0
      by_cases k2 : Pz.noD n
      · rw [if_pos k2] at h0
        rw [if_pos k, if_pos k2, ← h0]
      · rw [if_neg k2] at h0
        exact absurd h0.symm hd
    · rw [if_neg k] at h0
      rw [if_neg k, h0]
  have d2 : (d != 0) = true := by simpa using hd
  clear hr hN hd h0 hl hc hn
  obtain ⟨id, born, pa, pb, ser, l⟩ := p
  simp only at R
  go_enter Tryz.func6, Tryz.ntmps6
  go_wp2_with fail
  refine (HON.out _ (R.out.below T0.out.b)).mono ?_
  rintro e w1 ⟨rfl, hb⟩
  have T1 : Hid (Two w w1 ⟨id, born, pa, pb, ser, l⟩ a N c) := T0.out.below hb
  clear hb T0
  obtain ⟨-, z0, z1, z2, z3, z4, z5, g⟩ := T1.out.z
  have g0 := g 0
  have g1 := g 1
  have g2 := g 2
  have g3 := g 3
  have g4 := g 4
  have g5 := g 5
  clear g
  go_wp2
  refine bodyPost_ret (v := .tuple #[.agg #[.int .i64 0, .int .i64 0, .int .i64 0, .int .i64 0, .int .i64 0, .slice none 0 0], .int .i64 0, .int .i64 d]) (by simp [results, Tryz.results6, go_sem, z0, z1, z2, z3, z4, z5]) rfl ?_
  exact rzOwn.bad HE.out (six_below T1.out.b (show w.heap.size ≤ w.heap.size + 1 by omega) (.int .i64 0) (.int .i64 0) (.int .i64 0) (.int .i64 0) (.int .i64 0) (.slice none 0 0))
theorem pZCut_own (p : Pz.Pq) (a : Option Addr) (N c : Nat) (n : Int) (w : World) (hN : p.days.length = N) (hl : N ≤ maxLen) (hc : N ≤ c) (hn : a = none → c = 0 ∧ p.days = []) (hr : Row2 w a p.days) :
    Calls Tryz.prog 6 #[pv p a N c, .int .i64 n] w (rzOwn w (Pz.cut p n)) := by
  by_cases h0 : Pz.chk p = 0
  · by_cases hd : Pz.noD n
    · exact pZCut_bad p a N c n 3 w hN hl hc hn hr (by rw [if_pos h0, if_pos hd]) (by decide)
    · exact pZCut_ok p a N c n w hN hl hc hn hr h0 hd
  · exact pZCut_bad p a N c n _ w hN hl hc hn hr (if_neg h0) h0
end Go.Proofs.YtandlmnbnjkklaaGreatDoor
namespace Go.Proofs.YtandlmnbnjkklaaGreatDoor
open Go.RowKit

theorem pZNew_any (id born pa pb s u n : Int) (w : World) (hw : Laid w) :
    Calls Tryz.prog 35 #[.int .i64 id, .int .i64 born, .int .i64 pa, .int .i64 pb, .int .i64 s, .agg #[.int .i64 u, .int .i64 n]] w (nzPost w (Pz.new id born pa pb s u n)) :=
  (pZNew_own id born pa pb s u n w hw).mono fun _ _ h => h.weak
theorem pZRenew_any (p : Pz.Pq) (a : Option Addr) (N c : Nat) (n u t : Int) (w : World) (hw : Laid w) (hN : p.days.length = N) (hl : N ≤ maxLen) (hc : N ≤ c) (hn : a = none → c = 0 ∧ p.days = []) (hr : Row2 w a p.days) :
    Calls Tryz.prog 5 #[pv p a N c, .int .i64 n, .agg #[.int .i64 u, .int .i64 t]] w (rzPost w (Pz.renew p n u t)) :=
  (pZRenew_own p a N c n u t w hw hN hl hc hn hr).mono fun _ _ h => h.weak
theorem pZCut_any (p : Pz.Pq) (a : Option Addr) (N c : Nat) (n : Int) (w : World) (hN : p.days.length = N) (hl : N ≤ maxLen) (hc : N ≤ c) (hn : a = none → c = 0 ∧ p.days = []) (hr : Row2 w a p.days) :
    Calls Tryz.prog 6 #[pv p a N c, .int .i64 n] w (rzPost w (Pz.cut p n)) :=
  (pZCut_own p a N c n w hN hl hc hn hr).mono fun _ _ h => h.weak
theorem pZReplace_any (p : Pz.Pq) (a : Option Addr) (N c : Nat) (w : World) (hN : p.days.length = N) (hl : N ≤ maxLen) (hc : N ≤ c) (hn : a = none → c = 0 ∧ p.days = []) (hr : Row2 w a p.days) :
    Calls Tryz.prog 7 #[pv p a N c] w (nzPost w (Pz.repl p)) :=
  (pZReplace_own p a N c w hN hl hc hn hr).mono fun _ _ h => h.weak
end Go.Proofs.YtandlmnbnjkklaaGreatDoor
namespace Go.Proofs.YtandlmnbnjkklaaGreatDoor
namespace Pz
def bw : Pq := ⟨7, 690000, 1, 3, 1, [(700000, 700007)]⟩
theorem b_nth (s y m d x : Int) (hv : Cal.vld y m d) (hn : Cal.num y m d = s) (hk : Trm.bad 2 1 s 1 1000 = 0) (hx : Trm.day y m d 2 1 1 = x) (h0 : x ≠ 0) : Trm.nthF s 2 1 1 = (x, 0) := by
  unfold Trm.nthF
  rw [if_pos hk, Cal.dt_is hv hn]
  show (Trm.day y m d 2 1 1, Trm.over (Trm.day y m d 2 1 1)) = _
  rw [hx]
  unfold Trm.over
  rw [if_neg h0]
theorem b_n1 : Trm.nthF 700000 2 1 1 = (700007, 0) := b_nth 700000 1917 7 15 700007 (by unfold Cal.vld; decide) (by decide) (by decide) (by decide) (by decide)
theorem b_n2 : Trm.nthF 700007 2 1 1 = (700014, 0) := b_nth 700007 1917 7 22 700014 (by unfold Cal.vld; decide) (by decide) (by decide) (by decide) (by decide)
theorem b_n3 : Trm.nthF 700010 2 1 1 = (700017, 0) := b_nth 700010 1917 7 25 700017 (by unfold Cal.vld; decide) (by decide) (by decide) (by decide) (by decide)
theorem b_chk : chk bw = 0 := by decide
theorem b_new : new 7 690000 1 3 700000 2 1 = (bw, 0) := by
  unfold new
  rw [b_n1, if_pos rfl]
  exact if_pos b_chk
theorem b_u1 : Spn.both 0 [(700000, 700007)] [(700007, 700014)] = [(700000, 700014)] :=
  (Spn.both_unique 0 _ _ _ (by simp [Spn.canon, Spn.canonFrom]) (fun n => by rw [Bool.eq_iff_iff]; simp [Spn.memB, Spn.opB]; omega)).symm
theorem b_u2 : Spn.both 0 [(700000, 700007)] [(700010, 700017)] = [(700000, 700007), (700010, 700017)] :=
  (Spn.both_unique 0 _ _ _ (by simp [Spn.canon, Spn.canonFrom]) (fun n => by rw [Bool.eq_iff_iff]; simp [Spn.memB, Spn.opB])).symm
theorem b_c1 : Spn.code 0 [(700000, 700007)] [(700007, 700014)] = 0 := by unfold Spn.code; rw [b_u1]; decide
theorem b_c2 : Spn.code 0 [(700000, 700007)] [(700010, 700017)] = 0 := by unfold Spn.code; rw [b_u2]; decide
theorem b_a1 : Spn.ans 0 [(700000, 700007)] [(700007, 700014)] = [(700000, 700014)] := by unfold Spn.ans; rw [if_pos b_c1, b_u1]
theorem b_a2 : Spn.ans 0 [(700000, 700007)] [(700010, 700017)] = [(700000, 700007), (700010, 700017)] := by unfold Spn.ans; rw [if_pos b_c2, b_u2]
def bq : Pq := ⟨7, 690000, 1, 3, 1, [(700000, 700014)]⟩
def br : Pq := ⟨7, 690000, 1, 3, 1, [(700000, 700007), (700010, 700017)]⟩
def bs : Pq := ⟨7, 690000, 1, 3, 1, [(700000, 700005)]⟩
def bt : Pq := ⟨7, 690000, 1, 3, 2, [(700000, 700005)]⟩
theorem b_f1 : from' bw 700003 = 700007 := by decide
theorem b_f2 : from' bw 700010 = 700010 := by decide
theorem b_r1 : renewed bw 700007 700014 = bq := by unfold renewed; show (⟨7, 690000, 1, 3, 1, Spn.ans 0 [(700000, 700007)] [(700007, 700014)]⟩ : Pq) = _; rw [b_a1]; rfl
theorem b_r2 : renewed bw 700010 700017 = br := by unfold renewed; show (⟨7, 690000, 1, 3, 1, Spn.ans 0 [(700000, 700007)] [(700010, 700017)]⟩ : Pq) = _; rw [b_a2]; rfl
theorem b_renew1 : renew bw 700003 2 1 = (bq, 7, 0) := by
  unfold renew
  rw [if_pos b_chk, if_neg (by decide), b_f1, b_n2, if_pos rfl]
  refine (if_pos b_c1).trans ?_
  rw [b_r1]; exact if_pos (by decide)
theorem b_renew2 : renew bw 700010 2 1 = (br, 7, 0) := by
  unfold renew
  rw [if_pos b_chk, if_neg (by decide), b_f2, b_n3, if_pos rfl]
  refine (if_pos b_c2).trans ?_
  rw [b_r2]; exact if_pos (by decide)
theorem b_cut : cut bq 700005 = (bs, 9, 0) := by unfold cut; rw [if_pos (by decide), if_neg (by decide)]; rfl
theorem b_repl : repl bs = (bt, 0) := by unfold repl; rw [if_pos (by decide), if_neg (by decide)]; rfl
theorem b_has1 : hasB bt 700004 3 = true := by decide
theorem b_has2 : hasB bt 700004 4 = false := by decide
theorem b_bt : chk bt = 0 := by decide
theorem b_zero : chk zero = 3 := by decide
end Pz
end Go.Proofs.YtandlmnbnjkklaaGreatDoor
