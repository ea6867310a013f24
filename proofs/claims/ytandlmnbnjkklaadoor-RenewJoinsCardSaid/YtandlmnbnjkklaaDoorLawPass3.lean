/- The walk of RenewJoins. -/
import Derived.Test.YtandlmnbnjkklaaDoorLawPass5
namespace Go.Proofs.YtandlmnbnjkklaaDoor
open Go.RowKit Go.BigFrame

namespace Pz
theorem Rn.has {p : Pq} {n u t x y : Int} (h : Rn p n u t x y) (k z : Int) : hasB (renewed p x y) k z = (hasB p k z || (decide (p.a ≤ z ∧ z ≤ p.b) && (decide (x ≤ k) && decide (k < x + (y - x))))) := by
  have e : x + (y - x) = y := by omega
  rw [e]
  unfold hasB
  rw [(chk_ok _).2 h.new, (chk_ok _).2 h.ok]
  show (true && (decide (p.a ≤ z ∧ z ≤ p.b) && Spn.memB (renewed p x y).days k)) = ((true && (decide (p.a ≤ z ∧ z ≤ p.b) && Spn.memB p.days k)) || _)
  rw [h.mem k, Bool.true_and, Bool.true_and, Bool.and_or_distrib_left]
end Pz
set_option maxRecDepth 100000 in
set_option maxHeartbeats 16000000 in
theorem renewJoins_bad (p : Pz.Pq) (a : Option Addr) (N c : Nat) (n tu tt k z : Int) (w : World) (hN : p.days.length = N) (hl : N ≤ maxLen) (hc : N ≤ c) (hn : a = none → c = 0 ∧ p.days = []) (hw : Laid w) (hr : Row2 w a p.days) (d : Int) (d0 : d ≠ 0) (hv : Pz.renew p n tu tt = (Pz.zero, 0, d)) :
    Calls Tryd.prog 5 #[pv p a N c, .int .i64 n, .agg #[.int .i64 tu, .int .i64 tt], .int .i64 k, .int .i64 z] w fun e w' => e = .returned (.bool true) ∧ Below w.heap.size w w' := by
  obtain ⟨tg, htg⟩ : ∃ tg, w.heap.size + 1 = tg := ⟨_, rfl⟩
  have HT := Thr0.new w p a N c tu tt hc hn hr
  rw [htg] at HT
  have K0 : Hid (TB2 w _ tg tu tt) := HT.1
  have Pp : Hid (PIs _ w.heap.size p a N c) := HT.2
  have HL : Hid (p.days.length = N ∧ N ≤ maxLen) := ⟨hN, hl⟩
  have HW : Hid (Laid w) := hw
  have p0 := Pp.out.h.c0
  have p1 := Pp.out.h.c1
  have p2 := Pp.out.h.c2
  have p3 := Pp.out.h.c3
  have p4 := Pp.out.h.c4
  have p5 := Pp.out.h.c5
  have k0 := K0.out.c0
  have k1 := K0.out.c1
  have HV : Hid (Pz.renew p n tu tt = (⟨0, 0, 0, 0, 0, []⟩, 0, d)) := hv
  have d1 : (d != 0) = true := by simpa using d0
  clear HT hN hl hc hn hw hr hv d0
  go_enter Tryd.func5, Tryd.ntmps5
  go_wp2_with fail
  clear k0 k1 p0 p1 p2 p3 p4 p5
  have h1 := pZRenew_any p a N c n tu tt _ (HW.out.below K0.out.b) HL.out.1 HL.out.2 Pp.out.k Pp.out.z Pp.out.r
  rw [HV.out] at h1
  refine h1.mono ?_
  rintro e w1 hp
  obtain ⟨qa, qn, qc, rfl, hlen, h64, hc, hn, hr, hb⟩ := rzSay hp
  have ql : Hid ([].length = qn ∧ qn ≤ 64) := ⟨hlen, h64⟩
  have K1 : Hid (TB2 w (w1.alloc (.cells #[.int .i64 0, .int .i64 0, .int .i64 0, .int .i64 0, .int .i64 0, .slice qa qn qc] 24)) tg tu tt) := (K0.out.below hb).below (below_box _ _)
  have Pp : Hid (PIs (w1.alloc (.cells #[.int .i64 0, .int .i64 0, .int .i64 0, .int .i64 0, .int .i64 0, .slice qa qn qc] 24)) w.heap.size p a N c) := (Pp.out.below hb).box _
  have Pq : Hid (PIs (w1.alloc (.cells #[.int .i64 0, .int .i64 0, .int .i64 0, .int .i64 0, .int .i64 0, .slice qa qn qc] 24)) w1.heap.size ⟨0, 0, 0, 0, 0, []⟩ qa qn qc) := PIs.new hc hn hr
  clear hp h1 hc hn hr hb hlen h64
  obtain rfl : qn = 0 := ql.out.1.symm
  obtain ⟨-, p0, p1, p2, p3, p4, p5⟩ := Pp.out.h
  (try simp only at p0 p1 p2 p3 p4 p5)
  obtain ⟨-, q0, q1, q2, q3, q4, q5⟩ := Pq.out.h
  (try simp only at q0 q1 q2 q3 q4 q5)
  have k0 := K1.out.c0
  have k1 := K1.out.c1
  go_wp2_with fail
  clear k0 k1 p0 p1 p2 p3 p4 p5 q0 q1 q2 q3 q4 q5
  have h1 := zbegun_any (w1.alloc (.cells #[.int .i64 0, .int .i64 0, .int .i64 0, .int .i64 0, .int .i64 0, .slice qa 0 qc] 24)) (HW.out.below K1.out.b)
  refine h1.mono ?_
  rintro e w2 ⟨rfl, hb⟩
  have K2 : Hid (TB2 w w2 tg tu tt) := K1.out.below hb
  have Pp : Hid (PIs w2 w.heap.size p a N c) := Pp.out.below hb
  have Pq : Hid (PIs w2 w1.heap.size ⟨0, 0, 0, 0, 0, []⟩ qa 0 qc) := Pq.out.below hb
  clear h1 hb
  obtain ⟨-, p0, p1, p2, p3, p4, p5⟩ := Pp.out.h
  (try simp only at p0 p1 p2 p3 p4 p5)
  obtain ⟨-, q0, q1, q2, q3, q4, q5⟩ := Pq.out.h
  (try simp only at q0 q1 q2 q3 q4 q5)
  have k0 := K2.out.c0
  have k1 := K2.out.c1
  go_wp2_with fail
  clear k0 k1 p0 p1 p2 p3 p4 p5 q0 q1 q2 q3 q4 q5
  have h1 := samePass_eq ⟨0, 0, 0, 0, 0, []⟩ qa none 0 qc 0 w2 ql.out.1 (by have := ql.out.2; unfold maxLen; omega) Pq.out.r (.inl rfl)
  refine h1.mono ?_
  rintro e w3 ⟨rfl, hb⟩
  have K3 : Hid (TB2 w w3 tg tu tt) := K2.out.below hb
  have Pp : Hid (PIs w3 w.heap.size p a N c) := Pp.out.below hb
  have Pq : Hid (PIs w3 w1.heap.size ⟨0, 0, 0, 0, 0, []⟩ qa 0 qc) := Pq.out.below hb
  clear h1 hb
  obtain ⟨-, p0, p1, p2, p3, p4, p5⟩ := Pp.out.h
  (try simp only at p0 p1 p2 p3 p4 p5)
  obtain ⟨-, q0, q1, q2, q3, q4, q5⟩ := Pq.out.h
  (try simp only at q0 q1 q2 q3 q4 q5)
  have k0 := K3.out.c0
  have k1 := K3.out.c1
  go_wp2
  go_ret
  exact ⟨rfl, K3.out.b⟩
set_option maxRecDepth 100000 in
set_option maxHeartbeats 16000000 in
theorem renewJoins_good (p : Pz.Pq) (a : Option Addr) (N c : Nat) (n tu tt k z : Int) (w : World) (hN : p.days.length = N) (hl : N ≤ maxLen) (hc : N ≤ c) (hn : a = none → c = 0 ∧ p.days = []) (hw : Laid w) (hr : Row2 w a p.days) (x y : Int) (hv : Pz.Rn p n tu tt x y) :
    Calls Tryd.prog 5 #[pv p a N c, .int .i64 n, .agg #[.int .i64 tu, .int .i64 tt], .int .i64 k, .int .i64 z] w fun e w' => e = .returned (.bool true) ∧ Below w.heap.size w w' := by
  obtain ⟨tg, htg⟩ : ∃ tg, w.heap.size + 1 = tg := ⟨_, rfl⟩
  have HT := Thr0.new w p a N c tu tt hc hn hr
  rw [htg] at HT
  have K0 : Hid (TB2 w _ tg tu tt) := HT.1
  have Pp : Hid (PIs _ w.heap.size p a N c) := HT.2
  have HL : Hid (p.days.length = N ∧ N ≤ maxLen) := ⟨hN, hl⟩
  have HW : Hid (Laid w) := hw
  have p0 := Pp.out.h.c0
  have p1 := Pp.out.h.c1
  have p2 := Pp.out.h.c2
  have p3 := Pp.out.h.c3
  have p4 := Pp.out.h.c4
  have p5 := Pp.out.h.c5
  have k0 := K0.out.c0
  have k1 := K0.out.c1
  obtain ⟨cl, hcl⟩ : ∃ cl, Spn.ans 0 p.days [(x, y)] = cl := ⟨_, rfl⟩
  obtain ⟨m, hm⟩ : ∃ m, y - x = m := ⟨_, rfl⟩
  obtain ⟨E, hE⟩ : ∃ E, Pz.pend p.days = E := ⟨_, rfl⟩
  obtain ⟨A, hA⟩ : ∃ A, Spn.size p.days = A := ⟨_, rfl⟩
  obtain ⟨h, hh⟩ : ∃ h, Pz.hasB p k z = h := ⟨_, rfl⟩
  have hv1 : Pz.renew p n tu tt = (⟨p.id, p.born, p.a, p.b, p.ser, cl⟩, m, 0) := by rw [hv.eq, hm, ← hcl]; rfl
  have hv2 : Pz.chk ⟨p.id, p.born, p.a, p.b, p.ser, cl⟩ = 0 := by rw [← hcl]; exact (Pz.chk_ok _).2 hv.new
  have hv3 : Pz.chk p = 0 := (Pz.chk_ok _).2 hv.ok
  have hv4 : Pz.hasB ⟨p.id, p.born, p.a, p.b, p.ser, cl⟩ k z = (h || (decide (p.a ≤ z ∧ z ≤ p.b) && (decide (x ≤ k) && decide (k < x + m)))) := by rw [← hcl, ← hm, ← hh]; exact hv.has k z
  have hv5 : Spn.chk cl = 0 ∧ Spn.size cl = A + m := by rw [← hcl, ← hm, ← hA]; exact ⟨hv.new.sp, hv.size⟩
  have hsz := Spn.size_chk _ hv.ok.sp
  rw [hA] at hsz
  have hm1 : 1 ≤ m := by have := hv.up; omega
  have hm2 : m ≤ 3652059 := by have := hv.top; have := hv.n1; have := hv.nx; omega
  have hx1 : 1 ≤ x := by have := hv.n1; have := hv.nx; omega
  have hx2 : x ≤ 3652059 := by have := hv.top; have := hv.up; omega
  have hw1 : IntKind.i64.wrap (A + m) = A + m := by rw [IntKind.wrap_i64]; omega
  have hw2 : IntKind.i64.wrap (x + m) = x + m := by rw [IntKind.wrap_i64]; omega
  have HV : Hid (Pz.renew p n tu tt = (⟨p.id, p.born, p.a, p.b, p.ser, cl⟩, m, 0) ∧ Pz.hasB p k z = h ∧ Pz.chk p = 0 ∧ Pz.hasB ⟨p.id, p.born, p.a, p.b, p.ser, cl⟩ k z = (h || (decide (p.a ≤ z ∧ z ≤ p.b) && (decide (x ≤ k) && decide (k < x + m)))) ∧ Pz.chk ⟨p.id, p.born, p.a, p.b, p.ser, cl⟩ = 0) := ⟨hv1, hh, hv3, hv4, hv2⟩
  have HS : Hid (Spn.chk p.days = 0 ∧ Spn.size p.days = A ∧ Spn.chk cl = 0 ∧ Spn.size cl = A + m) := ⟨hv.ok.sp, hA, hv5.1, hv5.2⟩
  have HMX : Hid (max n E = x) := by
    show _ = _
    rw [← hv.ex, ← hE]
    unfold Pz.from'
    split <;> omega
  have hN64 : N ≤ 64 := by rw [← hN]; exact ((Spn.chk_zero _).1 hv.ok.sp).1
  have HE : Hid (Pz.pend p.days = E ∧ N ≤ 64) := ⟨hE, hN64⟩
  have hm1' : decide (m < 1) = false := decide_eq_false (by omega)
  clear HT hN hl hc hn hw hr hv hv1 hv2 hv3 hv4 hv5 hcl hm hE hN64 hA hh hsz
  go_enter Tryd.func5, Tryd.ntmps5
  go_wp2_with fail
  clear k0 k1 p0 p1 p2 p3 p4 p5
  have h1 := pZRenew_any p a N c n tu tt _ (HW.out.below K0.out.b) HL.out.1 HL.out.2 Pp.out.k Pp.out.z Pp.out.r
  rw [HV.out.1] at h1
  refine h1.mono ?_
  rintro e w1 hp
  obtain ⟨qa, qn, qc, rfl, hlen, h64, hc, hn, hr, hb⟩ := rzSay hp
  have ql : Hid (cl.length = qn ∧ qn ≤ 64) := ⟨hlen, h64⟩
  have K1 : Hid (TB2 w (w1.alloc (.cells #[.int .i64 p.id, .int .i64 p.born, .int .i64 p.a, .int .i64 p.b, .int .i64 p.ser, .slice qa qn qc] 24)) tg tu tt) := (K0.out.below hb).below (below_box _ _)
  have Pp : Hid (PIs (w1.alloc (.cells #[.int .i64 p.id, .int .i64 p.born, .int .i64 p.a, .int .i64 p.b, .int .i64 p.ser, .slice qa qn qc] 24)) w.heap.size p a N c) := (Pp.out.below hb).box _
  have Pq : Hid (PIs (w1.alloc (.cells #[.int .i64 p.id, .int .i64 p.born, .int .i64 p.a, .int .i64 p.b, .int .i64 p.ser, .slice qa qn qc] 24)) w1.heap.size ⟨p.id, p.born, p.a, p.b, p.ser, cl⟩ qa qn qc) := PIs.new hc hn hr
  clear hp h1 hc hn hr hb hlen h64
  obtain ⟨-, p0, p1, p2, p3, p4, p5⟩ := Pp.out.h
  (try simp only at p0 p1 p2 p3 p4 p5)
  obtain ⟨-, q0, q1, q2, q3, q4, q5⟩ := Pq.out.h
  (try simp only at q0 q1 q2 q3 q4 q5)
  have k0 := K1.out.c0
  have k1 := K1.out.c1
  go_wp2_with fail
  clear k0 k1 p0 p1 p2 p3 p4 p5 q0 q1 q2 q3 q4 q5
  have h1 := zbegun_any (w1.alloc (.cells #[.int .i64 p.id, .int .i64 p.born, .int .i64 p.a, .int .i64 p.b, .int .i64 p.ser, .slice qa qn qc] 24)) (HW.out.below K1.out.b)
  refine h1.mono ?_
  rintro e w2 ⟨rfl, hb⟩
  have K2 : Hid (TB2 w w2 tg tu tt) := K1.out.below hb
  have Pp : Hid (PIs w2 w.heap.size p a N c) := Pp.out.below hb
  have Pq : Hid (PIs w2 w1.heap.size ⟨p.id, p.born, p.a, p.b, p.ser, cl⟩ qa qn qc) := Pq.out.below hb
  clear h1 hb
  obtain ⟨-, p0, p1, p2, p3, p4, p5⟩ := Pp.out.h
  (try simp only at p0 p1 p2 p3 p4 p5)
  obtain ⟨-, q0, q1, q2, q3, q4, q5⟩ := Pq.out.h
  (try simp only at q0 q1 q2 q3 q4 q5)
  have k0 := K2.out.c0
  have k1 := K2.out.c1
  go_wp2_with fail
  clear k0 k1 p0 p1 p2 p3 p4 p5 q0 q1 q2 q3 q4 q5
  have HSQ : Hid (∀ W, Below w2.heap.size w2 W → W.cell? ⟨w.heap.size, 0, none⟩ = some (.int .i64 p.id) ∧ W.cell? ⟨w.heap.size, 1, none⟩ = some (.int .i64 p.born) ∧ W.cell? ⟨w.heap.size, 2, none⟩ = some (.int .i64 p.a) ∧ W.cell? ⟨w.heap.size, 3, none⟩ = some (.int .i64 p.b) ∧ W.cell? ⟨w.heap.size, 4, none⟩ = some (.int .i64 p.ser) ∧ W.cell? ⟨w.heap.size, 5, none⟩ = some (.slice a N c) ∧ W.cell? ⟨w1.heap.size, 0, none⟩ = some (.int .i64 p.id) ∧ W.cell? ⟨w1.heap.size, 1, none⟩ = some (.int .i64 p.born) ∧ W.cell? ⟨w1.heap.size, 2, none⟩ = some (.int .i64 p.a) ∧ W.cell? ⟨w1.heap.size, 3, none⟩ = some (.int .i64 p.b) ∧ W.cell? ⟨w1.heap.size, 4, none⟩ = some (.int .i64 p.ser) ∧ W.cell? ⟨w1.heap.size, 5, none⟩ = some (.slice qa qn qc)) := fun W hb => by
    have hp := (Pp.out.below hb).h
    have hq := (Pq.out.below hb).h
    exact ⟨hp.c0, hp.c1, hp.c2, hp.c3, hp.c4, hp.c5, hq.c0, hq.c1, hq.c2, hq.c3, hq.c4, hq.c5⟩
  have x0B' : Hid (Below w2.heap.size w2 w2.drew) := below_drewN (Below.refl _ _) 1
  refine wp_region_noPanic ?_
  refine ord_region (S := fun W => W.cell? ⟨w.heap.size, 0, none⟩ = some (.int .i64 p.id) ∧ W.cell? ⟨w.heap.size, 1, none⟩ = some (.int .i64 p.born) ∧ W.cell? ⟨w.heap.size, 2, none⟩ = some (.int .i64 p.a) ∧ W.cell? ⟨w.heap.size, 3, none⟩ = some (.int .i64 p.b) ∧ W.cell? ⟨w.heap.size, 4, none⟩ = some (.int .i64 p.ser) ∧ W.cell? ⟨w.heap.size, 5, none⟩ = some (.slice a N c) ∧ W.cell? ⟨w1.heap.size, 0, none⟩ = some (.int .i64 p.id) ∧ W.cell? ⟨w1.heap.size, 1, none⟩ = some (.int .i64 p.born) ∧ W.cell? ⟨w1.heap.size, 2, none⟩ = some (.int .i64 p.a) ∧ W.cell? ⟨w1.heap.size, 3, none⟩ = some (.int .i64 p.b) ∧ W.cell? ⟨w1.heap.size, 4, none⟩ = some (.int .i64 p.ser) ∧ W.cell? ⟨w1.heap.size, 5, none⟩ = some (.slice qa qn qc)) (by kernel_rfl) (HSQ.out _ x0B'.out) ?_
  intro hS0
  have x0B := x0B'
  clear x0B'
  generalize w2.drew = x0 at *
  refine ord_take (i := 0) (d := some 38) (v := ?vt0) rfl rfl (by kernel_rfl) (by kernel_rfl) (by kernel_rfl) (fun _ _ _ h => h) (by rfl) ?hyt0 (by assumption) ?restt0
  case hyt0 => (intro w' hSw; (try dsimp only at hSw); go_simp; try with_reducible rfl)
  case restt0 =>
  (try simp only [Act.put]); (repeat first | simp only [List.setIfInBounds_toArray] | simp only [List.set_cons_zero] | simp only [List.set_cons_succ])
  refine ord_take (i := 1) (d := some 39) (v := ?vt1) rfl rfl (by kernel_rfl) (by kernel_rfl) (by kernel_rfl) (fun _ _ _ h => h) (by rfl) ?hyt1 (by assumption) ?restt1
  case hyt1 => (intro w' hSw; (try dsimp only at hSw); go_simp; try with_reducible rfl)
  case restt1 =>
  (try simp only [Act.put]); (repeat first | simp only [List.setIfInBounds_toArray] | simp only [List.set_cons_zero] | simp only [List.set_cons_succ])
  refine ord_take (i := 2) (d := some 40) (v := ?vt2) rfl rfl (by kernel_rfl) (by kernel_rfl) (by kernel_rfl) (fun _ _ _ h => h) (by rfl) ?hyt2 (by assumption) ?restt2
  case hyt2 => (intro w' hSw; (try dsimp only at hSw); go_simp; try with_reducible rfl)
  case restt2 =>
  (try simp only [Act.put]); (repeat first | simp only [List.setIfInBounds_toArray] | simp only [List.set_cons_zero] | simp only [List.set_cons_succ])
  refine ord_take (i := 3) (d := some 41) (v := ?vt3) rfl rfl (by kernel_rfl) (by kernel_rfl) (by kernel_rfl) (fun _ _ _ h => h) (by rfl) ?hyt3 (by assumption) ?restt3
  case hyt3 => (intro w' hSw; (try dsimp only at hSw); go_simp; try with_reducible rfl)
  case restt3 =>
  (try simp only [Act.put]); (repeat first | simp only [List.setIfInBounds_toArray] | simp only [List.set_cons_zero] | simp only [List.set_cons_succ])
  refine ord_take (i := 4) (d := some 42) (v := ?vt4) rfl rfl (by kernel_rfl) (by kernel_rfl) (by kernel_rfl) (fun _ _ _ h => h) (by rfl) ?hyt4 (by assumption) ?restt4
  case hyt4 => (intro w' hSw; (try dsimp only at hSw); go_simp; try with_reducible rfl)
  case restt4 =>
  (try simp only [Act.put]); (repeat first | simp only [List.setIfInBounds_toArray] | simp only [List.set_cons_zero] | simp only [List.set_cons_succ])
  refine ord_take (i := 6) (d := some 44) (v := ?vt6) rfl rfl (by kernel_rfl) (by kernel_rfl) (by kernel_rfl) (fun _ _ _ h => h) (by rfl) ?hyt6 (by assumption) ?restt6
  case hyt6 => (intro w' hSw; (try dsimp only at hSw); go_simp; try with_reducible rfl)
  case restt6 =>
  (try simp only [Act.put]); (repeat first | simp only [List.setIfInBounds_toArray] | simp only [List.set_cons_zero] | simp only [List.set_cons_succ])
  refine ord_take (i := 7) (d := some 45) (v := ?vt7) rfl rfl (by kernel_rfl) (by kernel_rfl) (by kernel_rfl) (fun _ _ _ h => h) (by rfl) ?hyt7 (by assumption) ?restt7
  case hyt7 => (intro w' hSw; (try dsimp only at hSw); go_simp; try with_reducible rfl)
  case restt7 =>
  (try simp only [Act.put]); (repeat first | simp only [List.setIfInBounds_toArray] | simp only [List.set_cons_zero] | simp only [List.set_cons_succ])
  refine ord_take (i := 9) (d := some 47) (v := ?vt9) rfl rfl (by kernel_rfl) (by kernel_rfl) (by kernel_rfl) (fun _ _ _ h => h) (by rfl) ?hyt9 (by assumption) ?restt9
  case hyt9 => (intro w' hSw; (try dsimp only at hSw); go_simp; try with_reducible rfl)
  case restt9 =>
  (try simp only [Act.put]); (repeat first | simp only [List.setIfInBounds_toArray] | simp only [List.set_cons_zero] | simp only [List.set_cons_succ])
  refine ord_only (i := 5) rfl (by kernel_rfl) (by rfl) ?_
  refine ord_call (d := some 43) (f := 22) (args := #[.slice qa qn qc]) rfl (by go_simp; try with_reducible rfl) (zdays cl (A + m) qa qn qc x0 ql.out.1 HS.out.2.2.1 HS.out.2.2.2 (Pq.out.r.below x0B.out)) ?_
  rintro e x1 ⟨rfl, hb⟩
  have x1B : Hid (Below w2.heap.size w2 x1) := below_on x0B.out (Nat.le_refl _) hb
  clear hb
  refine ⟨_, rfl, HSQ.out _ x1B.out, ?_⟩
  have hSx1 := HSQ.out _ x1B.out
  (try simp only [Act.put]); (repeat first | simp only [List.setIfInBounds_toArray] | simp only [List.set_cons_zero] | simp only [List.set_cons_succ])
  refine ord_only (i := 8) rfl (by kernel_rfl) (by rfl) ?_
  refine ord_call (d := some 46) (f := 22) (args := #[.slice a N c]) rfl (by go_simp; try with_reducible rfl) (zdays p.days A a N c x1 HL.out.1 HS.out.1 HS.out.2.1 (Pp.out.r.below x1B.out)) ?_
  rintro e x2 ⟨rfl, hb⟩
  have x2B : Hid (Below w2.heap.size w2 x2) := below_on x1B.out (Nat.le_refl _) hb
  clear hb
  refine ⟨_, rfl, HSQ.out _ x2B.out, ?_⟩
  have hSx2 := HSQ.out _ x2B.out
  (try simp only [Act.put]); (repeat first | simp only [List.setIfInBounds_toArray] | simp only [List.set_cons_zero] | simp only [List.set_cons_succ])
  refine ord_take (i := 10) (d := some 48) (v := ?vt10) rfl rfl (by kernel_rfl) (by kernel_rfl) (by kernel_rfl) (fun _ _ _ h => h) (by rfl) ?hyt10 (by assumption) ?restt10
  case hyt10 => (intro w' hSw; (try dsimp only at hSw); go_simp; try with_reducible rfl)
  case restt10 =>
  (try simp only [Act.put]); (repeat first | simp only [List.setIfInBounds_toArray] | simp only [List.set_cons_zero] | simp only [List.set_cons_succ])
  refine ord_take (i := 11) (d := some 49) (v := ?vt11) rfl rfl (by kernel_rfl) (by kernel_rfl) (by kernel_rfl) (fun _ _ _ h => h) (by rfl) ?hyt11 (by assumption) ?restt11
  case hyt11 => (intro w' hSw; (try dsimp only at hSw); go_simp; try with_reducible rfl)
  case restt11 =>
  (try simp only [Act.put]); (repeat first | simp only [List.setIfInBounds_toArray] | simp only [List.set_cons_zero] | simp only [List.set_cons_succ])
  refine ord_take (i := 12) (d := some 50) (v := ?vt12) rfl rfl (by kernel_rfl) (by kernel_rfl) (by kernel_rfl) (fun _ _ _ h => h) (by rfl) ?hyt12 (by assumption) ?restt12
  case hyt12 => (intro w' hSw; (try dsimp only at hSw); go_simp; try with_reducible rfl)
  case restt12 =>
  (try simp only [Act.put]); (repeat first | simp only [List.setIfInBounds_toArray] | simp only [List.set_cons_zero] | simp only [List.set_cons_succ])
  refine ord_take (i := 13) (d := some 51) (v := ?vt13) rfl rfl (by kernel_rfl) (by kernel_rfl) (by kernel_rfl) (fun _ _ _ h => h) (by rfl) ?hyt13 (by assumption) ?restt13
  case hyt13 => (intro w' hSw; (try dsimp only at hSw); go_simp; try with_reducible rfl)
  case restt13 =>
  (try simp only [Act.put]); (repeat first | simp only [List.setIfInBounds_toArray] | simp only [List.set_cons_zero] | simp only [List.set_cons_succ])
  refine ord_take (i := 14) (d := some 52) (v := ?vt14) rfl rfl (by kernel_rfl) (by kernel_rfl) (by kernel_rfl) (fun _ _ _ h => h) (by rfl) ?hyt14 (by assumption) ?restt14
  case hyt14 => (intro w' hSw; (try dsimp only at hSw); go_simp; try with_reducible rfl)
  case restt14 =>
  (try simp only [Act.put]); (repeat first | simp only [List.setIfInBounds_toArray] | simp only [List.set_cons_zero] | simp only [List.set_cons_succ])
  refine ord_take (i := 15) (d := some 53) (v := ?vt15) rfl rfl (by kernel_rfl) (by kernel_rfl) (by kernel_rfl) (fun _ _ _ h => h) (by rfl) ?hyt15 (by assumption) ?restt15
  case hyt15 => (intro w' hSw; (try dsimp only at hSw); go_simp; try with_reducible rfl)
  case restt15 =>
  (try simp only [Act.put]); (repeat first | simp only [List.setIfInBounds_toArray] | simp only [List.set_cons_zero] | simp only [List.set_cons_succ])
  refine ord_take (i := 16) (d := some 54) (v := ?vt16) rfl rfl (by kernel_rfl) (by kernel_rfl) (by kernel_rfl) (fun _ _ _ h => h) (by rfl) ?hyt16 (by assumption) ?restt16
  case hyt16 => (intro w' hSw; (try dsimp only at hSw); go_simp; try with_reducible rfl)
  case restt16 =>
  (try simp only [Act.put]); (repeat first | simp only [List.setIfInBounds_toArray] | simp only [List.set_cons_zero] | simp only [List.set_cons_succ])
  refine ord_take (i := 17) (d := some 55) (v := ?vt17) rfl rfl (by kernel_rfl) (by kernel_rfl) (by kernel_rfl) (fun _ _ _ h => h) (by rfl) ?hyt17 (by assumption) ?restt17
  case hyt17 => (intro w' hSw; (try dsimp only at hSw); go_simp; try with_reducible rfl)
  case restt17 =>
  (try simp only [Act.put]); (repeat first | simp only [List.setIfInBounds_toArray] | simp only [List.set_cons_zero] | simp only [List.set_cons_succ])
  refine ord_take (i := 18) (d := some 56) (v := ?vt18) rfl rfl (by kernel_rfl) (by kernel_rfl) (by kernel_rfl) (fun _ _ _ h => h) (by rfl) ?hyt18 (by assumption) ?restt18
  case hyt18 => (intro w' hSw; (try dsimp only at hSw); go_simp; try with_reducible rfl)
  case restt18 =>
  (try simp only [Act.put]); (repeat first | simp only [List.setIfInBounds_toArray] | simp only [List.set_cons_zero] | simp only [List.set_cons_succ])
  refine ord_take (i := 19) (d := some 57) (v := ?vt19) rfl rfl (by kernel_rfl) (by kernel_rfl) (by kernel_rfl) (fun _ _ _ h => h) (by rfl) ?hyt19 (by assumption) ?restt19
  case hyt19 => (intro w' hSw; (try dsimp only at hSw); go_simp; try with_reducible rfl)
  case restt19 =>
  (try simp only [Act.put]); (repeat first | simp only [List.setIfInBounds_toArray] | simp only [List.set_cons_zero] | simp only [List.set_cons_succ])
  refine ord_take (i := 20) (d := some 58) (v := ?vt20) rfl rfl (by kernel_rfl) (by kernel_rfl) (by kernel_rfl) (fun _ _ _ h => h) (by rfl) ?hyt20 (by assumption) ?restt20
  case hyt20 => (intro w' hSw; (try dsimp only at hSw); go_simp; try with_reducible rfl)
  case restt20 =>
  (try simp only [Act.put]); (repeat first | simp only [List.setIfInBounds_toArray] | simp only [List.set_cons_zero] | simp only [List.set_cons_succ])
  refine ord_take (i := 21) (d := some 59) (v := ?vt21) rfl rfl (by kernel_rfl) (by kernel_rfl) (by kernel_rfl) (fun _ _ _ h => h) (by rfl) ?hyt21 (by assumption) ?restt21
  case hyt21 => (intro w' hSw; (try dsimp only at hSw); go_simp; try with_reducible rfl)
  case restt21 =>
  (try simp only [Act.put]); (repeat first | simp only [List.setIfInBounds_toArray] | simp only [List.set_cons_zero] | simp only [List.set_cons_succ])
  refine ord_only (i := 22) rfl (by kernel_rfl) (by rfl) ?_
  refine ord_call (d := some 60) (f := 17) (args := #[pv ⟨p.id, p.born, p.a, p.b, p.ser, cl⟩ qa qn qc]) rfl (by go_simp; try with_reducible rfl) (pZCheck_any ⟨p.id, p.born, p.a, p.b, p.ser, cl⟩ qa qn qc x2 ql.out.1 (by have := ql.out.2; unfold maxLen; omega) Pq.out.k Pq.out.z (Pq.out.r.below x2B.out)) ?_
  rw [HV.out.2.2.2.2]
  rintro e w3 ⟨rfl, hb⟩
  have w3B : Hid (Below w2.heap.size w2 w3) := below_on x2B.out (Nat.le_refl _) hb
  clear hb
  refine ⟨_, rfl, HSQ.out _ w3B.out, ?_⟩
  have hSw3 := HSQ.out _ w3B.out
  (try simp only [Act.put]); (repeat first | simp only [List.setIfInBounds_toArray] | simp only [List.set_cons_zero] | simp only [List.set_cons_succ])
  refine ord_take (i := 23) (d := some 61) (v := ?vt23) rfl rfl (by kernel_rfl) (by kernel_rfl) (by kernel_rfl) (fun _ _ _ h => h) (by rfl) ?hyt23 (by assumption) ?restt23
  case hyt23 => (intro w' hSw; (try dsimp only at hSw); go_simp; try with_reducible rfl)
  case restt23 =>
  (try simp only [Act.put]); (repeat first | simp only [List.setIfInBounds_toArray] | simp only [List.set_cons_zero] | simp only [List.set_cons_succ])
  refine ord_take (i := 24) (d := some 62) (v := ?vt24) rfl rfl (by kernel_rfl) (by kernel_rfl) (by kernel_rfl) (fun _ _ _ h => h) (by rfl) ?hyt24 (by assumption) ?restt24
  case hyt24 => (intro w' hSw; (try dsimp only at hSw); go_simp; try with_reducible rfl)
  case restt24 =>
  (try simp only [Act.put]); (repeat first | simp only [List.setIfInBounds_toArray] | simp only [List.set_cons_zero] | simp only [List.set_cons_succ])
  refine wpAnyH_done (by kernel_rfl) ?_ _
  refine NoPanic.normal ?_
  have hb := w3B.out
  clear x0B x1B x2B hS0 hSx1 hSx2 hSw3
  have K3 : Hid (TB2 w w3 tg tu tt) := K2.out.below hb
  have Pp : Hid (PIs w3 w.heap.size p a N c) := Pp.out.below hb
  have Pq : Hid (PIs w3 w1.heap.size ⟨p.id, p.born, p.a, p.b, p.ser, cl⟩ qa qn qc) := Pq.out.below hb
  clear hb HSQ w3B
  obtain ⟨-, p0, p1, p2, p3, p4, p5⟩ := Pp.out.h
  (try simp only at p0 p1 p2 p3 p4 p5)
  obtain ⟨-, q0, q1, q2, q3, q4, q5⟩ := Pq.out.h
  (try simp only at q0 q1 q2 q3 q4 q5)
  have k0 := K3.out.c0
  have k1 := K3.out.c1
  go_wp2_with fail
  clear k0 k1 p0 p1 p2 p3 p4 p5 q0 q1 q2 q3 q4 q5
  have h1 := passEnd_any p a N c w3 HL.out.1 HE.out.2 Pp.out.r
  rw [HE.out.1] at h1
  refine h1.mono ?_
  rintro e w4 ⟨rfl, hb⟩
  have K4 : Hid (TB2 w w4 tg tu tt) := K3.out.below hb
  have Pp : Hid (PIs w4 w.heap.size p a N c) := Pp.out.below hb
  have Pq : Hid (PIs w4 w1.heap.size ⟨p.id, p.born, p.a, p.b, p.ser, cl⟩ qa qn qc) := Pq.out.below hb
  clear h1 hb
  obtain ⟨-, p0, p1, p2, p3, p4, p5⟩ := Pp.out.h
  (try simp only at p0 p1 p2 p3 p4 p5)
  obtain ⟨-, q0, q1, q2, q3, q4, q5⟩ := Pq.out.h
  (try simp only at q0 q1 q2 q3 q4 q5)
  have k0 := K4.out.c0
  have k1 := K4.out.c1
  go_wp2_with fail
  rw [HMX.out]
  clear k0 k1 p0 p1 p2 p3 p4 p5 q0 q1 q2 q3 q4 q5
  have h1 := pZHas_any p a N c k z _ HL.out.1 HL.out.2 Pp.out.k Pp.out.z Pp.out.r
  rw [HV.out.2.1, HV.out.2.2.1] at h1
  refine h1.mono ?_
  rintro e w5 ⟨rfl, hb⟩
  have K5 : Hid (TB2 w w5 tg tu tt) := K4.out.below hb
  have Pp : Hid (PIs w5 w.heap.size p a N c) := Pp.out.below hb
  have Pq : Hid (PIs w5 w1.heap.size ⟨p.id, p.born, p.a, p.b, p.ser, cl⟩ qa qn qc) := Pq.out.below hb
  clear h1 hb
  obtain ⟨-, p0, p1, p2, p3, p4, p5⟩ := Pp.out.h
  (try simp only at p0 p1 p2 p3 p4 p5)
  obtain ⟨-, q0, q1, q2, q3, q4, q5⟩ := Pq.out.h
  (try simp only at q0 q1 q2 q3 q4 q5)
  have k0 := K5.out.c0
  have k1 := K5.out.c1
  go_wp2_with fail
  clear k0 k1 p0 p1 p2 p3 p4 p5 q0 q1 q2 q3 q4 q5
  have h1 := pZHas_any ⟨p.id, p.born, p.a, p.b, p.ser, cl⟩ qa qn qc k z w5 ql.out.1 (by have := ql.out.2; unfold maxLen; omega) Pq.out.k Pq.out.z Pq.out.r
  rw [HV.out.2.2.2.1, HV.out.2.2.2.2] at h1
  refine h1.mono ?_
  rintro e w6 ⟨rfl, hb⟩
  have K6 : Hid (TB2 w w6 tg tu tt) := K5.out.below hb
  have Pp : Hid (PIs w6 w.heap.size p a N c) := Pp.out.below hb
  have Pq : Hid (PIs w6 w1.heap.size ⟨p.id, p.born, p.a, p.b, p.ser, cl⟩ qa qn qc) := Pq.out.below hb
  clear h1 hb
  cases h
  · simp only [Bool.false_or]
    by_cases y1 : p.a ≤ z
    · by_cases y2 : z ≤ p.b
      · have e1 : decide (p.a ≤ z ∧ z ≤ p.b) = true := decide_eq_true ⟨y1, y2⟩
        by_cases y3 : x ≤ k
        · have e3 : decide (x ≤ k) = true := decide_eq_true y3
          by_cases y4 : k < x + m
          · have e4 : decide (k < x + m) = true := decide_eq_true y4
            simp only [e1, e3, e4, Bool.and_self]
            obtain ⟨-, p0, p1, p2, p3, p4, p5⟩ := Pp.out.h
            (try simp only at p0 p1 p2 p3 p4 p5)
            obtain ⟨-, q0, q1, q2, q3, q4, q5⟩ := Pq.out.h
            (try simp only at q0 q1 q2 q3 q4 q5)
            have k0 := K6.out.c0
            have k1 := K6.out.c1
            go_wp2
            go_ret
            exact ⟨rfl, K6.out.b⟩
          · have e4 : decide (k < x + m) = false := decide_eq_false y4
            simp only [e1, e3, e4, Bool.and_false]
            obtain ⟨-, p0, p1, p2, p3, p4, p5⟩ := Pp.out.h
            (try simp only at p0 p1 p2 p3 p4 p5)
            obtain ⟨-, q0, q1, q2, q3, q4, q5⟩ := Pq.out.h
            (try simp only at q0 q1 q2 q3 q4 q5)
            have k0 := K6.out.c0
            have k1 := K6.out.c1
            go_wp2
            go_ret
            exact ⟨rfl, K6.out.b⟩
        · have e3 : decide (x ≤ k) = false := decide_eq_false y3
          simp only [e1, e3, Bool.false_and, Bool.and_false]
          obtain ⟨-, p0, p1, p2, p3, p4, p5⟩ := Pp.out.h
          (try simp only at p0 p1 p2 p3 p4 p5)
          obtain ⟨-, q0, q1, q2, q3, q4, q5⟩ := Pq.out.h
          (try simp only at q0 q1 q2 q3 q4 q5)
          have k0 := K6.out.c0
          have k1 := K6.out.c1
          go_wp2
          go_ret
          exact ⟨rfl, K6.out.b⟩
      · have e1 : decide (p.a ≤ z ∧ z ≤ p.b) = false := decide_eq_false (fun h => y2 h.2)
        have e2 : decide (z ≤ p.b) = false := decide_eq_false y2
        simp only [e1, Bool.false_and]
        obtain ⟨-, p0, p1, p2, p3, p4, p5⟩ := Pp.out.h
        (try simp only at p0 p1 p2 p3 p4 p5)
        obtain ⟨-, q0, q1, q2, q3, q4, q5⟩ := Pq.out.h
        (try simp only at q0 q1 q2 q3 q4 q5)
        have k0 := K6.out.c0
        have k1 := K6.out.c1
        go_wp2
        go_ret
        exact ⟨rfl, K6.out.b⟩
    · have e1 : decide (p.a ≤ z ∧ z ≤ p.b) = false := decide_eq_false (fun h => y1 h.1)
      have e2 : decide (p.a ≤ z) = false := decide_eq_false y1
      simp only [e1, Bool.false_and]
      obtain ⟨-, p0, p1, p2, p3, p4, p5⟩ := Pp.out.h
      (try simp only at p0 p1 p2 p3 p4 p5)
      obtain ⟨-, q0, q1, q2, q3, q4, q5⟩ := Pq.out.h
      (try simp only at q0 q1 q2 q3 q4 q5)
      have k0 := K6.out.c0
      have k1 := K6.out.c1
      go_wp2
      go_ret
      exact ⟨rfl, K6.out.b⟩
  · simp only [Bool.true_or]
    obtain ⟨-, p0, p1, p2, p3, p4, p5⟩ := Pp.out.h
    (try simp only at p0 p1 p2 p3 p4 p5)
    obtain ⟨-, q0, q1, q2, q3, q4, q5⟩ := Pq.out.h
    (try simp only at q0 q1 q2 q3 q4 q5)
    have k0 := K6.out.c0
    have k1 := K6.out.c1
    go_wp2
    go_ret
    exact ⟨rfl, K6.out.b⟩
theorem renewJoins_any (p : Pz.Pq) (a : Option Addr) (N c : Nat) (n tu tt k z : Int) (w : World) (hN : p.days.length = N) (hl : N ≤ maxLen) (hc : N ≤ c) (hn : a = none → c = 0 ∧ p.days = []) (hw : Laid w) (hr : Row2 w a p.days) :
    Calls Tryd.prog 5 #[pv p a N c, .int .i64 n, .agg #[.int .i64 tu, .int .i64 tt], .int .i64 k, .int .i64 z] w fun e w' => e = .returned (.bool true) ∧ Below w.heap.size w w' := by
  rcases Pz.renew_bad p n tu tt with ⟨d, d0, hv⟩ | ⟨x, y, hv⟩
  · exact renewJoins_bad p a N c n tu tt k z w hN hl hc hn hw hr d d0 hv
  · exact renewJoins_good p a N c n tu tt k z w hN hl hc hn hw hr x y hv
end Go.Proofs.YtandlmnbnjkklaaDoor
