/- The walk of CutHas. -/
import Derived.Test.YtandlmnbnjkklaaDoorLawPass2
import Derived.Test.YtandlmnbnjkklaaDoorOrd
namespace Go.Proofs.YtandlmnbnjkklaaDoor
open Go.RowKit Go.BigFrame

structure JB (w W : World) : Prop where
  b : Below w.heap.size w W
theorem JB.below {w W W' : World} (h : JB w W) (hb : Below W.heap.size W W') : JB w W' := ⟨below_on h.b (Nat.le_refl _) hb⟩
theorem PIs.start (w : World) (p : Pz.Pq) (a : Option Addr) (N c : Nat) (hc : N ≤ c) (hn : a = none → c = 0 ∧ p.days = []) (hr : Row2 w a p.days) : PIs (w.alloc (.cells #[.int .i64 p.id, .int .i64 p.born, .int .i64 p.a, .int .i64 p.b, .int .i64 p.ser, .slice a N c] 24)) w.heap.size p a N c :=
  ⟨Has6.new w p a N c _, hr.below (below_box _ _), hc, hn⟩
namespace Pz
theorem cut_bad (p : Pq) (n : Int) (h : ¬ (chk p = 0 ∧ ¬ noD n)) : ∃ d, d ≠ 0 ∧ cut p n = (⟨0, 0, 0, 0, 0, []⟩, 0, d) := by
  unfold cut
  by_cases h0 : chk p = 0
  · have hd : noD n := Classical.not_not.1 fun e => h ⟨h0, e⟩
    rw [if_pos h0, if_pos hd]
    exact ⟨3, by decide, rfl⟩
  · rw [if_neg h0]
    exact ⟨_, h0, rfl⟩
theorem cut_good (p : Pq) (n : Int) (h : chk p = 0 ∧ ¬ noD n) : cut p n = (⟨p.id, p.born, p.a, p.b, p.ser, cutL p.days n⟩, Spn.size p.days - Spn.size (cutL p.days n), 0) := by
  unfold cut
  rw [if_pos h.1, if_neg h.2]; rfl
theorem cut_chk (p : Pq) (n : Int) (h : chk p = 0) : chk ⟨p.id, p.born, p.a, p.b, p.ser, cutL p.days n⟩ = 0 := (chk_ok _).2 (cut_ok ((chk_ok p).1 h) n)
theorem cut_twice (p : Pq) (n : Int) (h : chk p = 0 ∧ ¬ noD n) : cut ⟨p.id, p.born, p.a, p.b, p.ser, cutL p.days n⟩ n = (⟨p.id, p.born, p.a, p.b, p.ser, cutL p.days n⟩, 0, 0) := by
  rw [cut_good _ n ⟨cut_chk p n h.1, h.2⟩]
  show ((⟨p.id, p.born, p.a, p.b, p.ser, cutL (cutL p.days n) n⟩ : Pq), Spn.size (cutL p.days n) - Spn.size (cutL (cutL p.days n) n), (0 : Int)) = _
  rw [cut_again ((chk_ok p).1 h.1) n, Int.sub_self]
theorem cut_has (p : Pq) (n k z : Int) (h : chk p = 0) : hasB ⟨p.id, p.born, p.a, p.b, p.ser, cutL p.days n⟩ k z = (hasB p k z && decide (k < n)) := by
  unfold hasB
  rw [cut_chk p n h, h]
  show (true && (decide (p.a ≤ z ∧ z ≤ p.b) && Spn.memB (cutL p.days n) k)) = (true && (decide (p.a ≤ z ∧ z ≤ p.b) && Spn.memB p.days k) && decide (k < n))
  rw [cut_mem]
  simp [Bool.and_assoc]
end Pz
/-- a pass, what is left of it, and that cut once more -/
structure CB (w W : World) (p : Pz.Pq) (gq gs : Nat) (cl : List Spn.Sp) (a : Option Addr) (N c : Nat) (qa : Option Addr) (qn qc : Nat) (sa : Option Addr) (sc : Nat) : Prop where
  b : Below w.heap.size w W
  p0 : PIs W w.heap.size p a N c
  q : PIs W gq ⟨p.id, p.born, p.a, p.b, p.ser, cl⟩ qa qn qc
  s : PIs W gs ⟨p.id, p.born, p.a, p.b, p.ser, cl⟩ sa qn sc
theorem CB.on {W' : World} {w W : World} {p : Pz.Pq} {gq gs : Nat} {cl : List Spn.Sp} {a qa sa : Option Addr} {N c qn qc sc : Nat} (h : CB w W p gq gs cl a N c qa qn qc sa sc) (hb : Below W.heap.size W W') : CB w W' p gq gs cl a N c qa qn qc sa sc := ⟨below_on h.b (Nat.le_refl _) hb, h.p0.below hb, h.q.below hb, h.s.below hb⟩
theorem CB.drew {w W : World} {p : Pz.Pq} {gq gs : Nat} {cl : List Spn.Sp} {a qa sa : Option Addr} {N c qn qc sc : Nat} (h : Hid (CB w W p gq gs cl a N c qa qn qc sa sc)) : Hid (CB w W.drew p gq gs cl a N c qa qn qc sa sc) := h.out.on (below_drewN (Below.refl _ _) 1)
theorem CB.S {w W : World} {p : Pz.Pq} {gq gs : Nat} {cl : List Spn.Sp} {a qa sa : Option Addr} {N c qn qc sc : Nat} (h : Hid (CB w W p gq gs cl a N c qa qn qc sa sc)) : W.cell? ⟨w.heap.size, 5, none⟩ = some (.slice a N c) ∧ W.cell? ⟨gq, 0, none⟩ = some (.int .i64 p.id) ∧ W.cell? ⟨gq, 1, none⟩ = some (.int .i64 p.born) ∧ W.cell? ⟨gq, 2, none⟩ = some (.int .i64 p.a) ∧ W.cell? ⟨gq, 3, none⟩ = some (.int .i64 p.b) ∧ W.cell? ⟨gq, 4, none⟩ = some (.int .i64 p.ser) ∧ W.cell? ⟨gq, 5, none⟩ = some (.slice qa qn qc) ∧ W.cell? ⟨gs, 0, none⟩ = some (.int .i64 p.id) ∧ W.cell? ⟨gs, 1, none⟩ = some (.int .i64 p.born) ∧ W.cell? ⟨gs, 2, none⟩ = some (.int .i64 p.a) ∧ W.cell? ⟨gs, 3, none⟩ = some (.int .i64 p.b) ∧ W.cell? ⟨gs, 4, none⟩ = some (.int .i64 p.ser) ∧ W.cell? ⟨gs, 5, none⟩ = some (.slice sa qn sc) ∧ Hid (CB w W p gq gs cl a N c qa qn qc sa sc) :=
  ⟨h.out.p0.h.c5, h.out.q.h.c0, h.out.q.h.c1, h.out.q.h.c2, h.out.q.h.c3, h.out.q.h.c4, h.out.q.h.c5, h.out.s.h.c0, h.out.s.h.c1, h.out.s.h.c2, h.out.s.h.c3, h.out.s.h.c4, h.out.s.h.c5, h⟩
theorem CB.rq {w W : World} {p : Pz.Pq} {gq gs : Nat} {cl : List Spn.Sp} {a qa sa : Option Addr} {N c qn qc sc : Nat} (h : Hid (CB w W p gq gs cl a N c qa qn qc sa sc)) : Row2 W qa cl := h.out.q.r
theorem CB.rs {w W : World} {p : Pz.Pq} {gq gs : Nat} {cl : List Spn.Sp} {a qa sa : Option Addr} {N c qn qc sc : Nat} (h : Hid (CB w W p gq gs cl a N c qa qn qc sa sc)) : Row2 W sa cl := h.out.s.r
set_option maxRecDepth 100000 in
set_option maxHeartbeats 16000000 in
theorem cutHas_bad (p : Pz.Pq) (a : Option Addr) (N c : Nat) (n k z : Int) (w : World) (hN : p.days.length = N) (hl : N ≤ maxLen) (hc : N ≤ c) (hn : a = none → c = 0 ∧ p.days = []) (hw : Laid w) (hr : Row2 w a p.days) (hk : ¬ (Pz.chk p = 0 ∧ ¬ Pz.noD n)) :
    Calls Tryd.prog 6 #[pv p a N c, .int .i64 n, .int .i64 k, .int .i64 z] w fun e w' => e = .returned (.bool true) ∧ Below w.heap.size w w' := by
  have K0 : Hid (JB w _) := ⟨below_box w (.cells #[.int .i64 p.id, .int .i64 p.born, .int .i64 p.a, .int .i64 p.b, .int .i64 p.ser, .slice a N c] 24)⟩
  have Pp : Hid (PIs _ w.heap.size p a N c) := PIs.start w p a N c hc hn hr
  have HL : Hid (p.days.length = N ∧ N ≤ maxLen) := ⟨hN, hl⟩
  have HW : Hid (Laid w) := hw
  have p0 := Pp.out.h.c0
  have p1 := Pp.out.h.c1
  have p2 := Pp.out.h.c2
  have p3 := Pp.out.h.c3
  have p4 := Pp.out.h.c4
  have p5 := Pp.out.h.c5
  obtain ⟨d, d0, hce⟩ := Pz.cut_bad p n hk
  have HV : Hid (Pz.cut p n = (⟨0, 0, 0, 0, 0, []⟩, 0, d)) := hce
  have d1 : (d != 0) = true := by simpa using d0
  have d2 : (d == 0) = false := by simpa using d0
  clear hN hl hc hn hw hr hce hk d0
  go_enter Tryd.func6, Tryd.ntmps6
  go_wp2_with fail
  clear p0 p1 p2 p3 p4 p5
  have h1 := pZCut_any p a N c n _ HL.out.1 HL.out.2 Pp.out.k Pp.out.z Pp.out.r
  rw [HV.out] at h1
  refine h1.mono ?_
  rintro e w1 hp
  obtain ⟨qa, qn, qc, rfl, hlen, h64, hc, hn, hr, hb⟩ := rzSay hp
  have ql : Hid ([].length = qn ∧ qn ≤ 64) := ⟨hlen, h64⟩
  have K1 : Hid (JB w (w1.alloc (.cells #[.int .i64 0, .int .i64 0, .int .i64 0, .int .i64 0, .int .i64 0, .slice qa qn qc] 24))) := (K0.out.below hb).below (below_box _ _)
  have Pp : Hid (PIs (w1.alloc (.cells #[.int .i64 0, .int .i64 0, .int .i64 0, .int .i64 0, .int .i64 0, .slice qa qn qc] 24)) w.heap.size p a N c) := (Pp.out.below hb).box _
  have Pq : Hid (PIs (w1.alloc (.cells #[.int .i64 0, .int .i64 0, .int .i64 0, .int .i64 0, .int .i64 0, .slice qa qn qc] 24)) w1.heap.size ⟨0, 0, 0, 0, 0, []⟩ qa qn qc) := PIs.new hc hn hr
  clear hp h1 hc hn hr hb hlen h64
  obtain rfl : qn = 0 := ql.out.1.symm
  obtain ⟨-, p0, p1, p2, p3, p4, p5⟩ := Pp.out.h
  (try simp only at p0 p1 p2 p3 p4 p5)
  obtain ⟨-, q0, q1, q2, q3, q4, q5⟩ := Pq.out.h
  (try simp only at q0 q1 q2 q3 q4 q5)
  go_wp2_with fail
  clear p0 p1 p2 p3 p4 p5 q0 q1 q2 q3 q4 q5
  have h1 := zbegun_any (w1.alloc (.cells #[.int .i64 0, .int .i64 0, .int .i64 0, .int .i64 0, .int .i64 0, .slice qa 0 qc] 24)) (HW.out.below K1.out.b)
  refine h1.mono ?_
  rintro e w2 ⟨rfl, hb⟩
  have K2 : Hid (JB w w2) := K1.out.below hb
  have Pp : Hid (PIs w2 w.heap.size p a N c) := Pp.out.below hb
  have Pq : Hid (PIs w2 w1.heap.size ⟨0, 0, 0, 0, 0, []⟩ qa 0 qc) := Pq.out.below hb
  clear h1 hb
  obtain ⟨-, p0, p1, p2, p3, p4, p5⟩ := Pp.out.h
  (try simp only at p0 p1 p2 p3 p4 p5)
  obtain ⟨-, q0, q1, q2, q3, q4, q5⟩ := Pq.out.h
  (try simp only at q0 q1 q2 q3 q4 q5)
  go_wp2_with fail
  clear p0 p1 p2 p3 p4 p5 q0 q1 q2 q3 q4 q5
  have h1 := samePass_eq ⟨0, 0, 0, 0, 0, []⟩ qa none 0 qc 0 w2 ql.out.1 (by have := ql.out.2; unfold maxLen; omega) Pq.out.r (.inl rfl)
  refine h1.mono ?_
  rintro e w3 ⟨rfl, hb⟩
  have K3 : Hid (JB w w3) := K2.out.below hb
  have Pp : Hid (PIs w3 w.heap.size p a N c) := Pp.out.below hb
  have Pq : Hid (PIs w3 w1.heap.size ⟨0, 0, 0, 0, 0, []⟩ qa 0 qc) := Pq.out.below hb
  clear h1 hb
  obtain ⟨-, p0, p1, p2, p3, p4, p5⟩ := Pp.out.h
  (try simp only at p0 p1 p2 p3 p4 p5)
  obtain ⟨-, q0, q1, q2, q3, q4, q5⟩ := Pq.out.h
  (try simp only at q0 q1 q2 q3 q4 q5)
  go_wp2
  go_ret
  exact ⟨rfl, K3.out.b⟩
set_option maxRecDepth 100000 in
set_option maxHeartbeats 16000000 in
theorem cutHas_good (p : Pz.Pq) (a : Option Addr) (N c : Nat) (n k z : Int) (w : World) (hN : p.days.length = N) (hl : N ≤ maxLen) (hc : N ≤ c) (hn : a = none → c = 0 ∧ p.days = []) (hw : Laid w) (hr : Row2 w a p.days) (hk : Pz.chk p = 0 ∧ ¬ Pz.noD n) :
    Calls Tryd.prog 6 #[pv p a N c, .int .i64 n, .int .i64 k, .int .i64 z] w fun e w' => e = .returned (.bool true) ∧ Below w.heap.size w w' := by
  have K0 : Hid (JB w _) := ⟨below_box w (.cells #[.int .i64 p.id, .int .i64 p.born, .int .i64 p.a, .int .i64 p.b, .int .i64 p.ser, .slice a N c] 24)⟩
  have Pp : Hid (PIs _ w.heap.size p a N c) := PIs.start w p a N c hc hn hr
  have HL : Hid (p.days.length = N ∧ N ≤ maxLen) := ⟨hN, hl⟩
  have HW : Hid (Laid w) := hw
  have p0 := Pp.out.h.c0
  have p1 := Pp.out.h.c1
  have p2 := Pp.out.h.c2
  have p3 := Pp.out.h.c3
  have p4 := Pp.out.h.c4
  have p5 := Pp.out.h.c5
  obtain ⟨cl, hcl⟩ : ∃ cl, Pz.cutL p.days n = cl := ⟨_, rfl⟩
  obtain ⟨A, hA⟩ : ∃ A, Spn.size p.days = A := ⟨_, rfl⟩
  obtain ⟨B, hB⟩ : ∃ B, Spn.size cl = B := ⟨_, rfl⟩
  obtain ⟨h, hh⟩ : ∃ h, Pz.hasB p k z = h := ⟨_, rfl⟩
  have hok := (Pz.chk_ok p).1 hk.1
  have hok2 := (Pz.chk_ok _).1 (Pz.cut_chk p n hk.1)
  have f1 := Pz.cut_good p n hk
  have f2 := Pz.cut_chk p n hk.1
  have f3 := Pz.cut_twice p n hk
  have f4 := Pz.cut_has p n k z hk.1
  have f5 := Spn.size_chk _ hok.sp
  have f6 := Spn.size_chk _ hok2.sp
  have f7 := hok2.sp
  rw [hcl, hA, hB] at f1
  rw [hcl] at f2 f3 f4
  simp only [hcl] at f6 f7
  rw [hA] at f5
  rw [hB] at f6
  rw [hh] at f4
  have HV : Hid (Pz.cut p n = (⟨p.id, p.born, p.a, p.b, p.ser, cl⟩, A - B, 0) ∧ Pz.hasB p k z = h ∧ Pz.chk p = 0 ∧ Pz.hasB ⟨p.id, p.born, p.a, p.b, p.ser, cl⟩ k z = (h && decide (k < n)) ∧ Pz.chk ⟨p.id, p.born, p.a, p.b, p.ser, cl⟩ = 0 ∧ Pz.cut ⟨p.id, p.born, p.a, p.b, p.ser, cl⟩ n = (⟨p.id, p.born, p.a, p.b, p.ser, cl⟩, 0, 0)) := ⟨f1, hh, hk.1, f4, f2, f3⟩
  have HS : Hid (Spn.chk p.days = 0 ∧ Spn.size p.days = A ∧ Spn.chk cl = 0 ∧ Spn.size cl = B) := ⟨hok.sp, hA, f7, hB⟩
  have hw1 : IntKind.i64.wrap (A - B) = A - B := by rw [IntKind.wrap_i64]; omega
  clear hN hl hc hn hw hr hk hcl hA hB hh hok hok2 f1 f2 f3 f4 f5 f6 f7
  go_enter Tryd.func6, Tryd.ntmps6
  go_wp2_with fail
  clear p0 p1 p2 p3 p4 p5
  have h1 := pZCut_any p a N c n _ HL.out.1 HL.out.2 Pp.out.k Pp.out.z Pp.out.r
  rw [HV.out.1] at h1
  refine h1.mono ?_
  rintro e w1 hp
  obtain ⟨qa, qn, qc, rfl, hlen, h64, hc, hn, hr, hb⟩ := rzSay hp
  have ql : Hid (cl.length = qn ∧ qn ≤ 64) := ⟨hlen, h64⟩
  have K1 : Hid (JB w (w1.alloc (.cells #[.int .i64 p.id, .int .i64 p.born, .int .i64 p.a, .int .i64 p.b, .int .i64 p.ser, .slice qa qn qc] 24))) := (K0.out.below hb).below (below_box _ _)
  have Pp : Hid (PIs (w1.alloc (.cells #[.int .i64 p.id, .int .i64 p.born, .int .i64 p.a, .int .i64 p.b, .int .i64 p.ser, .slice qa qn qc] 24)) w.heap.size p a N c) := (Pp.out.below hb).box _
  have Pq : Hid (PIs (w1.alloc (.cells #[.int .i64 p.id, .int .i64 p.born, .int .i64 p.a, .int .i64 p.b, .int .i64 p.ser, .slice qa qn qc] 24)) w1.heap.size ⟨p.id, p.born, p.a, p.b, p.ser, cl⟩ qa qn qc) := PIs.new hc hn hr
  clear hp h1 hc hn hr hb hlen h64
  obtain ⟨-, p0, p1, p2, p3, p4, p5⟩ := Pp.out.h
  (try simp only at p0 p1 p2 p3 p4 p5)
  obtain ⟨-, q0, q1, q2, q3, q4, q5⟩ := Pq.out.h
  (try simp only at q0 q1 q2 q3 q4 q5)
  go_wp2_with fail
  clear p0 p1 p2 p3 p4 p5 q0 q1 q2 q3 q4 q5
  have h1 := zbegun_any (w1.alloc (.cells #[.int .i64 p.id, .int .i64 p.born, .int .i64 p.a, .int .i64 p.b, .int .i64 p.ser, .slice qa qn qc] 24)) (HW.out.below K1.out.b)
  refine h1.mono ?_
  rintro e w2 ⟨rfl, hb⟩
  have K2 : Hid (JB w w2) := K1.out.below hb
  have Pp : Hid (PIs w2 w.heap.size p a N c) := Pp.out.below hb
  have Pq : Hid (PIs w2 w1.heap.size ⟨p.id, p.born, p.a, p.b, p.ser, cl⟩ qa qn qc) := Pq.out.below hb
  clear h1 hb
  obtain ⟨-, p0, p1, p2, p3, p4, p5⟩ := Pp.out.h
  (try simp only at p0 p1 p2 p3 p4 p5)
  obtain ⟨-, q0, q1, q2, q3, q4, q5⟩ := Pq.out.h
  (try simp only at q0 q1 q2 q3 q4 q5)
  go_wp2_with fail
  clear p0 p1 p2 p3 p4 p5 q0 q1 q2 q3 q4 q5
  have h1 := pZHas_any p a N c k z _ HL.out.1 HL.out.2 Pp.out.k Pp.out.z Pp.out.r
  rw [HV.out.2.1, HV.out.2.2.1] at h1
  refine h1.mono ?_
  rintro e w3 ⟨rfl, hb⟩
  have K3 : Hid (JB w w3) := K2.out.below hb
  have Pp : Hid (PIs w3 w.heap.size p a N c) := Pp.out.below hb
  have Pq : Hid (PIs w3 w1.heap.size ⟨p.id, p.born, p.a, p.b, p.ser, cl⟩ qa qn qc) := Pq.out.below hb
  clear h1 hb
  obtain ⟨-, p0, p1, p2, p3, p4, p5⟩ := Pp.out.h
  (try simp only at p0 p1 p2 p3 p4 p5)
  obtain ⟨-, q0, q1, q2, q3, q4, q5⟩ := Pq.out.h
  (try simp only at q0 q1 q2 q3 q4 q5)
  go_wp2_with fail
  clear p0 p1 p2 p3 p4 p5 q0 q1 q2 q3 q4 q5
  have h1 := pZHas_any ⟨p.id, p.born, p.a, p.b, p.ser, cl⟩ qa qn qc k z w3 ql.out.1 (by have := ql.out.2; unfold maxLen; omega) Pq.out.k Pq.out.z Pq.out.r
  rw [HV.out.2.2.2.1, HV.out.2.2.2.2.1] at h1
  refine h1.mono ?_
  rintro e w4 ⟨rfl, hb⟩
  have K4 : Hid (JB w w4) := K3.out.below hb
  have Pp : Hid (PIs w4 w.heap.size p a N c) := Pp.out.below hb
  have Pq : Hid (PIs w4 w1.heap.size ⟨p.id, p.born, p.a, p.b, p.ser, cl⟩ qa qn qc) := Pq.out.below hb
  clear h1 hb
  obtain ⟨-, p0, p1, p2, p3, p4, p5⟩ := Pp.out.h
  (try simp only at p0 p1 p2 p3 p4 p5)
  obtain ⟨-, q0, q1, q2, q3, q4, q5⟩ := Pq.out.h
  (try simp only at q0 q1 q2 q3 q4 q5)
  go_wp2_with fail
  clear p0 p1 p2 p3 p4 p5 q0 q1 q2 q3 q4 q5
  have h1 := pZCut_any ⟨p.id, p.born, p.a, p.b, p.ser, cl⟩ qa qn qc n w4 ql.out.1 (by have := ql.out.2; unfold maxLen; omega) Pq.out.k Pq.out.z Pq.out.r
  rw [HV.out.2.2.2.2.2] at h1
  refine h1.mono ?_
  rintro e w5 hp
  obtain ⟨sa, sn, sc, rfl, hlen, h64, hc, hn, hr, hb⟩ := rzSay hp
  obtain rfl : qn = sn := ql.out.1.symm.trans hlen
  have K5 : Hid (JB w (w5.alloc (.cells #[.int .i64 p.id, .int .i64 p.born, .int .i64 p.a, .int .i64 p.b, .int .i64 p.ser, .slice sa qn sc] 24))) := (K4.out.below hb).below (below_box _ _)
  have Pp : Hid (PIs (w5.alloc (.cells #[.int .i64 p.id, .int .i64 p.born, .int .i64 p.a, .int .i64 p.b, .int .i64 p.ser, .slice sa qn sc] 24)) w.heap.size p a N c) := (Pp.out.below hb).box _
  have Pq : Hid (PIs (w5.alloc (.cells #[.int .i64 p.id, .int .i64 p.born, .int .i64 p.a, .int .i64 p.b, .int .i64 p.ser, .slice sa qn sc] 24)) w1.heap.size ⟨p.id, p.born, p.a, p.b, p.ser, cl⟩ qa qn qc) := (Pq.out.below hb).box _
  have Ps : Hid (PIs (w5.alloc (.cells #[.int .i64 p.id, .int .i64 p.born, .int .i64 p.a, .int .i64 p.b, .int .i64 p.ser, .slice sa qn sc] 24)) w5.heap.size ⟨p.id, p.born, p.a, p.b, p.ser, cl⟩ sa qn sc) := PIs.new hc hn hr
  clear hp h1 hc hn hr hb hlen h64
  cases h
  · skip
    simp only [Bool.false_and]
    obtain ⟨-, p0, p1, p2, p3, p4, p5⟩ := Pp.out.h
    (try simp only at p0 p1 p2 p3 p4 p5)
    obtain ⟨-, q0, q1, q2, q3, q4, q5⟩ := Pq.out.h
    (try simp only at q0 q1 q2 q3 q4 q5)
    obtain ⟨-, s0, s1, s2, s3, s4, s5⟩ := Ps.out.h
    (try simp only at s0 s1 s2 s3 s4 s5)
    go_wp2_with fail
    have X0 : Hid (CB w (w5.alloc (.cells #[.int .i64 p.id, .int .i64 p.born, .int .i64 p.a, .int .i64 p.b, .int .i64 p.ser, .slice sa qn sc] 24)) p w1.heap.size w5.heap.size cl a N c qa qn qc sa sc) := ⟨K5.out.b, Pp.out, Pq.out, Ps.out⟩
    have X0d := CB.drew X0
    clear p0 p1 p2 p3 p4 p5 q0 q1 q2 q3 q4 q5 s0 s1 s2 s3 s4 s5
    clear Pp Pq Ps K0 K1 K2 K3 K4 K5
    refine wp_region_noPanic ?_
    refine ord_region (S := fun W => W.cell? ⟨w.heap.size, 5, none⟩ = some (.slice a N c) ∧ W.cell? ⟨w1.heap.size, 0, none⟩ = some (.int .i64 p.id) ∧ W.cell? ⟨w1.heap.size, 1, none⟩ = some (.int .i64 p.born) ∧ W.cell? ⟨w1.heap.size, 2, none⟩ = some (.int .i64 p.a) ∧ W.cell? ⟨w1.heap.size, 3, none⟩ = some (.int .i64 p.b) ∧ W.cell? ⟨w1.heap.size, 4, none⟩ = some (.int .i64 p.ser) ∧ W.cell? ⟨w1.heap.size, 5, none⟩ = some (.slice qa qn qc) ∧ W.cell? ⟨w5.heap.size, 0, none⟩ = some (.int .i64 p.id) ∧ W.cell? ⟨w5.heap.size, 1, none⟩ = some (.int .i64 p.born) ∧ W.cell? ⟨w5.heap.size, 2, none⟩ = some (.int .i64 p.a) ∧ W.cell? ⟨w5.heap.size, 3, none⟩ = some (.int .i64 p.b) ∧ W.cell? ⟨w5.heap.size, 4, none⟩ = some (.int .i64 p.ser) ∧ W.cell? ⟨w5.heap.size, 5, none⟩ = some (.slice sa qn sc) ∧ Hid (CB w W p w1.heap.size w5.heap.size cl a N c qa qn qc sa sc)) (by kernel_rfl) (CB.S X0d) ?_
    intro hS0
    clear X0
    generalize World.drew _ = u0 at *
    refine ord_take (i := 0) (d := some 58) (v := ?vt0x1) rfl rfl (by kernel_rfl) (by kernel_rfl) (by kernel_rfl) (fun _ _ _ h => h) (by rfl) ?hyt0x1 (by assumption) ?restt0x1
    case hyt0x1 => (intro w' hSw; (try dsimp only at hSw); go_simp; try with_reducible rfl)
    case restt0x1 =>
    (try simp only [Act.put]); (repeat first | simp only [List.setIfInBounds_toArray] | simp only [List.set_cons_zero] | simp only [List.set_cons_succ])
    refine ord_take (i := 1) (d := some 59) (v := ?vt1x2) rfl rfl (by kernel_rfl) (by kernel_rfl) (by kernel_rfl) (fun _ _ _ h => h) (by rfl) ?hyt1x2 (by assumption) ?restt1x2
    case hyt1x2 => (intro w' hSw; (try dsimp only at hSw); go_simp; try with_reducible rfl)
    case restt1x2 =>
    (try simp only [Act.put]); (repeat first | simp only [List.setIfInBounds_toArray] | simp only [List.set_cons_zero] | simp only [List.set_cons_succ])
    refine ord_take (i := 2) (d := some 60) (v := ?vt2x3) rfl rfl (by kernel_rfl) (by kernel_rfl) (by kernel_rfl) (fun _ _ _ h => h) (by rfl) ?hyt2x3 (by assumption) ?restt2x3
    case hyt2x3 => (intro w' hSw; (try dsimp only at hSw); go_simp; try with_reducible rfl)
    case restt2x3 =>
    (try simp only [Act.put]); (repeat first | simp only [List.setIfInBounds_toArray] | simp only [List.set_cons_zero] | simp only [List.set_cons_succ])
    refine ord_take (i := 3) (d := some 61) (v := ?vt3x4) rfl rfl (by kernel_rfl) (by kernel_rfl) (by kernel_rfl) (fun _ _ _ h => h) (by rfl) ?hyt3x4 (by assumption) ?restt3x4
    case hyt3x4 => (intro w' hSw; (try dsimp only at hSw); go_simp; try with_reducible rfl)
    case restt3x4 =>
    (try simp only [Act.put]); (repeat first | simp only [List.setIfInBounds_toArray] | simp only [List.set_cons_zero] | simp only [List.set_cons_succ])
    refine ord_take (i := 4) (d := some 62) (v := ?vt4x5) rfl rfl (by kernel_rfl) (by kernel_rfl) (by kernel_rfl) (fun _ _ _ h => h) (by rfl) ?hyt4x5 (by assumption) ?restt4x5
    case hyt4x5 => (intro w' hSw; (try dsimp only at hSw); go_simp; try with_reducible rfl)
    case restt4x5 =>
    (try simp only [Act.put]); (repeat first | simp only [List.setIfInBounds_toArray] | simp only [List.set_cons_zero] | simp only [List.set_cons_succ])
    refine ord_take (i := 5) (d := some 63) (v := ?vt5x6) rfl rfl (by kernel_rfl) (by kernel_rfl) (by kernel_rfl) (fun _ _ _ h => h) (by rfl) ?hyt5x6 (by assumption) ?restt5x6
    case hyt5x6 => (intro w' hSw; (try dsimp only at hSw); go_simp; try with_reducible rfl)
    case restt5x6 =>
    (try simp only [Act.put]); (repeat first | simp only [List.setIfInBounds_toArray] | simp only [List.set_cons_zero] | simp only [List.set_cons_succ])
    refine ord_take (i := 6) (d := some 64) (v := ?vt6x7) rfl rfl (by kernel_rfl) (by kernel_rfl) (by kernel_rfl) (fun _ _ _ h => h) (by rfl) ?hyt6x7 (by assumption) ?restt6x7
    case hyt6x7 => (intro w' hSw; (try dsimp only at hSw); go_simp; try with_reducible rfl)
    case restt6x7 =>
    (try simp only [Act.put]); (repeat first | simp only [List.setIfInBounds_toArray] | simp only [List.set_cons_zero] | simp only [List.set_cons_succ])
    refine ord_take (i := 7) (d := some 65) (v := ?vt7x8) rfl rfl (by kernel_rfl) (by kernel_rfl) (by kernel_rfl) (fun _ _ _ h => h) (by rfl) ?hyt7x8 (by assumption) ?restt7x8
    case hyt7x8 => (intro w' hSw; (try dsimp only at hSw); go_simp; try with_reducible rfl)
    case restt7x8 =>
    (try simp only [Act.put]); (repeat first | simp only [List.setIfInBounds_toArray] | simp only [List.set_cons_zero] | simp only [List.set_cons_succ])
    refine ord_take (i := 8) (d := some 66) (v := ?vt8x9) rfl rfl (by kernel_rfl) (by kernel_rfl) (by kernel_rfl) (fun _ _ _ h => h) (by rfl) ?hyt8x9 (by assumption) ?restt8x9
    case hyt8x9 => (intro w' hSw; (try dsimp only at hSw); go_simp; try with_reducible rfl)
    case restt8x9 =>
    (try simp only [Act.put]); (repeat first | simp only [List.setIfInBounds_toArray] | simp only [List.set_cons_zero] | simp only [List.set_cons_succ])
    refine ord_take (i := 9) (d := some 67) (v := ?vt9x10) rfl rfl (by kernel_rfl) (by kernel_rfl) (by kernel_rfl) (fun _ _ _ h => h) (by rfl) ?hyt9x10 (by assumption) ?restt9x10
    case hyt9x10 => (intro w' hSw; (try dsimp only at hSw); go_simp; try with_reducible rfl)
    case restt9x10 =>
    (try simp only [Act.put]); (repeat first | simp only [List.setIfInBounds_toArray] | simp only [List.set_cons_zero] | simp only [List.set_cons_succ])
    refine ord_untake (i := 10) (d := some 68) rfl rfl (by kernel_rfl) (by kernel_rfl) (by kernel_rfl) (fun _ _ _ h => h) (by rfl) (by assumption) ?_
    (try simp only [Act.put]); (repeat first | simp only [List.setIfInBounds_toArray] | simp only [List.set_cons_zero] | simp only [List.set_cons_succ])
    refine ord_untake (i := 11) (d := some 69) rfl rfl (by kernel_rfl) (by kernel_rfl) (by kernel_rfl) (fun _ _ _ h => h) (by rfl) (by assumption) ?_
    (try simp only [Act.put]); (repeat first | simp only [List.setIfInBounds_toArray] | simp only [List.set_cons_zero] | simp only [List.set_cons_succ])
    refine ord_untake (i := 12) (d := some 70) rfl rfl (by kernel_rfl) (by kernel_rfl) (by kernel_rfl) (fun _ _ _ h => h) (by rfl) (by assumption) ?_
    (try simp only [Act.put]); (repeat first | simp only [List.setIfInBounds_toArray] | simp only [List.set_cons_zero] | simp only [List.set_cons_succ])
    refine ord_take (i := 13) (d := some 71) (v := ?vt13x11) rfl rfl (by kernel_rfl) (by kernel_rfl) (by kernel_rfl) (fun _ _ _ h => h) (by rfl) ?hyt13x11 (by assumption) ?restt13x11
    case hyt13x11 => (intro w' hSw; (try dsimp only at hSw); go_simp; try with_reducible rfl)
    case restt13x11 =>
    (try simp only [Act.put]); (repeat first | simp only [List.setIfInBounds_toArray] | simp only [List.set_cons_zero] | simp only [List.set_cons_succ])
    refine ord_take (i := 14) (d := some 72) (v := ?vt14x12) rfl rfl (by kernel_rfl) (by kernel_rfl) (by kernel_rfl) (fun _ _ _ h => h) (by rfl) ?hyt14x12 (by assumption) ?restt14x12
    case hyt14x12 => (intro w' hSw; (try dsimp only at hSw); go_simp; try with_reducible rfl)
    case restt14x12 =>
    (try simp only [Act.put]); (repeat first | simp only [List.setIfInBounds_toArray] | simp only [List.set_cons_zero] | simp only [List.set_cons_succ])
    refine ord_take (i := 15) (d := some 73) (v := ?vt15x13) rfl rfl (by kernel_rfl) (by kernel_rfl) (by kernel_rfl) (fun _ _ _ h => h) (by rfl) ?hyt15x13 (by assumption) ?restt15x13
    case hyt15x13 => (intro w' hSw; (try dsimp only at hSw); go_simp; try with_reducible rfl)
    case restt15x13 =>
    (try simp only [Act.put]); (repeat first | simp only [List.setIfInBounds_toArray] | simp only [List.set_cons_zero] | simp only [List.set_cons_succ])
    refine ord_take (i := 16) (d := some 74) (v := ?vt16x14) rfl rfl (by kernel_rfl) (by kernel_rfl) (by kernel_rfl) (fun _ _ _ h => h) (by rfl) ?hyt16x14 (by assumption) ?restt16x14
    case hyt16x14 => (intro w' hSw; (try dsimp only at hSw); go_simp; try with_reducible rfl)
    case restt16x14 =>
    (try simp only [Act.put]); (repeat first | simp only [List.setIfInBounds_toArray] | simp only [List.set_cons_zero] | simp only [List.set_cons_succ])
    refine ord_take (i := 17) (d := some 75) (v := ?vt17x15) rfl rfl (by kernel_rfl) (by kernel_rfl) (by kernel_rfl) (fun _ _ _ h => h) (by rfl) ?hyt17x15 (by assumption) ?restt17x15
    case hyt17x15 => (intro w' hSw; (try dsimp only at hSw); go_simp; try with_reducible rfl)
    case restt17x15 =>
    (try simp only [Act.put]); (repeat first | simp only [List.setIfInBounds_toArray] | simp only [List.set_cons_zero] | simp only [List.set_cons_succ])
    refine ord_take (i := 18) (d := some 76) (v := ?vt18x16) rfl rfl (by kernel_rfl) (by kernel_rfl) (by kernel_rfl) (fun _ _ _ h => h) (by rfl) ?hyt18x16 (by assumption) ?restt18x16
    case hyt18x16 => (intro w' hSw; (try dsimp only at hSw); go_simp; try with_reducible rfl)
    case restt18x16 =>
    (try simp only [Act.put]); (repeat first | simp only [List.setIfInBounds_toArray] | simp only [List.set_cons_zero] | simp only [List.set_cons_succ])
    refine ord_take (i := 19) (d := some 77) (v := ?vt19x17) rfl rfl (by kernel_rfl) (by kernel_rfl) (by kernel_rfl) (fun _ _ _ h => h) (by rfl) ?hyt19x17 (by assumption) ?restt19x17
    case hyt19x17 => (intro w' hSw; (try dsimp only at hSw); go_simp; try with_reducible rfl)
    case restt19x17 =>
    (try simp only [Act.put]); (repeat first | simp only [List.setIfInBounds_toArray] | simp only [List.set_cons_zero] | simp only [List.set_cons_succ])
    refine ord_take (i := 20) (d := some 78) (v := ?vt20x18) rfl rfl (by kernel_rfl) (by kernel_rfl) (by kernel_rfl) (fun _ _ _ h => h) (by rfl) ?hyt20x18 (by assumption) ?restt20x18
    case hyt20x18 => (intro w' hSw; (try dsimp only at hSw); go_simp; try with_reducible rfl)
    case restt20x18 =>
    (try simp only [Act.put]); (repeat first | simp only [List.setIfInBounds_toArray] | simp only [List.set_cons_zero] | simp only [List.set_cons_succ])
    refine ord_take (i := 21) (d := some 79) (v := ?vt21x19) rfl rfl (by kernel_rfl) (by kernel_rfl) (by kernel_rfl) (fun _ _ _ h => h) (by rfl) ?hyt21x19 (by assumption) ?restt21x19
    case hyt21x19 => (intro w' hSw; (try dsimp only at hSw); go_simp; try with_reducible rfl)
    case restt21x19 =>
    (try simp only [Act.put]); (repeat first | simp only [List.setIfInBounds_toArray] | simp only [List.set_cons_zero] | simp only [List.set_cons_succ])
    refine ord_take (i := 22) (d := some 80) (v := ?vt22x20) rfl rfl (by kernel_rfl) (by kernel_rfl) (by kernel_rfl) (fun _ _ _ h => h) (by rfl) ?hyt22x20 (by assumption) ?restt22x20
    case hyt22x20 => (intro w' hSw; (try dsimp only at hSw); go_simp; try with_reducible rfl)
    case restt22x20 =>
    (try simp only [Act.put]); (repeat first | simp only [List.setIfInBounds_toArray] | simp only [List.set_cons_zero] | simp only [List.set_cons_succ])
    refine ord_take (i := 23) (d := some 81) (v := ?vt23x21) rfl rfl (by kernel_rfl) (by kernel_rfl) (by kernel_rfl) (fun _ _ _ h => h) (by rfl) ?hyt23x21 (by assumption) ?restt23x21
    case hyt23x21 => (intro w' hSw; (try dsimp only at hSw); go_simp; try with_reducible rfl)
    case restt23x21 =>
    (try simp only [Act.put]); (repeat first | simp only [List.setIfInBounds_toArray] | simp only [List.set_cons_zero] | simp only [List.set_cons_succ])
    refine ord_take (i := 24) (d := some 82) (v := ?vt24x22) rfl rfl (by kernel_rfl) (by kernel_rfl) (by kernel_rfl) (fun _ _ _ h => h) (by rfl) ?hyt24x22 (by assumption) ?restt24x22
    case hyt24x22 => (intro w' hSw; (try dsimp only at hSw); go_simp; try with_reducible rfl)
    case restt24x22 =>
    (try simp only [Act.put]); (repeat first | simp only [List.setIfInBounds_toArray] | simp only [List.set_cons_zero] | simp only [List.set_cons_succ])
    refine ord_take (i := 25) (d := some 83) (v := ?vt25x23) rfl rfl (by kernel_rfl) (by kernel_rfl) (by kernel_rfl) (fun _ _ _ h => h) (by rfl) ?hyt25x23 (by assumption) ?restt25x23
    case hyt25x23 => (intro w' hSw; (try dsimp only at hSw); go_simp; try with_reducible rfl)
    case restt25x23 =>
    (try simp only [Act.put]); (repeat first | simp only [List.setIfInBounds_toArray] | simp only [List.set_cons_zero] | simp only [List.set_cons_succ])
    refine ord_take (i := 26) (d := some 84) (v := ?vt26x24) rfl rfl (by kernel_rfl) (by kernel_rfl) (by kernel_rfl) (fun _ _ _ h => h) (by rfl) ?hyt26x24 (by assumption) ?restt26x24
    case hyt26x24 => (intro w' hSw; (try dsimp only at hSw); go_simp; try with_reducible rfl)
    case restt26x24 =>
    (try simp only [Act.put]); (repeat first | simp only [List.setIfInBounds_toArray] | simp only [List.set_cons_zero] | simp only [List.set_cons_succ])
    refine ord_only (i := 27) rfl (by kernel_rfl) (by rfl) ?_
    refine ord_call (d := some 85) (f := 18) (args := #[pv ⟨p.id, p.born, p.a, p.b, p.ser, cl⟩ sa qn sc, pv ⟨p.id, p.born, p.a, p.b, p.ser, cl⟩ qa qn qc]) rfl (by go_simp; try with_reducible rfl) (samePass_eq ⟨p.id, p.born, p.a, p.b, p.ser, cl⟩ sa qa qn sc qc u0 ql.out.1 (by have := ql.out.2; unfold maxLen; omega) X0d.out.s.r X0d.out.q.r) ?_
    rintro e u1 ⟨rfl, hb⟩
    have X1 : Hid (CB w u1 p w1.heap.size w5.heap.size cl a N c qa qn qc sa sc) := X0d.out.on hb
    clear hb
    refine ⟨_, rfl, CB.S X1, ?_⟩
    have hSu1 := CB.S X1
    (try simp only [Act.put]); (repeat first | simp only [List.setIfInBounds_toArray] | simp only [List.set_cons_zero] | simp only [List.set_cons_succ])
    refine ord_take (i := 28) (d := some 86) (v := ?vt28x25) rfl rfl (by kernel_rfl) (by kernel_rfl) (by kernel_rfl) (fun _ _ _ h => h) (by rfl) ?hyt28x25 (by assumption) ?restt28x25
    case hyt28x25 => (intro w' hSw; (try dsimp only at hSw); go_simp; try with_reducible rfl)
    case restt28x25 =>
    (try simp only [Act.put]); (repeat first | simp only [List.setIfInBounds_toArray] | simp only [List.set_cons_zero] | simp only [List.set_cons_succ])
    refine ord_take (i := 29) (d := some 87) (v := ?vt29x26) rfl rfl (by kernel_rfl) (by kernel_rfl) (by kernel_rfl) (fun _ _ _ h => h) (by rfl) ?hyt29x26 (by assumption) ?restt29x26
    case hyt29x26 => (intro w' hSw; (try dsimp only at hSw); go_simp; try with_reducible rfl)
    case restt29x26 =>
    (try simp only [Act.put]); (repeat first | simp only [List.setIfInBounds_toArray] | simp only [List.set_cons_zero] | simp only [List.set_cons_succ])
    refine ord_take (i := 30) (d := some 88) (v := ?vt30x27) rfl rfl (by kernel_rfl) (by kernel_rfl) (by kernel_rfl) (fun _ _ _ h => h) (by rfl) ?hyt30x27 (by assumption) ?restt30x27
    case hyt30x27 => (intro w' hSw; (try dsimp only at hSw); go_simp; try with_reducible rfl)
    case restt30x27 =>
    (try simp only [Act.put]); (repeat first | simp only [List.setIfInBounds_toArray] | simp only [List.set_cons_zero] | simp only [List.set_cons_succ])
    refine ord_take (i := 31) (d := some 89) (v := ?vt31x28) rfl rfl (by kernel_rfl) (by kernel_rfl) (by kernel_rfl) (fun _ _ _ h => h) (by rfl) ?hyt31x28 (by assumption) ?restt31x28
    case hyt31x28 => (intro w' hSw; (try dsimp only at hSw); go_simp; try with_reducible rfl)
    case restt31x28 =>
    (try simp only [Act.put]); (repeat first | simp only [List.setIfInBounds_toArray] | simp only [List.set_cons_zero] | simp only [List.set_cons_succ])
    refine ord_take (i := 33) (d := some 91) (v := ?vt33x29) rfl rfl (by kernel_rfl) (by kernel_rfl) (by kernel_rfl) (fun _ _ _ h => h) (by rfl) ?hyt33x29 (by assumption) ?restt33x29
    case hyt33x29 => (intro w' hSw; (try dsimp only at hSw); go_simp; try with_reducible rfl)
    case restt33x29 =>
    (try simp only [Act.put]); (repeat first | simp only [List.setIfInBounds_toArray] | simp only [List.set_cons_zero] | simp only [List.set_cons_succ])
    refine ord_take (i := 34) (d := some 92) (v := ?vt34x30) rfl rfl (by kernel_rfl) (by kernel_rfl) (by kernel_rfl) (fun _ _ _ h => h) (by rfl) ?hyt34x30 (by assumption) ?restt34x30
    case hyt34x30 => (intro w' hSw; (try dsimp only at hSw); go_simp; try with_reducible rfl)
    case restt34x30 =>
    (try simp only [Act.put]); (repeat first | simp only [List.setIfInBounds_toArray] | simp only [List.set_cons_zero] | simp only [List.set_cons_succ])
    refine ord_take (i := 37) (d := some 95) (v := ?vt37x31) rfl rfl (by kernel_rfl) (by kernel_rfl) (by kernel_rfl) (fun _ _ _ h => h) (by rfl) ?hyt37x31 (by assumption) ?restt37x31
    case hyt37x31 => (intro w' hSw; (try dsimp only at hSw); go_simp; try with_reducible rfl)
    case restt37x31 =>
    (try simp only [Act.put]); (repeat first | simp only [List.setIfInBounds_toArray] | simp only [List.set_cons_zero] | simp only [List.set_cons_succ])
    refine ord_only (i := 32) rfl (by kernel_rfl) (by rfl) ?_
    refine ord_call (d := some 90) (f := 22) (args := #[.slice a N c]) rfl (by go_simp; try with_reducible rfl) (zdays p.days A a N c u1 HL.out.1 HS.out.1 HS.out.2.1 X1.out.p0.r) ?_
    rintro e u2 ⟨rfl, hb⟩
    have X2 : Hid (CB w u2 p w1.heap.size w5.heap.size cl a N c qa qn qc sa sc) := X1.out.on hb
    clear hb
    refine ⟨_, rfl, CB.S X2, ?_⟩
    have hSu2 := CB.S X2
    (try simp only [Act.put]); (repeat first | simp only [List.setIfInBounds_toArray] | simp only [List.set_cons_zero] | simp only [List.set_cons_succ])
    refine ord_only (i := 35) rfl (by kernel_rfl) (by rfl) ?_
    refine ord_call (d := some 93) (f := 22) (args := #[.slice qa qn qc]) rfl (by go_simp; try with_reducible rfl) (zdays cl B qa qn qc u2 ql.out.1 HS.out.2.2.1 HS.out.2.2.2 X2.out.q.r) ?_
    rintro e u3 ⟨rfl, hb⟩
    have X3 : Hid (CB w u3 p w1.heap.size w5.heap.size cl a N c qa qn qc sa sc) := X2.out.on hb
    clear hb
    refine ⟨_, rfl, CB.S X3, ?_⟩
    have hSu3 := CB.S X3
    (try simp only [Act.put]); (repeat first | simp only [List.setIfInBounds_toArray] | simp only [List.set_cons_zero] | simp only [List.set_cons_succ])
    refine ord_take (i := 36) (d := some 94) (v := ?vt36x32) rfl rfl (by kernel_rfl) (by kernel_rfl) (by kernel_rfl) (fun _ _ _ h => h) (by rfl) ?hyt36x32 (by assumption) ?restt36x32
    case hyt36x32 => (intro w' hSw; (try dsimp only at hSw); go_simp; try with_reducible rfl)
    case restt36x32 =>
    (try simp only [Act.put]); (repeat first | simp only [List.setIfInBounds_toArray] | simp only [List.set_cons_zero] | simp only [List.set_cons_succ])
    refine ord_take (i := 38) (d := some 96) (v := ?vt38x33) rfl rfl (by kernel_rfl) (by kernel_rfl) (by kernel_rfl) (fun _ _ _ h => h) (by rfl) ?hyt38x33 (by assumption) ?restt38x33
    case hyt38x33 => (intro w' hSw; (try dsimp only at hSw); go_simp; try with_reducible rfl)
    case restt38x33 =>
    (try simp only [Act.put]); (repeat first | simp only [List.setIfInBounds_toArray] | simp only [List.set_cons_zero] | simp only [List.set_cons_succ])
    refine ord_take (i := 39) (d := some 97) (v := ?vt39x34) rfl rfl (by kernel_rfl) (by kernel_rfl) (by kernel_rfl) (fun _ _ _ h => h) (by rfl) ?hyt39x34 (by assumption) ?restt39x34
    case hyt39x34 => (intro w' hSw; (try dsimp only at hSw); go_simp; try with_reducible rfl)
    case restt39x34 =>
    (try simp only [Act.put]); (repeat first | simp only [List.setIfInBounds_toArray] | simp only [List.set_cons_zero] | simp only [List.set_cons_succ])
    refine ord_take (i := 40) (d := some 8) (v := ?vt40x35) rfl rfl (by kernel_rfl) (by kernel_rfl) (by kernel_rfl) (fun _ _ _ h => h) (by rfl) ?hyt40x35 (by assumption) ?restt40x35
    case hyt40x35 => (intro w' hSw; (try dsimp only at hSw); go_simp; try with_reducible rfl)
    case restt40x35 =>
    (try simp only [Act.put]); (repeat first | simp only [List.setIfInBounds_toArray] | simp only [List.set_cons_zero] | simp only [List.set_cons_succ])
    refine wpAnyH_done (by kernel_rfl) ?_ _
    refine NoPanic.normal ?_
    go_wp2
    go_ret
    exact ⟨rfl, X3.out.b⟩
  · by_cases hkn : k < n
    · skip
      have hkn2 : decide (k < n) = true := decide_eq_true hkn
      simp only [Bool.true_and, hkn2]
      obtain ⟨-, p0, p1, p2, p3, p4, p5⟩ := Pp.out.h
      (try simp only at p0 p1 p2 p3 p4 p5)
      obtain ⟨-, q0, q1, q2, q3, q4, q5⟩ := Pq.out.h
      (try simp only at q0 q1 q2 q3 q4 q5)
      obtain ⟨-, s0, s1, s2, s3, s4, s5⟩ := Ps.out.h
      (try simp only at s0 s1 s2 s3 s4 s5)
      go_wp2_with fail
      have X0 : Hid (CB w (w5.alloc (.cells #[.int .i64 p.id, .int .i64 p.born, .int .i64 p.a, .int .i64 p.b, .int .i64 p.ser, .slice sa qn sc] 24)) p w1.heap.size w5.heap.size cl a N c qa qn qc sa sc) := ⟨K5.out.b, Pp.out, Pq.out, Ps.out⟩
      have X0d := CB.drew X0
      clear p0 p1 p2 p3 p4 p5 q0 q1 q2 q3 q4 q5 s0 s1 s2 s3 s4 s5
      clear Pp Pq Ps K0 K1 K2 K3 K4 K5
      refine wp_region_noPanic ?_
      refine ord_region (S := fun W => W.cell? ⟨w.heap.size, 5, none⟩ = some (.slice a N c) ∧ W.cell? ⟨w1.heap.size, 0, none⟩ = some (.int .i64 p.id) ∧ W.cell? ⟨w1.heap.size, 1, none⟩ = some (.int .i64 p.born) ∧ W.cell? ⟨w1.heap.size, 2, none⟩ = some (.int .i64 p.a) ∧ W.cell? ⟨w1.heap.size, 3, none⟩ = some (.int .i64 p.b) ∧ W.cell? ⟨w1.heap.size, 4, none⟩ = some (.int .i64 p.ser) ∧ W.cell? ⟨w1.heap.size, 5, none⟩ = some (.slice qa qn qc) ∧ W.cell? ⟨w5.heap.size, 0, none⟩ = some (.int .i64 p.id) ∧ W.cell? ⟨w5.heap.size, 1, none⟩ = some (.int .i64 p.born) ∧ W.cell? ⟨w5.heap.size, 2, none⟩ = some (.int .i64 p.a) ∧ W.cell? ⟨w5.heap.size, 3, none⟩ = some (.int .i64 p.b) ∧ W.cell? ⟨w5.heap.size, 4, none⟩ = some (.int .i64 p.ser) ∧ W.cell? ⟨w5.heap.size, 5, none⟩ = some (.slice sa qn sc) ∧ Hid (CB w W p w1.heap.size w5.heap.size cl a N c qa qn qc sa sc)) (by kernel_rfl) (CB.S X0d) ?_
      intro hS0
      clear X0
      generalize World.drew _ = u0 at *
      refine ord_take (i := 0) (d := some 58) (v := ?vt0x36) rfl rfl (by kernel_rfl) (by kernel_rfl) (by kernel_rfl) (fun _ _ _ h => h) (by rfl) ?hyt0x36 (by assumption) ?restt0x36
      case hyt0x36 => (intro w' hSw; (try dsimp only at hSw); go_simp; try with_reducible rfl)
      case restt0x36 =>
      (try simp only [Act.put]); (repeat first | simp only [List.setIfInBounds_toArray] | simp only [List.set_cons_zero] | simp only [List.set_cons_succ])
      refine ord_take (i := 1) (d := some 59) (v := ?vt1x37) rfl rfl (by kernel_rfl) (by kernel_rfl) (by kernel_rfl) (fun _ _ _ h => h) (by rfl) ?hyt1x37 (by assumption) ?restt1x37
      case hyt1x37 => (intro w' hSw; (try dsimp only at hSw); go_simp; try with_reducible rfl)
      case restt1x37 =>
      (try simp only [Act.put]); (repeat first | simp only [List.setIfInBounds_toArray] | simp only [List.set_cons_zero] | simp only [List.set_cons_succ])
      refine ord_take (i := 2) (d := some 60) (v := ?vt2x38) rfl rfl (by kernel_rfl) (by kernel_rfl) (by kernel_rfl) (fun _ _ _ h => h) (by rfl) ?hyt2x38 (by assumption) ?restt2x38
      case hyt2x38 => (intro w' hSw; (try dsimp only at hSw); go_simp; try with_reducible rfl)
      case restt2x38 =>
      (try simp only [Act.put]); (repeat first | simp only [List.setIfInBounds_toArray] | simp only [List.set_cons_zero] | simp only [List.set_cons_succ])
      refine ord_take (i := 3) (d := some 61) (v := ?vt3x39) rfl rfl (by kernel_rfl) (by kernel_rfl) (by kernel_rfl) (fun _ _ _ h => h) (by rfl) ?hyt3x39 (by assumption) ?restt3x39
      case hyt3x39 => (intro w' hSw; (try dsimp only at hSw); go_simp; try with_reducible rfl)
      case restt3x39 =>
      (try simp only [Act.put]); (repeat first | simp only [List.setIfInBounds_toArray] | simp only [List.set_cons_zero] | simp only [List.set_cons_succ])
      refine ord_take (i := 4) (d := some 62) (v := ?vt4x40) rfl rfl (by kernel_rfl) (by kernel_rfl) (by kernel_rfl) (fun _ _ _ h => h) (by rfl) ?hyt4x40 (by assumption) ?restt4x40
      case hyt4x40 => (intro w' hSw; (try dsimp only at hSw); go_simp; try with_reducible rfl)
      case restt4x40 =>
      (try simp only [Act.put]); (repeat first | simp only [List.setIfInBounds_toArray] | simp only [List.set_cons_zero] | simp only [List.set_cons_succ])
      refine ord_take (i := 5) (d := some 63) (v := ?vt5x41) rfl rfl (by kernel_rfl) (by kernel_rfl) (by kernel_rfl) (fun _ _ _ h => h) (by rfl) ?hyt5x41 (by assumption) ?restt5x41
      case hyt5x41 => (intro w' hSw; (try dsimp only at hSw); go_simp; try with_reducible rfl)
      case restt5x41 =>
      (try simp only [Act.put]); (repeat first | simp only [List.setIfInBounds_toArray] | simp only [List.set_cons_zero] | simp only [List.set_cons_succ])
      refine ord_take (i := 6) (d := some 64) (v := ?vt6x42) rfl rfl (by kernel_rfl) (by kernel_rfl) (by kernel_rfl) (fun _ _ _ h => h) (by rfl) ?hyt6x42 (by assumption) ?restt6x42
      case hyt6x42 => (intro w' hSw; (try dsimp only at hSw); go_simp; try with_reducible rfl)
      case restt6x42 =>
      (try simp only [Act.put]); (repeat first | simp only [List.setIfInBounds_toArray] | simp only [List.set_cons_zero] | simp only [List.set_cons_succ])
      refine ord_take (i := 7) (d := some 65) (v := ?vt7x43) rfl rfl (by kernel_rfl) (by kernel_rfl) (by kernel_rfl) (fun _ _ _ h => h) (by rfl) ?hyt7x43 (by assumption) ?restt7x43
      case hyt7x43 => (intro w' hSw; (try dsimp only at hSw); go_simp; try with_reducible rfl)
      case restt7x43 =>
      (try simp only [Act.put]); (repeat first | simp only [List.setIfInBounds_toArray] | simp only [List.set_cons_zero] | simp only [List.set_cons_succ])
      refine ord_take (i := 8) (d := some 66) (v := ?vt8x44) rfl rfl (by kernel_rfl) (by kernel_rfl) (by kernel_rfl) (fun _ _ _ h => h) (by rfl) ?hyt8x44 (by assumption) ?restt8x44
      case hyt8x44 => (intro w' hSw; (try dsimp only at hSw); go_simp; try with_reducible rfl)
      case restt8x44 =>
      (try simp only [Act.put]); (repeat first | simp only [List.setIfInBounds_toArray] | simp only [List.set_cons_zero] | simp only [List.set_cons_succ])
      refine ord_take (i := 9) (d := some 67) (v := ?vt9x45) rfl rfl (by kernel_rfl) (by kernel_rfl) (by kernel_rfl) (fun _ _ _ h => h) (by rfl) ?hyt9x45 (by assumption) ?restt9x45
      case hyt9x45 => (intro w' hSw; (try dsimp only at hSw); go_simp; try with_reducible rfl)
      case restt9x45 =>
      (try simp only [Act.put]); (repeat first | simp only [List.setIfInBounds_toArray] | simp only [List.set_cons_zero] | simp only [List.set_cons_succ])
      refine ord_take (i := 10) (d := some 68) (v := ?vt10x46) rfl rfl (by kernel_rfl) (by kernel_rfl) (by kernel_rfl) (fun _ _ _ h => h) (by rfl) ?hyt10x46 (by assumption) ?restt10x46
      case hyt10x46 => (intro w' hSw; (try dsimp only at hSw); go_simp; try with_reducible rfl)
      case restt10x46 =>
      (try simp only [Act.put]); (repeat first | simp only [List.setIfInBounds_toArray] | simp only [List.set_cons_zero] | simp only [List.set_cons_succ])
      refine ord_take (i := 11) (d := some 69) (v := ?vt11x47) rfl rfl (by kernel_rfl) (by kernel_rfl) (by kernel_rfl) (fun _ _ _ h => h) (by rfl) ?hyt11x47 (by assumption) ?restt11x47
      case hyt11x47 => (intro w' hSw; (try dsimp only at hSw); go_simp; try with_reducible rfl)
      case restt11x47 =>
      (try simp only [Act.put]); (repeat first | simp only [List.setIfInBounds_toArray] | simp only [List.set_cons_zero] | simp only [List.set_cons_succ])
      refine ord_take (i := 12) (d := some 70) (v := ?vt12x48) rfl rfl (by kernel_rfl) (by kernel_rfl) (by kernel_rfl) (fun _ _ _ h => h) (by rfl) ?hyt12x48 (by assumption) ?restt12x48
      case hyt12x48 => (intro w' hSw; (try dsimp only at hSw); go_simp; try with_reducible rfl)
      case restt12x48 =>
      (try simp only [Act.put]); (repeat first | simp only [List.setIfInBounds_toArray] | simp only [List.set_cons_zero] | simp only [List.set_cons_succ])
      refine ord_take (i := 13) (d := some 71) (v := ?vt13x49) rfl rfl (by kernel_rfl) (by kernel_rfl) (by kernel_rfl) (fun _ _ _ h => h) (by rfl) ?hyt13x49 (by assumption) ?restt13x49
      case hyt13x49 => (intro w' hSw; (try dsimp only at hSw); go_simp; try with_reducible rfl)
      case restt13x49 =>
      (try simp only [Act.put]); (repeat first | simp only [List.setIfInBounds_toArray] | simp only [List.set_cons_zero] | simp only [List.set_cons_succ])
      refine ord_take (i := 14) (d := some 72) (v := ?vt14x50) rfl rfl (by kernel_rfl) (by kernel_rfl) (by kernel_rfl) (fun _ _ _ h => h) (by rfl) ?hyt14x50 (by assumption) ?restt14x50
      case hyt14x50 => (intro w' hSw; (try dsimp only at hSw); go_simp; try with_reducible rfl)
      case restt14x50 =>
      (try simp only [Act.put]); (repeat first | simp only [List.setIfInBounds_toArray] | simp only [List.set_cons_zero] | simp only [List.set_cons_succ])
      refine ord_take (i := 15) (d := some 73) (v := ?vt15x51) rfl rfl (by kernel_rfl) (by kernel_rfl) (by kernel_rfl) (fun _ _ _ h => h) (by rfl) ?hyt15x51 (by assumption) ?restt15x51
      case hyt15x51 => (intro w' hSw; (try dsimp only at hSw); go_simp; try with_reducible rfl)
      case restt15x51 =>
      (try simp only [Act.put]); (repeat first | simp only [List.setIfInBounds_toArray] | simp only [List.set_cons_zero] | simp only [List.set_cons_succ])
      refine ord_take (i := 16) (d := some 74) (v := ?vt16x52) rfl rfl (by kernel_rfl) (by kernel_rfl) (by kernel_rfl) (fun _ _ _ h => h) (by rfl) ?hyt16x52 (by assumption) ?restt16x52
      case hyt16x52 => (intro w' hSw; (try dsimp only at hSw); go_simp; try with_reducible rfl)
      case restt16x52 =>
      (try simp only [Act.put]); (repeat first | simp only [List.setIfInBounds_toArray] | simp only [List.set_cons_zero] | simp only [List.set_cons_succ])
      refine ord_take (i := 17) (d := some 75) (v := ?vt17x53) rfl rfl (by kernel_rfl) (by kernel_rfl) (by kernel_rfl) (fun _ _ _ h => h) (by rfl) ?hyt17x53 (by assumption) ?restt17x53
      case hyt17x53 => (intro w' hSw; (try dsimp only at hSw); go_simp; try with_reducible rfl)
      case restt17x53 =>
      (try simp only [Act.put]); (repeat first | simp only [List.setIfInBounds_toArray] | simp only [List.set_cons_zero] | simp only [List.set_cons_succ])
      refine ord_take (i := 18) (d := some 76) (v := ?vt18x54) rfl rfl (by kernel_rfl) (by kernel_rfl) (by kernel_rfl) (fun _ _ _ h => h) (by rfl) ?hyt18x54 (by assumption) ?restt18x54
      case hyt18x54 => (intro w' hSw; (try dsimp only at hSw); go_simp; try with_reducible rfl)
      case restt18x54 =>
      (try simp only [Act.put]); (repeat first | simp only [List.setIfInBounds_toArray] | simp only [List.set_cons_zero] | simp only [List.set_cons_succ])
      refine ord_take (i := 19) (d := some 77) (v := ?vt19x55) rfl rfl (by kernel_rfl) (by kernel_rfl) (by kernel_rfl) (fun _ _ _ h => h) (by rfl) ?hyt19x55 (by assumption) ?restt19x55
      case hyt19x55 => (intro w' hSw; (try dsimp only at hSw); go_simp; try with_reducible rfl)
      case restt19x55 =>
      (try simp only [Act.put]); (repeat first | simp only [List.setIfInBounds_toArray] | simp only [List.set_cons_zero] | simp only [List.set_cons_succ])
      refine ord_take (i := 20) (d := some 78) (v := ?vt20x56) rfl rfl (by kernel_rfl) (by kernel_rfl) (by kernel_rfl) (fun _ _ _ h => h) (by rfl) ?hyt20x56 (by assumption) ?restt20x56
      case hyt20x56 => (intro w' hSw; (try dsimp only at hSw); go_simp; try with_reducible rfl)
      case restt20x56 =>
      (try simp only [Act.put]); (repeat first | simp only [List.setIfInBounds_toArray] | simp only [List.set_cons_zero] | simp only [List.set_cons_succ])
      refine ord_take (i := 21) (d := some 79) (v := ?vt21x57) rfl rfl (by kernel_rfl) (by kernel_rfl) (by kernel_rfl) (fun _ _ _ h => h) (by rfl) ?hyt21x57 (by assumption) ?restt21x57
      case hyt21x57 => (intro w' hSw; (try dsimp only at hSw); go_simp; try with_reducible rfl)
      case restt21x57 =>
      (try simp only [Act.put]); (repeat first | simp only [List.setIfInBounds_toArray] | simp only [List.set_cons_zero] | simp only [List.set_cons_succ])
      refine ord_take (i := 22) (d := some 80) (v := ?vt22x58) rfl rfl (by kernel_rfl) (by kernel_rfl) (by kernel_rfl) (fun _ _ _ h => h) (by rfl) ?hyt22x58 (by assumption) ?restt22x58
      case hyt22x58 => (intro w' hSw; (try dsimp only at hSw); go_simp; try with_reducible rfl)
      case restt22x58 =>
      (try simp only [Act.put]); (repeat first | simp only [List.setIfInBounds_toArray] | simp only [List.set_cons_zero] | simp only [List.set_cons_succ])
      refine ord_take (i := 23) (d := some 81) (v := ?vt23x59) rfl rfl (by kernel_rfl) (by kernel_rfl) (by kernel_rfl) (fun _ _ _ h => h) (by rfl) ?hyt23x59 (by assumption) ?restt23x59
      case hyt23x59 => (intro w' hSw; (try dsimp only at hSw); go_simp; try with_reducible rfl)
      case restt23x59 =>
      (try simp only [Act.put]); (repeat first | simp only [List.setIfInBounds_toArray] | simp only [List.set_cons_zero] | simp only [List.set_cons_succ])
      refine ord_take (i := 24) (d := some 82) (v := ?vt24x60) rfl rfl (by kernel_rfl) (by kernel_rfl) (by kernel_rfl) (fun _ _ _ h => h) (by rfl) ?hyt24x60 (by assumption) ?restt24x60
      case hyt24x60 => (intro w' hSw; (try dsimp only at hSw); go_simp; try with_reducible rfl)
      case restt24x60 =>
      (try simp only [Act.put]); (repeat first | simp only [List.setIfInBounds_toArray] | simp only [List.set_cons_zero] | simp only [List.set_cons_succ])
      refine ord_take (i := 25) (d := some 83) (v := ?vt25x61) rfl rfl (by kernel_rfl) (by kernel_rfl) (by kernel_rfl) (fun _ _ _ h => h) (by rfl) ?hyt25x61 (by assumption) ?restt25x61
      case hyt25x61 => (intro w' hSw; (try dsimp only at hSw); go_simp; try with_reducible rfl)
      case restt25x61 =>
      (try simp only [Act.put]); (repeat first | simp only [List.setIfInBounds_toArray] | simp only [List.set_cons_zero] | simp only [List.set_cons_succ])
      refine ord_take (i := 26) (d := some 84) (v := ?vt26x62) rfl rfl (by kernel_rfl) (by kernel_rfl) (by kernel_rfl) (fun _ _ _ h => h) (by rfl) ?hyt26x62 (by assumption) ?restt26x62
      case hyt26x62 => (intro w' hSw; (try dsimp only at hSw); go_simp; try with_reducible rfl)
      case restt26x62 =>
      (try simp only [Act.put]); (repeat first | simp only [List.setIfInBounds_toArray] | simp only [List.set_cons_zero] | simp only [List.set_cons_succ])
      refine ord_only (i := 27) rfl (by kernel_rfl) (by rfl) ?_
      refine ord_call (d := some 85) (f := 18) (args := #[pv ⟨p.id, p.born, p.a, p.b, p.ser, cl⟩ sa qn sc, pv ⟨p.id, p.born, p.a, p.b, p.ser, cl⟩ qa qn qc]) rfl (by go_simp; try with_reducible rfl) (samePass_eq ⟨p.id, p.born, p.a, p.b, p.ser, cl⟩ sa qa qn sc qc u0 ql.out.1 (by have := ql.out.2; unfold maxLen; omega) X0d.out.s.r X0d.out.q.r) ?_
      rintro e u1 ⟨rfl, hb⟩
      have X1 : Hid (CB w u1 p w1.heap.size w5.heap.size cl a N c qa qn qc sa sc) := X0d.out.on hb
      clear hb
      refine ⟨_, rfl, CB.S X1, ?_⟩
      have hSu1 := CB.S X1
      (try simp only [Act.put]); (repeat first | simp only [List.setIfInBounds_toArray] | simp only [List.set_cons_zero] | simp only [List.set_cons_succ])
      refine ord_take (i := 28) (d := some 86) (v := ?vt28x63) rfl rfl (by kernel_rfl) (by kernel_rfl) (by kernel_rfl) (fun _ _ _ h => h) (by rfl) ?hyt28x63 (by assumption) ?restt28x63
      case hyt28x63 => (intro w' hSw; (try dsimp only at hSw); go_simp; try with_reducible rfl)
      case restt28x63 =>
      (try simp only [Act.put]); (repeat first | simp only [List.setIfInBounds_toArray] | simp only [List.set_cons_zero] | simp only [List.set_cons_succ])
      refine ord_take (i := 29) (d := some 87) (v := ?vt29x64) rfl rfl (by kernel_rfl) (by kernel_rfl) (by kernel_rfl) (fun _ _ _ h => h) (by rfl) ?hyt29x64 (by assumption) ?restt29x64
      case hyt29x64 => (intro w' hSw; (try dsimp only at hSw); go_simp; try with_reducible rfl)
      case restt29x64 =>
      (try simp only [Act.put]); (repeat first | simp only [List.setIfInBounds_toArray] | simp only [List.set_cons_zero] | simp only [List.set_cons_succ])
      refine ord_take (i := 30) (d := some 88) (v := ?vt30x65) rfl rfl (by kernel_rfl) (by kernel_rfl) (by kernel_rfl) (fun _ _ _ h => h) (by rfl) ?hyt30x65 (by assumption) ?restt30x65
      case hyt30x65 => (intro w' hSw; (try dsimp only at hSw); go_simp; try with_reducible rfl)
      case restt30x65 =>
      (try simp only [Act.put]); (repeat first | simp only [List.setIfInBounds_toArray] | simp only [List.set_cons_zero] | simp only [List.set_cons_succ])
      refine ord_take (i := 31) (d := some 89) (v := ?vt31x66) rfl rfl (by kernel_rfl) (by kernel_rfl) (by kernel_rfl) (fun _ _ _ h => h) (by rfl) ?hyt31x66 (by assumption) ?restt31x66
      case hyt31x66 => (intro w' hSw; (try dsimp only at hSw); go_simp; try with_reducible rfl)
      case restt31x66 =>
      (try simp only [Act.put]); (repeat first | simp only [List.setIfInBounds_toArray] | simp only [List.set_cons_zero] | simp only [List.set_cons_succ])
      refine ord_take (i := 33) (d := some 91) (v := ?vt33x67) rfl rfl (by kernel_rfl) (by kernel_rfl) (by kernel_rfl) (fun _ _ _ h => h) (by rfl) ?hyt33x67 (by assumption) ?restt33x67
      case hyt33x67 => (intro w' hSw; (try dsimp only at hSw); go_simp; try with_reducible rfl)
      case restt33x67 =>
      (try simp only [Act.put]); (repeat first | simp only [List.setIfInBounds_toArray] | simp only [List.set_cons_zero] | simp only [List.set_cons_succ])
      refine ord_take (i := 34) (d := some 92) (v := ?vt34x68) rfl rfl (by kernel_rfl) (by kernel_rfl) (by kernel_rfl) (fun _ _ _ h => h) (by rfl) ?hyt34x68 (by assumption) ?restt34x68
      case hyt34x68 => (intro w' hSw; (try dsimp only at hSw); go_simp; try with_reducible rfl)
      case restt34x68 =>
      (try simp only [Act.put]); (repeat first | simp only [List.setIfInBounds_toArray] | simp only [List.set_cons_zero] | simp only [List.set_cons_succ])
      refine ord_take (i := 37) (d := some 95) (v := ?vt37x69) rfl rfl (by kernel_rfl) (by kernel_rfl) (by kernel_rfl) (fun _ _ _ h => h) (by rfl) ?hyt37x69 (by assumption) ?restt37x69
      case hyt37x69 => (intro w' hSw; (try dsimp only at hSw); go_simp; try with_reducible rfl)
      case restt37x69 =>
      (try simp only [Act.put]); (repeat first | simp only [List.setIfInBounds_toArray] | simp only [List.set_cons_zero] | simp only [List.set_cons_succ])
      refine ord_only (i := 32) rfl (by kernel_rfl) (by rfl) ?_
      refine ord_call (d := some 90) (f := 22) (args := #[.slice a N c]) rfl (by go_simp; try with_reducible rfl) (zdays p.days A a N c u1 HL.out.1 HS.out.1 HS.out.2.1 X1.out.p0.r) ?_
      rintro e u2 ⟨rfl, hb⟩
      have X2 : Hid (CB w u2 p w1.heap.size w5.heap.size cl a N c qa qn qc sa sc) := X1.out.on hb
      clear hb
      refine ⟨_, rfl, CB.S X2, ?_⟩
      have hSu2 := CB.S X2
      (try simp only [Act.put]); (repeat first | simp only [List.setIfInBounds_toArray] | simp only [List.set_cons_zero] | simp only [List.set_cons_succ])
      refine ord_only (i := 35) rfl (by kernel_rfl) (by rfl) ?_
      refine ord_call (d := some 93) (f := 22) (args := #[.slice qa qn qc]) rfl (by go_simp; try with_reducible rfl) (zdays cl B qa qn qc u2 ql.out.1 HS.out.2.2.1 HS.out.2.2.2 X2.out.q.r) ?_
      rintro e u3 ⟨rfl, hb⟩
      have X3 : Hid (CB w u3 p w1.heap.size w5.heap.size cl a N c qa qn qc sa sc) := X2.out.on hb
      clear hb
      refine ⟨_, rfl, CB.S X3, ?_⟩
      have hSu3 := CB.S X3
      (try simp only [Act.put]); (repeat first | simp only [List.setIfInBounds_toArray] | simp only [List.set_cons_zero] | simp only [List.set_cons_succ])
      refine ord_take (i := 36) (d := some 94) (v := ?vt36x70) rfl rfl (by kernel_rfl) (by kernel_rfl) (by kernel_rfl) (fun _ _ _ h => h) (by rfl) ?hyt36x70 (by assumption) ?restt36x70
      case hyt36x70 => (intro w' hSw; (try dsimp only at hSw); go_simp; try with_reducible rfl)
      case restt36x70 =>
      (try simp only [Act.put]); (repeat first | simp only [List.setIfInBounds_toArray] | simp only [List.set_cons_zero] | simp only [List.set_cons_succ])
      refine ord_take (i := 38) (d := some 96) (v := ?vt38x71) rfl rfl (by kernel_rfl) (by kernel_rfl) (by kernel_rfl) (fun _ _ _ h => h) (by rfl) ?hyt38x71 (by assumption) ?restt38x71
      case hyt38x71 => (intro w' hSw; (try dsimp only at hSw); go_simp; try with_reducible rfl)
      case restt38x71 =>
      (try simp only [Act.put]); (repeat first | simp only [List.setIfInBounds_toArray] | simp only [List.set_cons_zero] | simp only [List.set_cons_succ])
      refine ord_take (i := 39) (d := some 97) (v := ?vt39x72) rfl rfl (by kernel_rfl) (by kernel_rfl) (by kernel_rfl) (fun _ _ _ h => h) (by rfl) ?hyt39x72 (by assumption) ?restt39x72
      case hyt39x72 => (intro w' hSw; (try dsimp only at hSw); go_simp; try with_reducible rfl)
      case restt39x72 =>
      (try simp only [Act.put]); (repeat first | simp only [List.setIfInBounds_toArray] | simp only [List.set_cons_zero] | simp only [List.set_cons_succ])
      refine ord_take (i := 40) (d := some 8) (v := ?vt40x73) rfl rfl (by kernel_rfl) (by kernel_rfl) (by kernel_rfl) (fun _ _ _ h => h) (by rfl) ?hyt40x73 (by assumption) ?restt40x73
      case hyt40x73 => (intro w' hSw; (try dsimp only at hSw); go_simp; try with_reducible rfl)
      case restt40x73 =>
      (try simp only [Act.put]); (repeat first | simp only [List.setIfInBounds_toArray] | simp only [List.set_cons_zero] | simp only [List.set_cons_succ])
      refine wpAnyH_done (by kernel_rfl) ?_ _
      refine NoPanic.normal ?_
      go_wp2
      go_ret
      exact ⟨rfl, X3.out.b⟩
    · skip
      have hkn2 : decide (k < n) = false := decide_eq_false hkn
      simp only [Bool.true_and, hkn2]
      obtain ⟨-, p0, p1, p2, p3, p4, p5⟩ := Pp.out.h
      (try simp only at p0 p1 p2 p3 p4 p5)
      obtain ⟨-, q0, q1, q2, q3, q4, q5⟩ := Pq.out.h
      (try simp only at q0 q1 q2 q3 q4 q5)
      obtain ⟨-, s0, s1, s2, s3, s4, s5⟩ := Ps.out.h
      (try simp only at s0 s1 s2 s3 s4 s5)
      go_wp2_with fail
      have X0 : Hid (CB w (w5.alloc (.cells #[.int .i64 p.id, .int .i64 p.born, .int .i64 p.a, .int .i64 p.b, .int .i64 p.ser, .slice sa qn sc] 24)) p w1.heap.size w5.heap.size cl a N c qa qn qc sa sc) := ⟨K5.out.b, Pp.out, Pq.out, Ps.out⟩
      have X0d := CB.drew X0
      clear p0 p1 p2 p3 p4 p5 q0 q1 q2 q3 q4 q5 s0 s1 s2 s3 s4 s5
      clear Pp Pq Ps K0 K1 K2 K3 K4 K5
      refine wp_region_noPanic ?_
      refine ord_region (S := fun W => W.cell? ⟨w.heap.size, 5, none⟩ = some (.slice a N c) ∧ W.cell? ⟨w1.heap.size, 0, none⟩ = some (.int .i64 p.id) ∧ W.cell? ⟨w1.heap.size, 1, none⟩ = some (.int .i64 p.born) ∧ W.cell? ⟨w1.heap.size, 2, none⟩ = some (.int .i64 p.a) ∧ W.cell? ⟨w1.heap.size, 3, none⟩ = some (.int .i64 p.b) ∧ W.cell? ⟨w1.heap.size, 4, none⟩ = some (.int .i64 p.ser) ∧ W.cell? ⟨w1.heap.size, 5, none⟩ = some (.slice qa qn qc) ∧ W.cell? ⟨w5.heap.size, 0, none⟩ = some (.int .i64 p.id) ∧ W.cell? ⟨w5.heap.size, 1, none⟩ = some (.int .i64 p.born) ∧ W.cell? ⟨w5.heap.size, 2, none⟩ = some (.int .i64 p.a) ∧ W.cell? ⟨w5.heap.size, 3, none⟩ = some (.int .i64 p.b) ∧ W.cell? ⟨w5.heap.size, 4, none⟩ = some (.int .i64 p.ser) ∧ W.cell? ⟨w5.heap.size, 5, none⟩ = some (.slice sa qn sc) ∧ Hid (CB w W p w1.heap.size w5.heap.size cl a N c qa qn qc sa sc)) (by kernel_rfl) (CB.S X0d) ?_
      intro hS0
      clear X0
      generalize World.drew _ = u0 at *
      refine ord_take (i := 0) (d := some 58) (v := ?vt0x74) rfl rfl (by kernel_rfl) (by kernel_rfl) (by kernel_rfl) (fun _ _ _ h => h) (by rfl) ?hyt0x74 (by assumption) ?restt0x74
      case hyt0x74 => (intro w' hSw; (try dsimp only at hSw); go_simp; try with_reducible rfl)
      case restt0x74 =>
      (try simp only [Act.put]); (repeat first | simp only [List.setIfInBounds_toArray] | simp only [List.set_cons_zero] | simp only [List.set_cons_succ])
      refine ord_take (i := 1) (d := some 59) (v := ?vt1x75) rfl rfl (by kernel_rfl) (by kernel_rfl) (by kernel_rfl) (fun _ _ _ h => h) (by rfl) ?hyt1x75 (by assumption) ?restt1x75
      case hyt1x75 => (intro w' hSw; (try dsimp only at hSw); go_simp; try with_reducible rfl)
      case restt1x75 =>
      (try simp only [Act.put]); (repeat first | simp only [List.setIfInBounds_toArray] | simp only [List.set_cons_zero] | simp only [List.set_cons_succ])
      refine ord_take (i := 2) (d := some 60) (v := ?vt2x76) rfl rfl (by kernel_rfl) (by kernel_rfl) (by kernel_rfl) (fun _ _ _ h => h) (by rfl) ?hyt2x76 (by assumption) ?restt2x76
      case hyt2x76 => (intro w' hSw; (try dsimp only at hSw); go_simp; try with_reducible rfl)
      case restt2x76 =>
      (try simp only [Act.put]); (repeat first | simp only [List.setIfInBounds_toArray] | simp only [List.set_cons_zero] | simp only [List.set_cons_succ])
      refine ord_take (i := 3) (d := some 61) (v := ?vt3x77) rfl rfl (by kernel_rfl) (by kernel_rfl) (by kernel_rfl) (fun _ _ _ h => h) (by rfl) ?hyt3x77 (by assumption) ?restt3x77
      case hyt3x77 => (intro w' hSw; (try dsimp only at hSw); go_simp; try with_reducible rfl)
      case restt3x77 =>
      (try simp only [Act.put]); (repeat first | simp only [List.setIfInBounds_toArray] | simp only [List.set_cons_zero] | simp only [List.set_cons_succ])
      refine ord_take (i := 4) (d := some 62) (v := ?vt4x78) rfl rfl (by kernel_rfl) (by kernel_rfl) (by kernel_rfl) (fun _ _ _ h => h) (by rfl) ?hyt4x78 (by assumption) ?restt4x78
      case hyt4x78 => (intro w' hSw; (try dsimp only at hSw); go_simp; try with_reducible rfl)
      case restt4x78 =>
      (try simp only [Act.put]); (repeat first | simp only [List.setIfInBounds_toArray] | simp only [List.set_cons_zero] | simp only [List.set_cons_succ])
      refine ord_take (i := 5) (d := some 63) (v := ?vt5x79) rfl rfl (by kernel_rfl) (by kernel_rfl) (by kernel_rfl) (fun _ _ _ h => h) (by rfl) ?hyt5x79 (by assumption) ?restt5x79
      case hyt5x79 => (intro w' hSw; (try dsimp only at hSw); go_simp; try with_reducible rfl)
      case restt5x79 =>
      (try simp only [Act.put]); (repeat first | simp only [List.setIfInBounds_toArray] | simp only [List.set_cons_zero] | simp only [List.set_cons_succ])
      refine ord_take (i := 6) (d := some 64) (v := ?vt6x80) rfl rfl (by kernel_rfl) (by kernel_rfl) (by kernel_rfl) (fun _ _ _ h => h) (by rfl) ?hyt6x80 (by assumption) ?restt6x80
      case hyt6x80 => (intro w' hSw; (try dsimp only at hSw); go_simp; try with_reducible rfl)
      case restt6x80 =>
      (try simp only [Act.put]); (repeat first | simp only [List.setIfInBounds_toArray] | simp only [List.set_cons_zero] | simp only [List.set_cons_succ])
      refine ord_take (i := 7) (d := some 65) (v := ?vt7x81) rfl rfl (by kernel_rfl) (by kernel_rfl) (by kernel_rfl) (fun _ _ _ h => h) (by rfl) ?hyt7x81 (by assumption) ?restt7x81
      case hyt7x81 => (intro w' hSw; (try dsimp only at hSw); go_simp; try with_reducible rfl)
      case restt7x81 =>
      (try simp only [Act.put]); (repeat first | simp only [List.setIfInBounds_toArray] | simp only [List.set_cons_zero] | simp only [List.set_cons_succ])
      refine ord_take (i := 8) (d := some 66) (v := ?vt8x82) rfl rfl (by kernel_rfl) (by kernel_rfl) (by kernel_rfl) (fun _ _ _ h => h) (by rfl) ?hyt8x82 (by assumption) ?restt8x82
      case hyt8x82 => (intro w' hSw; (try dsimp only at hSw); go_simp; try with_reducible rfl)
      case restt8x82 =>
      (try simp only [Act.put]); (repeat first | simp only [List.setIfInBounds_toArray] | simp only [List.set_cons_zero] | simp only [List.set_cons_succ])
      refine ord_take (i := 9) (d := some 67) (v := ?vt9x83) rfl rfl (by kernel_rfl) (by kernel_rfl) (by kernel_rfl) (fun _ _ _ h => h) (by rfl) ?hyt9x83 (by assumption) ?restt9x83
      case hyt9x83 => (intro w' hSw; (try dsimp only at hSw); go_simp; try with_reducible rfl)
      case restt9x83 =>
      (try simp only [Act.put]); (repeat first | simp only [List.setIfInBounds_toArray] | simp only [List.set_cons_zero] | simp only [List.set_cons_succ])
      refine ord_take (i := 10) (d := some 68) (v := ?vt10x84) rfl rfl (by kernel_rfl) (by kernel_rfl) (by kernel_rfl) (fun _ _ _ h => h) (by rfl) ?hyt10x84 (by assumption) ?restt10x84
      case hyt10x84 => (intro w' hSw; (try dsimp only at hSw); go_simp; try with_reducible rfl)
      case restt10x84 =>
      (try simp only [Act.put]); (repeat first | simp only [List.setIfInBounds_toArray] | simp only [List.set_cons_zero] | simp only [List.set_cons_succ])
      refine ord_take (i := 11) (d := some 69) (v := ?vt11x85) rfl rfl (by kernel_rfl) (by kernel_rfl) (by kernel_rfl) (fun _ _ _ h => h) (by rfl) ?hyt11x85 (by assumption) ?restt11x85
      case hyt11x85 => (intro w' hSw; (try dsimp only at hSw); go_simp; try with_reducible rfl)
      case restt11x85 =>
      (try simp only [Act.put]); (repeat first | simp only [List.setIfInBounds_toArray] | simp only [List.set_cons_zero] | simp only [List.set_cons_succ])
      refine ord_take (i := 12) (d := some 70) (v := ?vt12x86) rfl rfl (by kernel_rfl) (by kernel_rfl) (by kernel_rfl) (fun _ _ _ h => h) (by rfl) ?hyt12x86 (by assumption) ?restt12x86
      case hyt12x86 => (intro w' hSw; (try dsimp only at hSw); go_simp; try with_reducible rfl)
      case restt12x86 =>
      (try simp only [Act.put]); (repeat first | simp only [List.setIfInBounds_toArray] | simp only [List.set_cons_zero] | simp only [List.set_cons_succ])
      refine ord_take (i := 13) (d := some 71) (v := ?vt13x87) rfl rfl (by kernel_rfl) (by kernel_rfl) (by kernel_rfl) (fun _ _ _ h => h) (by rfl) ?hyt13x87 (by assumption) ?restt13x87
      case hyt13x87 => (intro w' hSw; (try dsimp only at hSw); go_simp; try with_reducible rfl)
      case restt13x87 =>
      (try simp only [Act.put]); (repeat first | simp only [List.setIfInBounds_toArray] | simp only [List.set_cons_zero] | simp only [List.set_cons_succ])
      refine ord_take (i := 14) (d := some 72) (v := ?vt14x88) rfl rfl (by kernel_rfl) (by kernel_rfl) (by kernel_rfl) (fun _ _ _ h => h) (by rfl) ?hyt14x88 (by assumption) ?restt14x88
      case hyt14x88 => (intro w' hSw; (try dsimp only at hSw); go_simp; try with_reducible rfl)
      case restt14x88 =>
      (try simp only [Act.put]); (repeat first | simp only [List.setIfInBounds_toArray] | simp only [List.set_cons_zero] | simp only [List.set_cons_succ])
      refine ord_take (i := 15) (d := some 73) (v := ?vt15x89) rfl rfl (by kernel_rfl) (by kernel_rfl) (by kernel_rfl) (fun _ _ _ h => h) (by rfl) ?hyt15x89 (by assumption) ?restt15x89
      case hyt15x89 => (intro w' hSw; (try dsimp only at hSw); go_simp; try with_reducible rfl)
      case restt15x89 =>
      (try simp only [Act.put]); (repeat first | simp only [List.setIfInBounds_toArray] | simp only [List.set_cons_zero] | simp only [List.set_cons_succ])
      refine ord_take (i := 16) (d := some 74) (v := ?vt16x90) rfl rfl (by kernel_rfl) (by kernel_rfl) (by kernel_rfl) (fun _ _ _ h => h) (by rfl) ?hyt16x90 (by assumption) ?restt16x90
      case hyt16x90 => (intro w' hSw; (try dsimp only at hSw); go_simp; try with_reducible rfl)
      case restt16x90 =>
      (try simp only [Act.put]); (repeat first | simp only [List.setIfInBounds_toArray] | simp only [List.set_cons_zero] | simp only [List.set_cons_succ])
      refine ord_take (i := 17) (d := some 75) (v := ?vt17x91) rfl rfl (by kernel_rfl) (by kernel_rfl) (by kernel_rfl) (fun _ _ _ h => h) (by rfl) ?hyt17x91 (by assumption) ?restt17x91
      case hyt17x91 => (intro w' hSw; (try dsimp only at hSw); go_simp; try with_reducible rfl)
      case restt17x91 =>
      (try simp only [Act.put]); (repeat first | simp only [List.setIfInBounds_toArray] | simp only [List.set_cons_zero] | simp only [List.set_cons_succ])
      refine ord_take (i := 18) (d := some 76) (v := ?vt18x92) rfl rfl (by kernel_rfl) (by kernel_rfl) (by kernel_rfl) (fun _ _ _ h => h) (by rfl) ?hyt18x92 (by assumption) ?restt18x92
      case hyt18x92 => (intro w' hSw; (try dsimp only at hSw); go_simp; try with_reducible rfl)
      case restt18x92 =>
      (try simp only [Act.put]); (repeat first | simp only [List.setIfInBounds_toArray] | simp only [List.set_cons_zero] | simp only [List.set_cons_succ])
      refine ord_take (i := 19) (d := some 77) (v := ?vt19x93) rfl rfl (by kernel_rfl) (by kernel_rfl) (by kernel_rfl) (fun _ _ _ h => h) (by rfl) ?hyt19x93 (by assumption) ?restt19x93
      case hyt19x93 => (intro w' hSw; (try dsimp only at hSw); go_simp; try with_reducible rfl)
      case restt19x93 =>
      (try simp only [Act.put]); (repeat first | simp only [List.setIfInBounds_toArray] | simp only [List.set_cons_zero] | simp only [List.set_cons_succ])
      refine ord_take (i := 20) (d := some 78) (v := ?vt20x94) rfl rfl (by kernel_rfl) (by kernel_rfl) (by kernel_rfl) (fun _ _ _ h => h) (by rfl) ?hyt20x94 (by assumption) ?restt20x94
      case hyt20x94 => (intro w' hSw; (try dsimp only at hSw); go_simp; try with_reducible rfl)
      case restt20x94 =>
      (try simp only [Act.put]); (repeat first | simp only [List.setIfInBounds_toArray] | simp only [List.set_cons_zero] | simp only [List.set_cons_succ])
      refine ord_take (i := 21) (d := some 79) (v := ?vt21x95) rfl rfl (by kernel_rfl) (by kernel_rfl) (by kernel_rfl) (fun _ _ _ h => h) (by rfl) ?hyt21x95 (by assumption) ?restt21x95
      case hyt21x95 => (intro w' hSw; (try dsimp only at hSw); go_simp; try with_reducible rfl)
      case restt21x95 =>
      (try simp only [Act.put]); (repeat first | simp only [List.setIfInBounds_toArray] | simp only [List.set_cons_zero] | simp only [List.set_cons_succ])
      refine ord_take (i := 22) (d := some 80) (v := ?vt22x96) rfl rfl (by kernel_rfl) (by kernel_rfl) (by kernel_rfl) (fun _ _ _ h => h) (by rfl) ?hyt22x96 (by assumption) ?restt22x96
      case hyt22x96 => (intro w' hSw; (try dsimp only at hSw); go_simp; try with_reducible rfl)
      case restt22x96 =>
      (try simp only [Act.put]); (repeat first | simp only [List.setIfInBounds_toArray] | simp only [List.set_cons_zero] | simp only [List.set_cons_succ])
      refine ord_take (i := 23) (d := some 81) (v := ?vt23x97) rfl rfl (by kernel_rfl) (by kernel_rfl) (by kernel_rfl) (fun _ _ _ h => h) (by rfl) ?hyt23x97 (by assumption) ?restt23x97
      case hyt23x97 => (intro w' hSw; (try dsimp only at hSw); go_simp; try with_reducible rfl)
      case restt23x97 =>
      (try simp only [Act.put]); (repeat first | simp only [List.setIfInBounds_toArray] | simp only [List.set_cons_zero] | simp only [List.set_cons_succ])
      refine ord_take (i := 24) (d := some 82) (v := ?vt24x98) rfl rfl (by kernel_rfl) (by kernel_rfl) (by kernel_rfl) (fun _ _ _ h => h) (by rfl) ?hyt24x98 (by assumption) ?restt24x98
      case hyt24x98 => (intro w' hSw; (try dsimp only at hSw); go_simp; try with_reducible rfl)
      case restt24x98 =>
      (try simp only [Act.put]); (repeat first | simp only [List.setIfInBounds_toArray] | simp only [List.set_cons_zero] | simp only [List.set_cons_succ])
      refine ord_take (i := 25) (d := some 83) (v := ?vt25x99) rfl rfl (by kernel_rfl) (by kernel_rfl) (by kernel_rfl) (fun _ _ _ h => h) (by rfl) ?hyt25x99 (by assumption) ?restt25x99
      case hyt25x99 => (intro w' hSw; (try dsimp only at hSw); go_simp; try with_reducible rfl)
      case restt25x99 =>
      (try simp only [Act.put]); (repeat first | simp only [List.setIfInBounds_toArray] | simp only [List.set_cons_zero] | simp only [List.set_cons_succ])
      refine ord_take (i := 26) (d := some 84) (v := ?vt26x100) rfl rfl (by kernel_rfl) (by kernel_rfl) (by kernel_rfl) (fun _ _ _ h => h) (by rfl) ?hyt26x100 (by assumption) ?restt26x100
      case hyt26x100 => (intro w' hSw; (try dsimp only at hSw); go_simp; try with_reducible rfl)
      case restt26x100 =>
      (try simp only [Act.put]); (repeat first | simp only [List.setIfInBounds_toArray] | simp only [List.set_cons_zero] | simp only [List.set_cons_succ])
      refine ord_only (i := 27) rfl (by kernel_rfl) (by rfl) ?_
      refine ord_call (d := some 85) (f := 18) (args := #[pv ⟨p.id, p.born, p.a, p.b, p.ser, cl⟩ sa qn sc, pv ⟨p.id, p.born, p.a, p.b, p.ser, cl⟩ qa qn qc]) rfl (by go_simp; try with_reducible rfl) (samePass_eq ⟨p.id, p.born, p.a, p.b, p.ser, cl⟩ sa qa qn sc qc u0 ql.out.1 (by have := ql.out.2; unfold maxLen; omega) X0d.out.s.r X0d.out.q.r) ?_
      rintro e u1 ⟨rfl, hb⟩
      have X1 : Hid (CB w u1 p w1.heap.size w5.heap.size cl a N c qa qn qc sa sc) := X0d.out.on hb
      clear hb
      refine ⟨_, rfl, CB.S X1, ?_⟩
      have hSu1 := CB.S X1
      (try simp only [Act.put]); (repeat first | simp only [List.setIfInBounds_toArray] | simp only [List.set_cons_zero] | simp only [List.set_cons_succ])
      refine ord_take (i := 28) (d := some 86) (v := ?vt28x101) rfl rfl (by kernel_rfl) (by kernel_rfl) (by kernel_rfl) (fun _ _ _ h => h) (by rfl) ?hyt28x101 (by assumption) ?restt28x101
      case hyt28x101 => (intro w' hSw; (try dsimp only at hSw); go_simp; try with_reducible rfl)
      case restt28x101 =>
      (try simp only [Act.put]); (repeat first | simp only [List.setIfInBounds_toArray] | simp only [List.set_cons_zero] | simp only [List.set_cons_succ])
      refine ord_take (i := 29) (d := some 87) (v := ?vt29x102) rfl rfl (by kernel_rfl) (by kernel_rfl) (by kernel_rfl) (fun _ _ _ h => h) (by rfl) ?hyt29x102 (by assumption) ?restt29x102
      case hyt29x102 => (intro w' hSw; (try dsimp only at hSw); go_simp; try with_reducible rfl)
      case restt29x102 =>
      (try simp only [Act.put]); (repeat first | simp only [List.setIfInBounds_toArray] | simp only [List.set_cons_zero] | simp only [List.set_cons_succ])
      refine ord_take (i := 30) (d := some 88) (v := ?vt30x103) rfl rfl (by kernel_rfl) (by kernel_rfl) (by kernel_rfl) (fun _ _ _ h => h) (by rfl) ?hyt30x103 (by assumption) ?restt30x103
      case hyt30x103 => (intro w' hSw; (try dsimp only at hSw); go_simp; try with_reducible rfl)
      case restt30x103 =>
      (try simp only [Act.put]); (repeat first | simp only [List.setIfInBounds_toArray] | simp only [List.set_cons_zero] | simp only [List.set_cons_succ])
      refine ord_take (i := 31) (d := some 89) (v := ?vt31x104) rfl rfl (by kernel_rfl) (by kernel_rfl) (by kernel_rfl) (fun _ _ _ h => h) (by rfl) ?hyt31x104 (by assumption) ?restt31x104
      case hyt31x104 => (intro w' hSw; (try dsimp only at hSw); go_simp; try with_reducible rfl)
      case restt31x104 =>
      (try simp only [Act.put]); (repeat first | simp only [List.setIfInBounds_toArray] | simp only [List.set_cons_zero] | simp only [List.set_cons_succ])
      refine ord_take (i := 33) (d := some 91) (v := ?vt33x105) rfl rfl (by kernel_rfl) (by kernel_rfl) (by kernel_rfl) (fun _ _ _ h => h) (by rfl) ?hyt33x105 (by assumption) ?restt33x105
      case hyt33x105 => (intro w' hSw; (try dsimp only at hSw); go_simp; try with_reducible rfl)
      case restt33x105 =>
      (try simp only [Act.put]); (repeat first | simp only [List.setIfInBounds_toArray] | simp only [List.set_cons_zero] | simp only [List.set_cons_succ])
      refine ord_take (i := 34) (d := some 92) (v := ?vt34x106) rfl rfl (by kernel_rfl) (by kernel_rfl) (by kernel_rfl) (fun _ _ _ h => h) (by rfl) ?hyt34x106 (by assumption) ?restt34x106
      case hyt34x106 => (intro w' hSw; (try dsimp only at hSw); go_simp; try with_reducible rfl)
      case restt34x106 =>
      (try simp only [Act.put]); (repeat first | simp only [List.setIfInBounds_toArray] | simp only [List.set_cons_zero] | simp only [List.set_cons_succ])
      refine ord_take (i := 37) (d := some 95) (v := ?vt37x107) rfl rfl (by kernel_rfl) (by kernel_rfl) (by kernel_rfl) (fun _ _ _ h => h) (by rfl) ?hyt37x107 (by assumption) ?restt37x107
      case hyt37x107 => (intro w' hSw; (try dsimp only at hSw); go_simp; try with_reducible rfl)
      case restt37x107 =>
      (try simp only [Act.put]); (repeat first | simp only [List.setIfInBounds_toArray] | simp only [List.set_cons_zero] | simp only [List.set_cons_succ])
      refine ord_only (i := 32) rfl (by kernel_rfl) (by rfl) ?_
      refine ord_call (d := some 90) (f := 22) (args := #[.slice a N c]) rfl (by go_simp; try with_reducible rfl) (zdays p.days A a N c u1 HL.out.1 HS.out.1 HS.out.2.1 X1.out.p0.r) ?_
      rintro e u2 ⟨rfl, hb⟩
      have X2 : Hid (CB w u2 p w1.heap.size w5.heap.size cl a N c qa qn qc sa sc) := X1.out.on hb
      clear hb
      refine ⟨_, rfl, CB.S X2, ?_⟩
      have hSu2 := CB.S X2
      (try simp only [Act.put]); (repeat first | simp only [List.setIfInBounds_toArray] | simp only [List.set_cons_zero] | simp only [List.set_cons_succ])
      refine ord_only (i := 35) rfl (by kernel_rfl) (by rfl) ?_
      refine ord_call (d := some 93) (f := 22) (args := #[.slice qa qn qc]) rfl (by go_simp; try with_reducible rfl) (zdays cl B qa qn qc u2 ql.out.1 HS.out.2.2.1 HS.out.2.2.2 X2.out.q.r) ?_
      rintro e u3 ⟨rfl, hb⟩
      have X3 : Hid (CB w u3 p w1.heap.size w5.heap.size cl a N c qa qn qc sa sc) := X2.out.on hb
      clear hb
      refine ⟨_, rfl, CB.S X3, ?_⟩
      have hSu3 := CB.S X3
      (try simp only [Act.put]); (repeat first | simp only [List.setIfInBounds_toArray] | simp only [List.set_cons_zero] | simp only [List.set_cons_succ])
      refine ord_take (i := 36) (d := some 94) (v := ?vt36x108) rfl rfl (by kernel_rfl) (by kernel_rfl) (by kernel_rfl) (fun _ _ _ h => h) (by rfl) ?hyt36x108 (by assumption) ?restt36x108
      case hyt36x108 => (intro w' hSw; (try dsimp only at hSw); go_simp; try with_reducible rfl)
      case restt36x108 =>
      (try simp only [Act.put]); (repeat first | simp only [List.setIfInBounds_toArray] | simp only [List.set_cons_zero] | simp only [List.set_cons_succ])
      refine ord_take (i := 38) (d := some 96) (v := ?vt38x109) rfl rfl (by kernel_rfl) (by kernel_rfl) (by kernel_rfl) (fun _ _ _ h => h) (by rfl) ?hyt38x109 (by assumption) ?restt38x109
      case hyt38x109 => (intro w' hSw; (try dsimp only at hSw); go_simp; try with_reducible rfl)
      case restt38x109 =>
      (try simp only [Act.put]); (repeat first | simp only [List.setIfInBounds_toArray] | simp only [List.set_cons_zero] | simp only [List.set_cons_succ])
      refine ord_take (i := 39) (d := some 97) (v := ?vt39x110) rfl rfl (by kernel_rfl) (by kernel_rfl) (by kernel_rfl) (fun _ _ _ h => h) (by rfl) ?hyt39x110 (by assumption) ?restt39x110
      case hyt39x110 => (intro w' hSw; (try dsimp only at hSw); go_simp; try with_reducible rfl)
      case restt39x110 =>
      (try simp only [Act.put]); (repeat first | simp only [List.setIfInBounds_toArray] | simp only [List.set_cons_zero] | simp only [List.set_cons_succ])
      refine ord_take (i := 40) (d := some 8) (v := ?vt40x111) rfl rfl (by kernel_rfl) (by kernel_rfl) (by kernel_rfl) (fun _ _ _ h => h) (by rfl) ?hyt40x111 (by assumption) ?restt40x111
      case hyt40x111 => (intro w' hSw; (try dsimp only at hSw); go_simp; try with_reducible rfl)
      case restt40x111 =>
      (try simp only [Act.put]); (repeat first | simp only [List.setIfInBounds_toArray] | simp only [List.set_cons_zero] | simp only [List.set_cons_succ])
      refine wpAnyH_done (by kernel_rfl) ?_ _
      refine NoPanic.normal ?_
      go_wp2
      go_ret
      exact ⟨rfl, X3.out.b⟩
theorem cutHas_any (p : Pz.Pq) (a : Option Addr) (N c : Nat) (n k z : Int) (w : World) (hN : p.days.length = N) (hl : N ≤ maxLen) (hc : N ≤ c) (hn : a = none → c = 0 ∧ p.days = []) (hw : Laid w) (hr : Row2 w a p.days) :
    Calls Tryd.prog 6 #[pv p a N c, .int .i64 n, .int .i64 k, .int .i64 z] w fun e w' => e = .returned (.bool true) ∧ Below w.heap.size w w' := by
  by_cases hk : Pz.chk p = 0 ∧ ¬ Pz.noD n
  · exact cutHas_good p a N c n k z w hN hl hc hn hw hr hk
  · exact cutHas_bad p a N c n k z w hN hl hc hn hw hr hk
end Go.Proofs.YtandlmnbnjkklaaDoor
