/- The walk of RenewTells. -/
import Derived.Test.YtandlmnbnjkklaaDoorLawPass1
namespace Go.Proofs.YtandlmnbnjkklaaDoor
open Go.RowKit Go.BigFrame

set_option maxRecDepth 100000 in
set_option maxHeartbeats 16000000 in
theorem renewTells_any (p : Pz.Pq) (a : Option Addr) (N c : Nat) (n tu tt : Int) (w : World) (hN : p.days.length = N) (hl : N ≤ maxLen) (hc : N ≤ c) (hn : a = none → c = 0 ∧ p.days = []) (hw : Laid w) (hr : Row2 w a p.days) :
    Calls Tryd.prog 4 #[pv p a N c, .int .i64 n, .agg #[.int .i64 tu, .int .i64 tt]] w fun e w' => e = .returned (.bool true) ∧ Below w.heap.size w w' := by
  obtain ⟨tg, htg⟩ : ∃ tg, w.heap.size + 1 = tg := ⟨_, rfl⟩
  have HT := Thr0.new w p a N c tu tt hc hn hr
  rw [htg] at HT
  have K0 : Hid (TB2 w _ tg tu tt) := HT.1
  have Pp : Hid (PIs _ w.heap.size p a N c) := HT.2
  have HL : Hid (p.days.length = N ∧ N ≤ maxLen) := ⟨hN, hl⟩
  have HW : Hid (Laid w) := hw
  obtain ⟨⟨ni, nb, nx, ny, ns, nl⟩, nm, ne, hne⟩ : ∃ q m e, Pz.renew p n tu tt = (q, m, e) := ⟨_, _, _, rfl⟩
  have HV : Hid (Pz.renew p n tu tt = (⟨ni, nb, nx, ny, ns, nl⟩, nm, ne)) := hne
  have p0 := Pp.out.h.c0
  have p1 := Pp.out.h.c1
  have p2 := Pp.out.h.c2
  have p3 := Pp.out.h.c3
  have p4 := Pp.out.h.c4
  have p5 := Pp.out.h.c5
  have k0 := K0.out.c0
  have k1 := K0.out.c1
  clear HT hN hl hc hn hw hr hne
  go_enter Tryd.func4, Tryd.ntmps4
  go_wp2_with fail
  clear k0 k1 p0 p1 p2 p3 p4 p5
  have h1 := pZRenew_any p a N c n tu tt _ (HW.out.below K0.out.b) HL.out.1 HL.out.2 Pp.out.k Pp.out.z Pp.out.r
  rw [HV.out] at h1
  refine h1.mono ?_
  rintro e w1 hp
  obtain ⟨naa, nan, nac, rfl, hlen, h64, hc, hn, hr, hb⟩ := rzSay hp
  have nal : Hid (nl.length = nan ∧ nan ≤ 64) := ⟨hlen, h64⟩
  have K1 : Hid (TB2 w (w1.alloc (.cells #[.int .i64 ni, .int .i64 nb, .int .i64 nx, .int .i64 ny, .int .i64 ns, .slice naa nan nac] 24)) tg tu tt) := (K0.out.below hb).below (below_box _ _)
  have Pp : Hid (PIs (w1.alloc (.cells #[.int .i64 ni, .int .i64 nb, .int .i64 nx, .int .i64 ny, .int .i64 ns, .slice naa nan nac] 24)) w.heap.size p a N c) := (Pp.out.below hb).box _
  have Pna : Hid (PIs (w1.alloc (.cells #[.int .i64 ni, .int .i64 nb, .int .i64 nx, .int .i64 ny, .int .i64 ns, .slice naa nan nac] 24)) w1.heap.size ⟨ni, nb, nx, ny, ns, nl⟩ naa nan nac) := PIs.new hc hn hr
  clear hp h1 hc hn hr hb hlen h64
  obtain ⟨-, p0, p1, p2, p3, p4, p5⟩ := Pp.out.h
  (try simp only at p0 p1 p2 p3 p4 p5)
  obtain ⟨-, na0, na1, na2, na3, na4, na5⟩ := Pna.out.h
  (try simp only at na0 na1 na2 na3 na4 na5)
  have k0 := K1.out.c0
  have k1 := K1.out.c1
  go_wp2_with fail
  clear k0 k1 p0 p1 p2 p3 p4 p5 na0 na1 na2 na3 na4 na5
  have h1 := passRenew_any p a N c n tu tt (w1.alloc (.cells #[.int .i64 ni, .int .i64 nb, .int .i64 nx, .int .i64 ny, .int .i64 ns, .slice naa nan nac] 24)) HL.out.1 HL.out.2 Pp.out.z Pp.out.r
  rw [HV.out] at h1
  refine h1.mono ?_
  rintro e w2 hp
  obtain ⟨nda, ndn, ndc, rfl, hlen, h64, hc, hn, hr, hb⟩ := rzSay hp
  obtain rfl : nan = ndn := nal.out.1.symm.trans hlen
  have K2 : Hid (TB2 w (w2.alloc (.cells #[.int .i64 ni, .int .i64 nb, .int .i64 nx, .int .i64 ny, .int .i64 ns, .slice nda nan ndc] 24)) tg tu tt) := (K1.out.below hb).below (below_box _ _)
  have Pp : Hid (PIs (w2.alloc (.cells #[.int .i64 ni, .int .i64 nb, .int .i64 nx, .int .i64 ny, .int .i64 ns, .slice nda nan ndc] 24)) w.heap.size p a N c) := (Pp.out.below hb).box _
  have Pna : Hid (PIs (w2.alloc (.cells #[.int .i64 ni, .int .i64 nb, .int .i64 nx, .int .i64 ny, .int .i64 ns, .slice nda nan ndc] 24)) w1.heap.size ⟨ni, nb, nx, ny, ns, nl⟩ naa nan nac) := (Pna.out.below hb).box _
  have Pnd : Hid (PIs (w2.alloc (.cells #[.int .i64 ni, .int .i64 nb, .int .i64 nx, .int .i64 ny, .int .i64 ns, .slice nda nan ndc] 24)) w2.heap.size ⟨ni, nb, nx, ny, ns, nl⟩ nda nan ndc) := PIs.new hc hn hr
  clear hp h1 hc hn hr hb hlen h64
  obtain ⟨-, p0, p1, p2, p3, p4, p5⟩ := Pp.out.h
  (try simp only at p0 p1 p2 p3 p4 p5)
  obtain ⟨-, na0, na1, na2, na3, na4, na5⟩ := Pna.out.h
  (try simp only at na0 na1 na2 na3 na4 na5)
  obtain ⟨-, nd0, nd1, nd2, nd3, nd4, nd5⟩ := Pnd.out.h
  (try simp only at nd0 nd1 nd2 nd3 nd4 nd5)
  have k0 := K2.out.c0
  have k1 := K2.out.c1
  go_wp2_with fail
  clear k0 k1 p0 p1 p2 p3 p4 p5 na0 na1 na2 na3 na4 na5 nd0 nd1 nd2 nd3 nd4 nd5
  have h1 := zbegun_any (w2.alloc (.cells #[.int .i64 ni, .int .i64 nb, .int .i64 nx, .int .i64 ny, .int .i64 ns, .slice nda nan ndc] 24)) (HW.out.below K2.out.b)
  refine h1.mono ?_
  rintro e w3 ⟨rfl, hb⟩
  have K3 : Hid (TB2 w w3 tg tu tt) := K2.out.below hb
  have Pp : Hid (PIs w3 w.heap.size p a N c) := Pp.out.below hb
  have Pna : Hid (PIs w3 w1.heap.size ⟨ni, nb, nx, ny, ns, nl⟩ naa nan nac) := Pna.out.below hb
  have Pnd : Hid (PIs w3 w2.heap.size ⟨ni, nb, nx, ny, ns, nl⟩ nda nan ndc) := Pnd.out.below hb
  clear h1 hb
  obtain ⟨-, p0, p1, p2, p3, p4, p5⟩ := Pp.out.h
  (try simp only at p0 p1 p2 p3 p4 p5)
  obtain ⟨-, na0, na1, na2, na3, na4, na5⟩ := Pna.out.h
  (try simp only at na0 na1 na2 na3 na4 na5)
  obtain ⟨-, nd0, nd1, nd2, nd3, nd4, nd5⟩ := Pnd.out.h
  (try simp only at nd0 nd1 nd2 nd3 nd4 nd5)
  have k0 := K3.out.c0
  have k1 := K3.out.c1
  go_wp2_with fail
  clear k0 k1 p0 p1 p2 p3 p4 p5 na0 na1 na2 na3 na4 na5 nd0 nd1 nd2 nd3 nd4 nd5
  have h1 := samePass_eq ⟨ni, nb, nx, ny, ns, nl⟩ naa nda nan nac ndc w3 nal.out.1 (by have := nal.out.2; unfold maxLen; omega) Pna.out.r Pnd.out.r
  refine h1.mono ?_
  rintro e w4 ⟨rfl, hb⟩
  have K4 : Hid (TB2 w w4 tg tu tt) := K3.out.below hb
  have Pp : Hid (PIs w4 w.heap.size p a N c) := Pp.out.below hb
  have Pna : Hid (PIs w4 w1.heap.size ⟨ni, nb, nx, ny, ns, nl⟩ naa nan nac) := Pna.out.below hb
  have Pnd : Hid (PIs w4 w2.heap.size ⟨ni, nb, nx, ny, ns, nl⟩ nda nan ndc) := Pnd.out.below hb
  clear h1 hb
  obtain ⟨-, p0, p1, p2, p3, p4, p5⟩ := Pp.out.h
  (try simp only at p0 p1 p2 p3 p4 p5)
  obtain ⟨-, na0, na1, na2, na3, na4, na5⟩ := Pna.out.h
  (try simp only at na0 na1 na2 na3 na4 na5)
  obtain ⟨-, nd0, nd1, nd2, nd3, nd4, nd5⟩ := Pnd.out.h
  (try simp only at nd0 nd1 nd2 nd3 nd4 nd5)
  have k0 := K4.out.c0
  have k1 := K4.out.c1
  go_wp2
  go_ret
  exact ⟨rfl, K4.out.b⟩
end Go.Proofs.YtandlmnbnjkklaaDoor
