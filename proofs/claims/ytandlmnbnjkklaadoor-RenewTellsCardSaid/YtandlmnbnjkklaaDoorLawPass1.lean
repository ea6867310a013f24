/- The walk of PassTells. -/
import Derived.Test.YtandlmnbnjkklaaDoorPzBeg
namespace Go.Proofs.YtandlmnbnjkklaaDoor
open Go.RowKit Go.BigFrame

theorem nzSay {w w' : World} {i b x y s m : Int} {l : List Spn.Sp} {e : Ending} (h : nzPost w (⟨i, b, x, y, s, l⟩, m) e w') : ∃ a n c, e = .returned (.tuple #[v6 i b x y s a n c, .int .i64 m]) ∧ l.length = n ∧ n ≤ 64 ∧ n ≤ c ∧ (a = none → c = 0 ∧ l = []) ∧ Row2 w' a l ∧ Below w.heap.size w w' := by
  obtain ⟨a, n, c, rfl, hn, h1, h2, h3, h4, h5⟩ := h
  exact ⟨a, n, c, rfl, hn, h2, h1, h3, h4, h5⟩
theorem rzSay {w w' : World} {i b x y s m k : Int} {l : List Spn.Sp} {e : Ending} (h : rzPost w (⟨i, b, x, y, s, l⟩, m, k) e w') : ∃ a n c, e = .returned (.tuple #[v6 i b x y s a n c, .int .i64 m, .int .i64 k]) ∧ l.length = n ∧ n ≤ 64 ∧ n ≤ c ∧ (a = none → c = 0 ∧ l = []) ∧ Row2 w' a l ∧ Below w.heap.size w w' := by
  obtain ⟨a, n, c, rfl, hn, h1, h2, h3, h4, h5⟩ := h
  exact ⟨a, n, c, rfl, hn, h2, h1, h3, h4, h5⟩
/-- a term's box -/
structure TB2 (w W : World) (g : Nat) (u t : Int) : Prop where
  b : Below w.heap.size w W
  lt : g < W.heap.size
  c0 : W.cell? ⟨g, 0, none⟩ = some (.int .i64 u)
  c1 : W.cell? ⟨g, 1, none⟩ = some (.int .i64 t)
theorem TB2.below {w W W' : World} {g : Nat} {u t : Int} (h : TB2 w W g u t) (hb : Below W.heap.size W W') : TB2 w W' g u t := by
  obtain ⟨k, _⟩ := bcell hb
  exact ⟨below_on h.b (Nat.le_refl _) hb, Nat.lt_of_lt_of_le h.lt hb.size, (k _ _ h.lt).trans h.c0, (k _ _ h.lt).trans h.c1⟩
theorem Thr0.new (w : World) (p : Pz.Pq) (a : Option Addr) (N c : Nat) (u t : Int) (hc : N ≤ c) (hn : a = none → c = 0 ∧ p.days = []) (hr : Row2 w a p.days) :
    TB2 w ((w.alloc (.cells #[.int .i64 p.id, .int .i64 p.born, .int .i64 p.a, .int .i64 p.b, .int .i64 p.ser, .slice a N c] 24)).alloc (.cells #[.int .i64 u, .int .i64 t] 26)) (w.heap.size + 1) u t ∧
      PIs ((w.alloc (.cells #[.int .i64 p.id, .int .i64 p.born, .int .i64 p.a, .int .i64 p.b, .int .i64 p.ser, .slice a N c] 24)).alloc (.cells #[.int .i64 u, .int .i64 t] 26)) w.heap.size p a N c := by
  have hs : (w.alloc (.cells #[.int .i64 p.id, .int .i64 p.born, .int .i64 p.a, .int .i64 p.b, .int .i64 p.ser, .slice a N c] 24)).heap.size = w.heap.size + 1 := by simp
  have h2 := has2_new (w.alloc (.cells #[.int .i64 p.id, .int .i64 p.born, .int .i64 p.a, .int .i64 p.b, .int .i64 p.ser, .slice a N c] 24)) u t 26
  rw [hs] at h2
  refine ⟨⟨(below_box w _).alloc (by simp) _, by rw [World.size_alloc, hs]; omega, h2.1, h2.2⟩, ?_⟩
  exact PIs.box ⟨Has6.new w p a N c _, hr.below (below_box _ _), hc, hn⟩ _
set_option maxRecDepth 100000 in
set_option maxHeartbeats 16000000 in
theorem passTells_any (p : Pz.Pq) (a : Option Addr) (N c : Nat) (n z tu tt : Int) (w : World) (hN : p.days.length = N) (hl : N ≤ maxLen) (hc : N ≤ c) (hn : a = none → c = 0 ∧ p.days = []) (hw : Laid w) (hr : Row2 w a p.days) :
    Calls Tryd.prog 3 #[pv p a N c, .int .i64 n, .int .i64 z, .agg #[.int .i64 tu, .int .i64 tt]] w fun e w' => e = .returned (.bool true) ∧ Below w.heap.size w w' := by
  obtain ⟨tg, htg⟩ : ∃ tg, w.heap.size + 1 = tg := ⟨_, rfl⟩
  have HT := Thr0.new w p a N c tu tt hc hn hr
  rw [htg] at HT
  have K0 : Hid (TB2 w _ tg tu tt) := HT.1
  have Pp : Hid (PIs _ w.heap.size p a N c) := HT.2
  have HL : Hid (p.days.length = N ∧ N ≤ maxLen) := ⟨hN, hl⟩
  have HW : Hid (Laid w) := hw
  obtain ⟨⟨ni, nb, nx, ny, ns, nl⟩, ne, hne⟩ : ∃ q e, Pz.new p.id p.born p.a p.b n tu tt = (q, e) := ⟨_, _, rfl⟩
  obtain ⟨⟨ci, cb, cx, cy, cs, cl⟩, cm, ce, hce⟩ : ∃ q m e, Pz.cut p n = (q, m, e) := ⟨_, _, _, rfl⟩
  obtain ⟨⟨ri, rb, rx, ry, rs, rl⟩, re, hre⟩ : ∃ q e, Pz.repl p = (q, e) := ⟨_, _, rfl⟩
  obtain ⟨d, hd⟩ : ∃ d, Pz.chk p = d := ⟨_, rfl⟩
  obtain ⟨hs, hhs⟩ : ∃ b, Pz.hasB p n z = b := ⟨_, rfl⟩
  have HV : Hid (Pz.new p.id p.born p.a p.b n tu tt = (⟨ni, nb, nx, ny, ns, nl⟩, ne) ∧ Pz.cut p n = (⟨ci, cb, cx, cy, cs, cl⟩, cm, ce) ∧ Pz.repl p = (⟨ri, rb, rx, ry, rs, rl⟩, re) ∧ Pz.chk p = d ∧ Pz.hasB p n z = hs) := ⟨hne, hce, hre, hd, hhs⟩
  clear HT hN hl hc hn hw hr hne hce hre hd hhs
  go_enter Tryd.func3, Tryd.ntmps3
  go_wp2_with fail
  have h1 := pZNew_any p.id p.born p.a p.b n tu tt _ (HW.out.below K0.out.b)
  rw [HV.out.1] at h1
  refine h1.mono ?_
  rintro e w1 hp
  obtain ⟨naa, nan, nac, rfl, hlen, h64, hc, hn, hr, hb⟩ := nzSay hp
  have nal : Hid (nl.length = nan ∧ nan ≤ 64) := ⟨hlen, h64⟩
  have K1 : Hid (TB2 w (w1.alloc (.cells #[.int .i64 ni, .int .i64 nb, .int .i64 nx, .int .i64 ny, .int .i64 ns, .slice naa nan nac] 24)) tg tu tt) := (K0.out.below hb).below (below_box _ _)
  have Pp : Hid (PIs (w1.alloc (.cells #[.int .i64 ni, .int .i64 nb, .int .i64 nx, .int .i64 ny, .int .i64 ns, .slice naa nan nac] 24)) w.heap.size p a N c) := (Pp.out.below hb).box _
  have Pna : Hid (PIs (w1.alloc (.cells #[.int .i64 ni, .int .i64 nb, .int .i64 nx, .int .i64 ny, .int .i64 ns, .slice naa nan nac] 24)) w1.heap.size ⟨ni, nb, nx, ny, ns, nl⟩ naa nan nac) := PIs.new hc hn hr
  clear hp h1 hc hn hr hb hlen h64
  obtain ⟨-, p0, p1, p2, p3, p4, p5⟩ := Pp.out.h
  (try simp only at p0 p1 p2 p3 p4 p5)
  obtain ⟨-, na0, na1, na2, na3, na4, na5⟩ := Pna.out.h
  (try simp only at na0 na1 na2 na3 na4 na5)
  have k0 := K1.out.c0
  have k1 := K1.out.c1
  go_wp2_with fail
  clear k0 k1 p0 p1 p2 p3 p4 p5 na0 na1 na2 na3 na4 na5
  have h1 := pZCut_any p a N c n _ HL.out.1 HL.out.2 Pp.out.k Pp.out.z Pp.out.r
  rw [HV.out.2.1] at h1
  refine h1.mono ?_
  rintro e w2 hp
  obtain ⟨caa, can, cac, rfl, hlen, h64, hc, hn, hr, hb⟩ := rzSay hp
  have cal : Hid (cl.length = can ∧ can ≤ 64) := ⟨hlen, h64⟩
  have K2 : Hid (TB2 w (w2.alloc (.cells #[.int .i64 ci, .int .i64 cb, .int .i64 cx, .int .i64 cy, .int .i64 cs, .slice caa can cac] 24)) tg tu tt) := (K1.out.below hb).below (below_box _ _)
  have Pp : Hid (PIs (w2.alloc (.cells #[.int .i64 ci, .int .i64 cb, .int .i64 cx, .int .i64 cy, .int .i64 cs, .slice caa can cac] 24)) w.heap.size p a N c) := (Pp.out.below hb).box _
  have Pna : Hid (PIs (w2.alloc (.cells #[.int .i64 ci, .int .i64 cb, .int .i64 cx, .int .i64 cy, .int .i64 cs, .slice caa can cac] 24)) w1.heap.size ⟨ni, nb, nx, ny, ns, nl⟩ naa nan nac) := (Pna.out.below hb).box _
  have Pca : Hid (PIs (w2.alloc (.cells #[.int .i64 ci, .int .i64 cb, .int .i64 cx, .int .i64 cy, .int .i64 cs, .slice caa can cac] 24)) w2.heap.size ⟨ci, cb, cx, cy, cs, cl⟩ caa can cac) := PIs.new hc hn hr
  clear hp h1 hc hn hr hb hlen h64
  obtain ⟨-, p0, p1, p2, p3, p4, p5⟩ := Pp.out.h
  (try simp only at p0 p1 p2 p3 p4 p5)
  obtain ⟨-, na0, na1, na2, na3, na4, na5⟩ := Pna.out.h
  (try simp only at na0 na1 na2 na3 na4 na5)
  obtain ⟨-, ca0, ca1, ca2, ca3, ca4, ca5⟩ := Pca.out.h
  (try simp only at ca0 ca1 ca2 ca3 ca4 ca5)
  have k0 := K2.out.c0
  have k1 := K2.out.c1
  go_wp2_with fail
  clear k0 k1 p0 p1 p2 p3 p4 p5 na0 na1 na2 na3 na4 na5 ca0 ca1 ca2 ca3 ca4 ca5
  have h1 := pZReplace_any p a N c _ HL.out.1 HL.out.2 Pp.out.k Pp.out.z Pp.out.r
  rw [HV.out.2.2.1] at h1
  refine h1.mono ?_
  rintro e w3 hp
  obtain ⟨raa, ran, rac, rfl, hlen, h64, hc, hn, hr, hb⟩ := nzSay hp
  have ral : Hid (rl.length = ran ∧ ran ≤ 64) := ⟨hlen, h64⟩
  have K3 : Hid (TB2 w (w3.alloc (.cells #[.int .i64 ri, .int .i64 rb, .int .i64 rx, .int .i64 ry, .int .i64 rs, .slice raa ran rac] 24)) tg tu tt) := (K2.out.below hb).below (below_box _ _)
  have Pp : Hid (PIs (w3.alloc (.cells #[.int .i64 ri, .int .i64 rb, .int .i64 rx, .int .i64 ry, .int .i64 rs, .slice raa ran rac] 24)) w.heap.size p a N c) := (Pp.out.below hb).box _
  have Pna : Hid (PIs (w3.alloc (.cells #[.int .i64 ri, .int .i64 rb, .int .i64 rx, .int .i64 ry, .int .i64 rs, .slice raa ran rac] 24)) w1.heap.size ⟨ni, nb, nx, ny, ns, nl⟩ naa nan nac) := (Pna.out.below hb).box _
  have Pca : Hid (PIs (w3.alloc (.cells #[.int .i64 ri, .int .i64 rb, .int .i64 rx, .int .i64 ry, .int .i64 rs, .slice raa ran rac] 24)) w2.heap.size ⟨ci, cb, cx, cy, cs, cl⟩ caa can cac) := (Pca.out.below hb).box _
  have Pra : Hid (PIs (w3.alloc (.cells #[.int .i64 ri, .int .i64 rb, .int .i64 rx, .int .i64 ry, .int .i64 rs, .slice raa ran rac] 24)) w3.heap.size ⟨ri, rb, rx, ry, rs, rl⟩ raa ran rac) := PIs.new hc hn hr
  clear hp h1 hc hn hr hb hlen h64
  obtain ⟨-, p0, p1, p2, p3, p4, p5⟩ := Pp.out.h
  (try simp only at p0 p1 p2 p3 p4 p5)
  obtain ⟨-, na0, na1, na2, na3, na4, na5⟩ := Pna.out.h
  (try simp only at na0 na1 na2 na3 na4 na5)
  obtain ⟨-, ca0, ca1, ca2, ca3, ca4, ca5⟩ := Pca.out.h
  (try simp only at ca0 ca1 ca2 ca3 ca4 ca5)
  obtain ⟨-, ra0, ra1, ra2, ra3, ra4, ra5⟩ := Pra.out.h
  (try simp only at ra0 ra1 ra2 ra3 ra4 ra5)
  have k0 := K3.out.c0
  have k1 := K3.out.c1
  go_wp2_with fail
  clear k0 k1 p0 p1 p2 p3 p4 p5 na0 na1 na2 na3 na4 na5 ca0 ca1 ca2 ca3 ca4 ca5 ra0 ra1 ra2 ra3 ra4 ra5
  have h1 := pZHas_any p a N c n z _ HL.out.1 HL.out.2 Pp.out.k Pp.out.z Pp.out.r
  rw [HV.out.2.2.2.1, HV.out.2.2.2.2] at h1
  refine h1.mono ?_
  rintro e w4 ⟨rfl, hb⟩
  have K4 : Hid (TB2 w w4 tg tu tt) := K3.out.below hb
  have Pp : Hid (PIs w4 w.heap.size p a N c) := Pp.out.below hb
  have Pna : Hid (PIs w4 w1.heap.size ⟨ni, nb, nx, ny, ns, nl⟩ naa nan nac) := Pna.out.below hb
  have Pca : Hid (PIs w4 w2.heap.size ⟨ci, cb, cx, cy, cs, cl⟩ caa can cac) := Pca.out.below hb
  have Pra : Hid (PIs w4 w3.heap.size ⟨ri, rb, rx, ry, rs, rl⟩ raa ran rac) := Pra.out.below hb
  clear h1 hb
  obtain ⟨-, p0, p1, p2, p3, p4, p5⟩ := Pp.out.h
  (try simp only at p0 p1 p2 p3 p4 p5)
  obtain ⟨-, na0, na1, na2, na3, na4, na5⟩ := Pna.out.h
  (try simp only at na0 na1 na2 na3 na4 na5)
  obtain ⟨-, ca0, ca1, ca2, ca3, ca4, ca5⟩ := Pca.out.h
  (try simp only at ca0 ca1 ca2 ca3 ca4 ca5)
  obtain ⟨-, ra0, ra1, ra2, ra3, ra4, ra5⟩ := Pra.out.h
  (try simp only at ra0 ra1 ra2 ra3 ra4 ra5)
  have k0 := K4.out.c0
  have k1 := K4.out.c1
  go_wp2_with fail
  clear k0 k1 p0 p1 p2 p3 p4 p5 na0 na1 na2 na3 na4 na5 ca0 ca1 ca2 ca3 ca4 ca5 ra0 ra1 ra2 ra3 ra4 ra5
  have h1 := passNew_any p.id p.born p.a p.b n tu tt w4
  rw [HV.out.1] at h1
  refine h1.mono ?_
  rintro e w5 hp
  obtain ⟨nda, ndn, ndc, rfl, hlen, h64, hc, hn, hr, hb⟩ := nzSay hp
  obtain rfl : nan = ndn := nal.out.1.symm.trans hlen
  have K5 : Hid (TB2 w (w5.alloc (.cells #[.int .i64 ni, .int .i64 nb, .int .i64 nx, .int .i64 ny, .int .i64 ns, .slice nda nan ndc] 24)) tg tu tt) := (K4.out.below hb).below (below_box _ _)
  have Pp : Hid (PIs (w5.alloc (.cells #[.int .i64 ni, .int .i64 nb, .int .i64 nx, .int .i64 ny, .int .i64 ns, .slice nda nan ndc] 24)) w.heap.size p a N c) := (Pp.out.below hb).box _
  have Pna : Hid (PIs (w5.alloc (.cells #[.int .i64 ni, .int .i64 nb, .int .i64 nx, .int .i64 ny, .int .i64 ns, .slice nda nan ndc] 24)) w1.heap.size ⟨ni, nb, nx, ny, ns, nl⟩ naa nan nac) := (Pna.out.below hb).box _
  have Pca : Hid (PIs (w5.alloc (.cells #[.int .i64 ni, .int .i64 nb, .int .i64 nx, .int .i64 ny, .int .i64 ns, .slice nda nan ndc] 24)) w2.heap.size ⟨ci, cb, cx, cy, cs, cl⟩ caa can cac) := (Pca.out.below hb).box _
  have Pra : Hid (PIs (w5.alloc (.cells #[.int .i64 ni, .int .i64 nb, .int .i64 nx, .int .i64 ny, .int .i64 ns, .slice nda nan ndc] 24)) w3.heap.size ⟨ri, rb, rx, ry, rs, rl⟩ raa ran rac) := (Pra.out.below hb).box _
  have Pnd : Hid (PIs (w5.alloc (.cells #[.int .i64 ni, .int .i64 nb, .int .i64 nx, .int .i64 ny, .int .i64 ns, .slice nda nan ndc] 24)) w5.heap.size ⟨ni, nb, nx, ny, ns, nl⟩ nda nan ndc) := PIs.new hc hn hr
  clear hp h1 hc hn hr hb hlen h64
  obtain ⟨-, p0, p1, p2, p3, p4, p5⟩ := Pp.out.h
  (try simp only at p0 p1 p2 p3 p4 p5)
  obtain ⟨-, na0, na1, na2, na3, na4, na5⟩ := Pna.out.h
  (try simp only at na0 na1 na2 na3 na4 na5)
  obtain ⟨-, ca0, ca1, ca2, ca3, ca4, ca5⟩ := Pca.out.h
  (try simp only at ca0 ca1 ca2 ca3 ca4 ca5)
  obtain ⟨-, ra0, ra1, ra2, ra3, ra4, ra5⟩ := Pra.out.h
  (try simp only at ra0 ra1 ra2 ra3 ra4 ra5)
  obtain ⟨-, nd0, nd1, nd2, nd3, nd4, nd5⟩ := Pnd.out.h
  (try simp only at nd0 nd1 nd2 nd3 nd4 nd5)
  have k0 := K5.out.c0
  have k1 := K5.out.c1
  go_wp2_with fail
  clear k0 k1 p0 p1 p2 p3 p4 p5 na0 na1 na2 na3 na4 na5 ca0 ca1 ca2 ca3 ca4 ca5 ra0 ra1 ra2 ra3 ra4 ra5 nd0 nd1 nd2 nd3 nd4 nd5
  have h1 := passCut_any p a N c n (w5.alloc (.cells #[.int .i64 ni, .int .i64 nb, .int .i64 nx, .int .i64 ny, .int .i64 ns, .slice nda nan ndc] 24)) HL.out.1 HL.out.2 Pp.out.k Pp.out.z Pp.out.r
  rw [HV.out.2.1] at h1
  refine h1.mono ?_
  rintro e w6 hp
  obtain ⟨cda, cdn, cdc, rfl, hlen, h64, hc, hn, hr, hb⟩ := rzSay hp
  obtain rfl : can = cdn := cal.out.1.symm.trans hlen
  have K6 : Hid (TB2 w (w6.alloc (.cells #[.int .i64 ci, .int .i64 cb, .int .i64 cx, .int .i64 cy, .int .i64 cs, .slice cda can cdc] 24)) tg tu tt) := (K5.out.below hb).below (below_box _ _)
  have Pp : Hid (PIs (w6.alloc (.cells #[.int .i64 ci, .int .i64 cb, .int .i64 cx, .int .i64 cy, .int .i64 cs, .slice cda can cdc] 24)) w.heap.size p a N c) := (Pp.out.below hb).box _
  have Pna : Hid (PIs (w6.alloc (.cells #[.int .i64 ci, .int .i64 cb, .int .i64 cx, .int .i64 cy, .int .i64 cs, .slice cda can cdc] 24)) w1.heap.size ⟨ni, nb, nx, ny, ns, nl⟩ naa nan nac) := (Pna.out.below hb).box _
  have Pca : Hid (PIs (w6.alloc (.cells #[.int .i64 ci, .int .i64 cb, .int .i64 cx, .int .i64 cy, .int .i64 cs, .slice cda can cdc] 24)) w2.heap.size ⟨ci, cb, cx, cy, cs, cl⟩ caa can cac) := (Pca.out.below hb).box _
  have Pra : Hid (PIs (w6.alloc (.cells #[.int .i64 ci, .int .i64 cb, .int .i64 cx, .int .i64 cy, .int .i64 cs, .slice cda can cdc] 24)) w3.heap.size ⟨ri, rb, rx, ry, rs, rl⟩ raa ran rac) := (Pra.out.below hb).box _
  have Pnd : Hid (PIs (w6.alloc (.cells #[.int .i64 ci, .int .i64 cb, .int .i64 cx, .int .i64 cy, .int .i64 cs, .slice cda can cdc] 24)) w5.heap.size ⟨ni, nb, nx, ny, ns, nl⟩ nda nan ndc) := (Pnd.out.below hb).box _
  have Pcd : Hid (PIs (w6.alloc (.cells #[.int .i64 ci, .int .i64 cb, .int .i64 cx, .int .i64 cy, .int .i64 cs, .slice cda can cdc] 24)) w6.heap.size ⟨ci, cb, cx, cy, cs, cl⟩ cda can cdc) := PIs.new hc hn hr
  clear hp h1 hc hn hr hb hlen h64
  obtain ⟨-, p0, p1, p2, p3, p4, p5⟩ := Pp.out.h
  (try simp only at p0 p1 p2 p3 p4 p5)
  obtain ⟨-, na0, na1, na2, na3, na4, na5⟩ := Pna.out.h
  (try simp only at na0 na1 na2 na3 na4 na5)
  obtain ⟨-, ca0, ca1, ca2, ca3, ca4, ca5⟩ := Pca.out.h
  (try simp only at ca0 ca1 ca2 ca3 ca4 ca5)
  obtain ⟨-, ra0, ra1, ra2, ra3, ra4, ra5⟩ := Pra.out.h
  (try simp only at ra0 ra1 ra2 ra3 ra4 ra5)
  obtain ⟨-, nd0, nd1, nd2, nd3, nd4, nd5⟩ := Pnd.out.h
  (try simp only at nd0 nd1 nd2 nd3 nd4 nd5)
  obtain ⟨-, cd0, cd1, cd2, cd3, cd4, cd5⟩ := Pcd.out.h
  (try simp only at cd0 cd1 cd2 cd3 cd4 cd5)
  have k0 := K6.out.c0
  have k1 := K6.out.c1
  go_wp2_with fail
  clear k0 k1 p0 p1 p2 p3 p4 p5 na0 na1 na2 na3 na4 na5 ca0 ca1 ca2 ca3 ca4 ca5 ra0 ra1 ra2 ra3 ra4 ra5 nd0 nd1 nd2 nd3 nd4 nd5 cd0 cd1 cd2 cd3 cd4 cd5
  have h1 := passReplace_any p a N c (w6.alloc (.cells #[.int .i64 ci, .int .i64 cb, .int .i64 cx, .int .i64 cy, .int .i64 cs, .slice cda can cdc] 24)) HL.out.1 HL.out.2 Pp.out.k Pp.out.z Pp.out.r
  rw [HV.out.2.2.1] at h1
  refine h1.mono ?_
  rintro e w7 hp
  obtain ⟨rda, rdn, rdc, rfl, hlen, h64, hc, hn, hr, hb⟩ := nzSay hp
  obtain rfl : ran = rdn := ral.out.1.symm.trans hlen
  have K7 : Hid (TB2 w (w7.alloc (.cells #[.int .i64 ri, .int .i64 rb, .int .i64 rx, .int .i64 ry, .int .i64 rs, .slice rda ran rdc] 24)) tg tu tt) := (K6.out.below hb).below (below_box _ _)
  have Pp : Hid (PIs (w7.alloc (.cells #[.int .i64 ri, .int .i64 rb, .int .i64 rx, .int .i64 ry, .int .i64 rs, .slice rda ran rdc] 24)) w.heap.size p a N c) := (Pp.out.below hb).box _
  have Pna : Hid (PIs (w7.alloc (.cells #[.int .i64 ri, .int .i64 rb, .int .i64 rx, .int .i64 ry, .int .i64 rs, .slice rda ran rdc] 24)) w1.heap.size ⟨ni, nb, nx, ny, ns, nl⟩ naa nan nac) := (Pna.out.below hb).box _
  have Pca : Hid (PIs (w7.alloc (.cells #[.int .i64 ri, .int .i64 rb, .int .i64 rx, .int .i64 ry, .int .i64 rs, .slice rda ran rdc] 24)) w2.heap.size ⟨ci, cb, cx, cy, cs, cl⟩ caa can cac) := (Pca.out.below hb).box _
  have Pra : Hid (PIs (w7.alloc (.cells #[.int .i64 ri, .int .i64 rb, .int .i64 rx, .int .i64 ry, .int .i64 rs, .slice rda ran rdc] 24)) w3.heap.size ⟨ri, rb, rx, ry, rs, rl⟩ raa ran rac) := (Pra.out.below hb).box _
  have Pnd : Hid (PIs (w7.alloc (.cells #[.int .i64 ri, .int .i64 rb, .int .i64 rx, .int .i64 ry, .int .i64 rs, .slice rda ran rdc] 24)) w5.heap.size ⟨ni, nb, nx, ny, ns, nl⟩ nda nan ndc) := (Pnd.out.below hb).box _
  have Pcd : Hid (PIs (w7.alloc (.cells #[.int .i64 ri, .int .i64 rb, .int .i64 rx, .int .i64 ry, .int .i64 rs, .slice rda ran rdc] 24)) w6.heap.size ⟨ci, cb, cx, cy, cs, cl⟩ cda can cdc) := (Pcd.out.below hb).box _
  have Prd : Hid (PIs (w7.alloc (.cells #[.int .i64 ri, .int .i64 rb, .int .i64 rx, .int .i64 ry, .int .i64 rs, .slice rda ran rdc] 24)) w7.heap.size ⟨ri, rb, rx, ry, rs, rl⟩ rda ran rdc) := PIs.new hc hn hr
  clear hp h1 hc hn hr hb hlen h64
  obtain ⟨-, p0, p1, p2, p3, p4, p5⟩ := Pp.out.h
  (try simp only at p0 p1 p2 p3 p4 p5)
  obtain ⟨-, na0, na1, na2, na3, na4, na5⟩ := Pna.out.h
  (try simp only at na0 na1 na2 na3 na4 na5)
  obtain ⟨-, ca0, ca1, ca2, ca3, ca4, ca5⟩ := Pca.out.h
  (try simp only at ca0 ca1 ca2 ca3 ca4 ca5)
  obtain ⟨-, ra0, ra1, ra2, ra3, ra4, ra5⟩ := Pra.out.h
  (try simp only at ra0 ra1 ra2 ra3 ra4 ra5)
  obtain ⟨-, nd0, nd1, nd2, nd3, nd4, nd5⟩ := Pnd.out.h
  (try simp only at nd0 nd1 nd2 nd3 nd4 nd5)
  obtain ⟨-, cd0, cd1, cd2, cd3, cd4, cd5⟩ := Pcd.out.h
  (try simp only at cd0 cd1 cd2 cd3 cd4 cd5)
  obtain ⟨-, rd0, rd1, rd2, rd3, rd4, rd5⟩ := Prd.out.h
  (try simp only at rd0 rd1 rd2 rd3 rd4 rd5)
  have k0 := K7.out.c0
  have k1 := K7.out.c1
  go_wp2_with fail
  clear k0 k1 p0 p1 p2 p3 p4 p5 na0 na1 na2 na3 na4 na5 ca0 ca1 ca2 ca3 ca4 ca5 ra0 ra1 ra2 ra3 ra4 ra5 nd0 nd1 nd2 nd3 nd4 nd5 cd0 cd1 cd2 cd3 cd4 cd5 rd0 rd1 rd2 rd3 rd4 rd5
  have h1 := passCheck_any p a c N (w7.alloc (.cells #[.int .i64 ri, .int .i64 rb, .int .i64 rx, .int .i64 ry, .int .i64 rs, .slice rda ran rdc] 24)) HL.out.1 HL.out.2 Pp.out.r
  rw [HV.out.2.2.2.1] at h1
  refine h1.mono ?_
  rintro e w8 ⟨rfl, hb⟩
  have K8 : Hid (TB2 w w8 tg tu tt) := K7.out.below hb
  have Pp : Hid (PIs w8 w.heap.size p a N c) := Pp.out.below hb
  have Pna : Hid (PIs w8 w1.heap.size ⟨ni, nb, nx, ny, ns, nl⟩ naa nan nac) := Pna.out.below hb
  have Pca : Hid (PIs w8 w2.heap.size ⟨ci, cb, cx, cy, cs, cl⟩ caa can cac) := Pca.out.below hb
  have Pra : Hid (PIs w8 w3.heap.size ⟨ri, rb, rx, ry, rs, rl⟩ raa ran rac) := Pra.out.below hb
  have Pnd : Hid (PIs w8 w5.heap.size ⟨ni, nb, nx, ny, ns, nl⟩ nda nan ndc) := Pnd.out.below hb
  have Pcd : Hid (PIs w8 w6.heap.size ⟨ci, cb, cx, cy, cs, cl⟩ cda can cdc) := Pcd.out.below hb
  have Prd : Hid (PIs w8 w7.heap.size ⟨ri, rb, rx, ry, rs, rl⟩ rda ran rdc) := Prd.out.below hb
  clear h1 hb
  obtain ⟨-, p0, p1, p2, p3, p4, p5⟩ := Pp.out.h
  (try simp only at p0 p1 p2 p3 p4 p5)
  obtain ⟨-, na0, na1, na2, na3, na4, na5⟩ := Pna.out.h
  (try simp only at na0 na1 na2 na3 na4 na5)
  obtain ⟨-, ca0, ca1, ca2, ca3, ca4, ca5⟩ := Pca.out.h
  (try simp only at ca0 ca1 ca2 ca3 ca4 ca5)
  obtain ⟨-, ra0, ra1, ra2, ra3, ra4, ra5⟩ := Pra.out.h
  (try simp only at ra0 ra1 ra2 ra3 ra4 ra5)
  obtain ⟨-, nd0, nd1, nd2, nd3, nd4, nd5⟩ := Pnd.out.h
  (try simp only at nd0 nd1 nd2 nd3 nd4 nd5)
  obtain ⟨-, cd0, cd1, cd2, cd3, cd4, cd5⟩ := Pcd.out.h
  (try simp only at cd0 cd1 cd2 cd3 cd4 cd5)
  obtain ⟨-, rd0, rd1, rd2, rd3, rd4, rd5⟩ := Prd.out.h
  (try simp only at rd0 rd1 rd2 rd3 rd4 rd5)
  have k0 := K8.out.c0
  have k1 := K8.out.c1
  by_cases d0 : d = 0
  · skip
    obtain ⟨hh, hhh⟩ : ∃ b, (decide (p.a ≤ z ∧ z ≤ p.b) && Spn.memB p.days n) = b := ⟨_, rfl⟩
    have HH : Hid ((decide (p.a ≤ z ∧ z ≤ p.b) && Spn.memB p.days n) = hh) := hhh
    obtain rfl : hs = hh := by rw [← HV.out.2.2.2.2, ← hhh]; unfold Pz.hasB; rw [HV.out.2.2.2.1, d0]; rfl
    clear hhh
    subst d0
    go_wp2_with fail
    clear k0 k1 p0 p1 p2 p3 p4 p5 na0 na1 na2 na3 na4 na5 ca0 ca1 ca2 ca3 ca4 ca5 ra0 ra1 ra2 ra3 ra4 ra5 nd0 nd1 nd2 nd3 nd4 nd5 cd0 cd1 cd2 cd3 cd4 cd5 rd0 rd1 rd2 rd3 rd4 rd5
    have h1 := zbegun_any w8 (HW.out.below K8.out.b)
    refine h1.mono ?_
    rintro e w9 ⟨rfl, hb⟩
    have K9 : Hid (TB2 w w9 tg tu tt) := K8.out.below hb
    have Pp : Hid (PIs w9 w.heap.size p a N c) := Pp.out.below hb
    have Pna : Hid (PIs w9 w1.heap.size ⟨ni, nb, nx, ny, ns, nl⟩ naa nan nac) := Pna.out.below hb
    have Pca : Hid (PIs w9 w2.heap.size ⟨ci, cb, cx, cy, cs, cl⟩ caa can cac) := Pca.out.below hb
    have Pra : Hid (PIs w9 w3.heap.size ⟨ri, rb, rx, ry, rs, rl⟩ raa ran rac) := Pra.out.below hb
    have Pnd : Hid (PIs w9 w5.heap.size ⟨ni, nb, nx, ny, ns, nl⟩ nda nan ndc) := Pnd.out.below hb
    have Pcd : Hid (PIs w9 w6.heap.size ⟨ci, cb, cx, cy, cs, cl⟩ cda can cdc) := Pcd.out.below hb
    have Prd : Hid (PIs w9 w7.heap.size ⟨ri, rb, rx, ry, rs, rl⟩ rda ran rdc) := Prd.out.below hb
    clear h1 hb
    obtain ⟨-, p0, p1, p2, p3, p4, p5⟩ := Pp.out.h
    (try simp only at p0 p1 p2 p3 p4 p5)
    obtain ⟨-, na0, na1, na2, na3, na4, na5⟩ := Pna.out.h
    (try simp only at na0 na1 na2 na3 na4 na5)
    obtain ⟨-, ca0, ca1, ca2, ca3, ca4, ca5⟩ := Pca.out.h
    (try simp only at ca0 ca1 ca2 ca3 ca4 ca5)
    obtain ⟨-, ra0, ra1, ra2, ra3, ra4, ra5⟩ := Pra.out.h
    (try simp only at ra0 ra1 ra2 ra3 ra4 ra5)
    obtain ⟨-, nd0, nd1, nd2, nd3, nd4, nd5⟩ := Pnd.out.h
    (try simp only at nd0 nd1 nd2 nd3 nd4 nd5)
    obtain ⟨-, cd0, cd1, cd2, cd3, cd4, cd5⟩ := Pcd.out.h
    (try simp only at cd0 cd1 cd2 cd3 cd4 cd5)
    obtain ⟨-, rd0, rd1, rd2, rd3, rd4, rd5⟩ := Prd.out.h
    (try simp only at rd0 rd1 rd2 rd3 rd4 rd5)
    have k0 := K9.out.c0
    have k1 := K9.out.c1
    go_wp2_with fail
    clear k0 k1 p0 p1 p2 p3 p4 p5 na0 na1 na2 na3 na4 na5 ca0 ca1 ca2 ca3 ca4 ca5 ra0 ra1 ra2 ra3 ra4 ra5 nd0 nd1 nd2 nd3 nd4 nd5 cd0 cd1 cd2 cd3 cd4 cd5 rd0 rd1 rd2 rd3 rd4 rd5
    have h1 := pZCheck_any p a N c w9 HL.out.1 HL.out.2 Pp.out.k Pp.out.z Pp.out.r
    rw [HV.out.2.2.2.1] at h1
    refine h1.mono ?_
    rintro e w10 ⟨rfl, hb⟩
    have K10 : Hid (TB2 w w10 tg tu tt) := K9.out.below hb
    have Pp : Hid (PIs w10 w.heap.size p a N c) := Pp.out.below hb
    have Pna : Hid (PIs w10 w1.heap.size ⟨ni, nb, nx, ny, ns, nl⟩ naa nan nac) := Pna.out.below hb
    have Pca : Hid (PIs w10 w2.heap.size ⟨ci, cb, cx, cy, cs, cl⟩ caa can cac) := Pca.out.below hb
    have Pra : Hid (PIs w10 w3.heap.size ⟨ri, rb, rx, ry, rs, rl⟩ raa ran rac) := Pra.out.below hb
    have Pnd : Hid (PIs w10 w5.heap.size ⟨ni, nb, nx, ny, ns, nl⟩ nda nan ndc) := Pnd.out.below hb
    have Pcd : Hid (PIs w10 w6.heap.size ⟨ci, cb, cx, cy, cs, cl⟩ cda can cdc) := Pcd.out.below hb
    have Prd : Hid (PIs w10 w7.heap.size ⟨ri, rb, rx, ry, rs, rl⟩ rda ran rdc) := Prd.out.below hb
    clear h1 hb
    obtain ⟨-, p0, p1, p2, p3, p4, p5⟩ := Pp.out.h
    (try simp only at p0 p1 p2 p3 p4 p5)
    obtain ⟨-, na0, na1, na2, na3, na4, na5⟩ := Pna.out.h
    (try simp only at na0 na1 na2 na3 na4 na5)
    obtain ⟨-, ca0, ca1, ca2, ca3, ca4, ca5⟩ := Pca.out.h
    (try simp only at ca0 ca1 ca2 ca3 ca4 ca5)
    obtain ⟨-, ra0, ra1, ra2, ra3, ra4, ra5⟩ := Pra.out.h
    (try simp only at ra0 ra1 ra2 ra3 ra4 ra5)
    obtain ⟨-, nd0, nd1, nd2, nd3, nd4, nd5⟩ := Pnd.out.h
    (try simp only at nd0 nd1 nd2 nd3 nd4 nd5)
    obtain ⟨-, cd0, cd1, cd2, cd3, cd4, cd5⟩ := Pcd.out.h
    (try simp only at cd0 cd1 cd2 cd3 cd4 cd5)
    obtain ⟨-, rd0, rd1, rd2, rd3, rd4, rd5⟩ := Prd.out.h
    (try simp only at rd0 rd1 rd2 rd3 rd4 rd5)
    have k0 := K10.out.c0
    have k1 := K10.out.c1
    go_wp2_with fail
    clear k0 k1 p0 p1 p2 p3 p4 p5 na0 na1 na2 na3 na4 na5 ca0 ca1 ca2 ca3 ca4 ca5 ra0 ra1 ra2 ra3 ra4 ra5 nd0 nd1 nd2 nd3 nd4 nd5 cd0 cd1 cd2 cd3 cd4 cd5 rd0 rd1 rd2 rd3 rd4 rd5
    have h1 := samePass_eq ⟨ni, nb, nx, ny, ns, nl⟩ naa nda nan nac ndc w10 nal.out.1 (by have := nal.out.2; unfold maxLen; omega) Pna.out.r Pnd.out.r
    refine h1.mono ?_
    rintro e w11 ⟨rfl, hb⟩
    have K11 : Hid (TB2 w w11 tg tu tt) := K10.out.below hb
    have Pp : Hid (PIs w11 w.heap.size p a N c) := Pp.out.below hb
    have Pna : Hid (PIs w11 w1.heap.size ⟨ni, nb, nx, ny, ns, nl⟩ naa nan nac) := Pna.out.below hb
    have Pca : Hid (PIs w11 w2.heap.size ⟨ci, cb, cx, cy, cs, cl⟩ caa can cac) := Pca.out.below hb
    have Pra : Hid (PIs w11 w3.heap.size ⟨ri, rb, rx, ry, rs, rl⟩ raa ran rac) := Pra.out.below hb
    have Pnd : Hid (PIs w11 w5.heap.size ⟨ni, nb, nx, ny, ns, nl⟩ nda nan ndc) := Pnd.out.below hb
    have Pcd : Hid (PIs w11 w6.heap.size ⟨ci, cb, cx, cy, cs, cl⟩ cda can cdc) := Pcd.out.below hb
    have Prd : Hid (PIs w11 w7.heap.size ⟨ri, rb, rx, ry, rs, rl⟩ rda ran rdc) := Prd.out.below hb
    clear h1 hb
    obtain ⟨-, p0, p1, p2, p3, p4, p5⟩ := Pp.out.h
    (try simp only at p0 p1 p2 p3 p4 p5)
    obtain ⟨-, na0, na1, na2, na3, na4, na5⟩ := Pna.out.h
    (try simp only at na0 na1 na2 na3 na4 na5)
    obtain ⟨-, ca0, ca1, ca2, ca3, ca4, ca5⟩ := Pca.out.h
    (try simp only at ca0 ca1 ca2 ca3 ca4 ca5)
    obtain ⟨-, ra0, ra1, ra2, ra3, ra4, ra5⟩ := Pra.out.h
    (try simp only at ra0 ra1 ra2 ra3 ra4 ra5)
    obtain ⟨-, nd0, nd1, nd2, nd3, nd4, nd5⟩ := Pnd.out.h
    (try simp only at nd0 nd1 nd2 nd3 nd4 nd5)
    obtain ⟨-, cd0, cd1, cd2, cd3, cd4, cd5⟩ := Pcd.out.h
    (try simp only at cd0 cd1 cd2 cd3 cd4 cd5)
    obtain ⟨-, rd0, rd1, rd2, rd3, rd4, rd5⟩ := Prd.out.h
    (try simp only at rd0 rd1 rd2 rd3 rd4 rd5)
    have k0 := K11.out.c0
    have k1 := K11.out.c1
    go_wp2_with fail
    clear k0 k1 p0 p1 p2 p3 p4 p5 na0 na1 na2 na3 na4 na5 ca0 ca1 ca2 ca3 ca4 ca5 ra0 ra1 ra2 ra3 ra4 ra5 nd0 nd1 nd2 nd3 nd4 nd5 cd0 cd1 cd2 cd3 cd4 cd5 rd0 rd1 rd2 rd3 rd4 rd5
    have h1 := samePass_eq ⟨ci, cb, cx, cy, cs, cl⟩ caa cda can cac cdc w11 cal.out.1 (by have := cal.out.2; unfold maxLen; omega) Pca.out.r Pcd.out.r
    refine h1.mono ?_
    rintro e w12 ⟨rfl, hb⟩
    have K12 : Hid (TB2 w w12 tg tu tt) := K11.out.below hb
    have Pp : Hid (PIs w12 w.heap.size p a N c) := Pp.out.below hb
    have Pna : Hid (PIs w12 w1.heap.size ⟨ni, nb, nx, ny, ns, nl⟩ naa nan nac) := Pna.out.below hb
    have Pca : Hid (PIs w12 w2.heap.size ⟨ci, cb, cx, cy, cs, cl⟩ caa can cac) := Pca.out.below hb
    have Pra : Hid (PIs w12 w3.heap.size ⟨ri, rb, rx, ry, rs, rl⟩ raa ran rac) := Pra.out.below hb
    have Pnd : Hid (PIs w12 w5.heap.size ⟨ni, nb, nx, ny, ns, nl⟩ nda nan ndc) := Pnd.out.below hb
    have Pcd : Hid (PIs w12 w6.heap.size ⟨ci, cb, cx, cy, cs, cl⟩ cda can cdc) := Pcd.out.below hb
    have Prd : Hid (PIs w12 w7.heap.size ⟨ri, rb, rx, ry, rs, rl⟩ rda ran rdc) := Prd.out.below hb
    clear h1 hb
    obtain ⟨-, p0, p1, p2, p3, p4, p5⟩ := Pp.out.h
    (try simp only at p0 p1 p2 p3 p4 p5)
    obtain ⟨-, na0, na1, na2, na3, na4, na5⟩ := Pna.out.h
    (try simp only at na0 na1 na2 na3 na4 na5)
    obtain ⟨-, ca0, ca1, ca2, ca3, ca4, ca5⟩ := Pca.out.h
    (try simp only at ca0 ca1 ca2 ca3 ca4 ca5)
    obtain ⟨-, ra0, ra1, ra2, ra3, ra4, ra5⟩ := Pra.out.h
    (try simp only at ra0 ra1 ra2 ra3 ra4 ra5)
    obtain ⟨-, nd0, nd1, nd2, nd3, nd4, nd5⟩ := Pnd.out.h
    (try simp only at nd0 nd1 nd2 nd3 nd4 nd5)
    obtain ⟨-, cd0, cd1, cd2, cd3, cd4, cd5⟩ := Pcd.out.h
    (try simp only at cd0 cd1 cd2 cd3 cd4 cd5)
    obtain ⟨-, rd0, rd1, rd2, rd3, rd4, rd5⟩ := Prd.out.h
    (try simp only at rd0 rd1 rd2 rd3 rd4 rd5)
    have k0 := K12.out.c0
    have k1 := K12.out.c1
    go_wp2_with fail
    clear k0 k1 p0 p1 p2 p3 p4 p5 na0 na1 na2 na3 na4 na5 ca0 ca1 ca2 ca3 ca4 ca5 ra0 ra1 ra2 ra3 ra4 ra5 nd0 nd1 nd2 nd3 nd4 nd5 cd0 cd1 cd2 cd3 cd4 cd5 rd0 rd1 rd2 rd3 rd4 rd5
    have h1 := samePass_eq ⟨ri, rb, rx, ry, rs, rl⟩ raa rda ran rac rdc w12 ral.out.1 (by have := ral.out.2; unfold maxLen; omega) Pra.out.r Prd.out.r
    refine h1.mono ?_
    rintro e w13 ⟨rfl, hb⟩
    have K13 : Hid (TB2 w w13 tg tu tt) := K12.out.below hb
    have Pp : Hid (PIs w13 w.heap.size p a N c) := Pp.out.below hb
    have Pna : Hid (PIs w13 w1.heap.size ⟨ni, nb, nx, ny, ns, nl⟩ naa nan nac) := Pna.out.below hb
    have Pca : Hid (PIs w13 w2.heap.size ⟨ci, cb, cx, cy, cs, cl⟩ caa can cac) := Pca.out.below hb
    have Pra : Hid (PIs w13 w3.heap.size ⟨ri, rb, rx, ry, rs, rl⟩ raa ran rac) := Pra.out.below hb
    have Pnd : Hid (PIs w13 w5.heap.size ⟨ni, nb, nx, ny, ns, nl⟩ nda nan ndc) := Pnd.out.below hb
    have Pcd : Hid (PIs w13 w6.heap.size ⟨ci, cb, cx, cy, cs, cl⟩ cda can cdc) := Pcd.out.below hb
    have Prd : Hid (PIs w13 w7.heap.size ⟨ri, rb, rx, ry, rs, rl⟩ rda ran rdc) := Prd.out.below hb
    clear h1 hb
    obtain ⟨-, p0, p1, p2, p3, p4, p5⟩ := Pp.out.h
    (try simp only at p0 p1 p2 p3 p4 p5)
    obtain ⟨-, na0, na1, na2, na3, na4, na5⟩ := Pna.out.h
    (try simp only at na0 na1 na2 na3 na4 na5)
    obtain ⟨-, ca0, ca1, ca2, ca3, ca4, ca5⟩ := Pca.out.h
    (try simp only at ca0 ca1 ca2 ca3 ca4 ca5)
    obtain ⟨-, ra0, ra1, ra2, ra3, ra4, ra5⟩ := Pra.out.h
    (try simp only at ra0 ra1 ra2 ra3 ra4 ra5)
    obtain ⟨-, nd0, nd1, nd2, nd3, nd4, nd5⟩ := Pnd.out.h
    (try simp only at nd0 nd1 nd2 nd3 nd4 nd5)
    obtain ⟨-, cd0, cd1, cd2, cd3, cd4, cd5⟩ := Pcd.out.h
    (try simp only at cd0 cd1 cd2 cd3 cd4 cd5)
    obtain ⟨-, rd0, rd1, rd2, rd3, rd4, rd5⟩ := Prd.out.h
    (try simp only at rd0 rd1 rd2 rd3 rd4 rd5)
    have k0 := K13.out.c0
    have k1 := K13.out.c1
    go_wp2_with fail
    clear k0 k1 p0 p1 p2 p3 p4 p5 na0 na1 na2 na3 na4 na5 ca0 ca1 ca2 ca3 ca4 ca5 ra0 ra1 ra2 ra3 ra4 ra5 nd0 nd1 nd2 nd3 nd4 nd5 cd0 cd1 cd2 cd3 cd4 cd5 rd0 rd1 rd2 rd3 rd4 rd5
    have h1 := passHas_any p a N c n z hs w13 HL.out.1 HL.out.2 HH.out Pp.out.r
    refine h1.mono ?_
    rintro e w14 ⟨rfl, hb⟩
    have K14 : Hid (TB2 w w14 tg tu tt) := K13.out.below hb
    have Pp : Hid (PIs w14 w.heap.size p a N c) := Pp.out.below hb
    have Pna : Hid (PIs w14 w1.heap.size ⟨ni, nb, nx, ny, ns, nl⟩ naa nan nac) := Pna.out.below hb
    have Pca : Hid (PIs w14 w2.heap.size ⟨ci, cb, cx, cy, cs, cl⟩ caa can cac) := Pca.out.below hb
    have Pra : Hid (PIs w14 w3.heap.size ⟨ri, rb, rx, ry, rs, rl⟩ raa ran rac) := Pra.out.below hb
    have Pnd : Hid (PIs w14 w5.heap.size ⟨ni, nb, nx, ny, ns, nl⟩ nda nan ndc) := Pnd.out.below hb
    have Pcd : Hid (PIs w14 w6.heap.size ⟨ci, cb, cx, cy, cs, cl⟩ cda can cdc) := Pcd.out.below hb
    have Prd : Hid (PIs w14 w7.heap.size ⟨ri, rb, rx, ry, rs, rl⟩ rda ran rdc) := Prd.out.below hb
    clear h1 hb
    obtain ⟨-, p0, p1, p2, p3, p4, p5⟩ := Pp.out.h
    (try simp only at p0 p1 p2 p3 p4 p5)
    obtain ⟨-, na0, na1, na2, na3, na4, na5⟩ := Pna.out.h
    (try simp only at na0 na1 na2 na3 na4 na5)
    obtain ⟨-, ca0, ca1, ca2, ca3, ca4, ca5⟩ := Pca.out.h
    (try simp only at ca0 ca1 ca2 ca3 ca4 ca5)
    obtain ⟨-, ra0, ra1, ra2, ra3, ra4, ra5⟩ := Pra.out.h
    (try simp only at ra0 ra1 ra2 ra3 ra4 ra5)
    obtain ⟨-, nd0, nd1, nd2, nd3, nd4, nd5⟩ := Pnd.out.h
    (try simp only at nd0 nd1 nd2 nd3 nd4 nd5)
    obtain ⟨-, cd0, cd1, cd2, cd3, cd4, cd5⟩ := Pcd.out.h
    (try simp only at cd0 cd1 cd2 cd3 cd4 cd5)
    obtain ⟨-, rd0, rd1, rd2, rd3, rd4, rd5⟩ := Prd.out.h
    (try simp only at rd0 rd1 rd2 rd3 rd4 rd5)
    have k0 := K14.out.c0
    have k1 := K14.out.c1
    go_wp2
    go_ret
    exact ⟨rfl, K14.out.b⟩
  · skip
    obtain rfl : hs = false := by rw [← HV.out.2.2.2.2]; unfold Pz.hasB; rw [HV.out.2.2.2.1, decide_eq_false d0]; rfl
    have d1 : (d == 0) = false := by simpa using d0
    clear d0
    go_wp2_with fail
    clear k0 k1 p0 p1 p2 p3 p4 p5 na0 na1 na2 na3 na4 na5 ca0 ca1 ca2 ca3 ca4 ca5 ra0 ra1 ra2 ra3 ra4 ra5 nd0 nd1 nd2 nd3 nd4 nd5 cd0 cd1 cd2 cd3 cd4 cd5 rd0 rd1 rd2 rd3 rd4 rd5
    have h1 := zbegun_any w8 (HW.out.below K8.out.b)
    refine h1.mono ?_
    rintro e w9 ⟨rfl, hb⟩
    have K9 : Hid (TB2 w w9 tg tu tt) := K8.out.below hb
    have Pp : Hid (PIs w9 w.heap.size p a N c) := Pp.out.below hb
    have Pna : Hid (PIs w9 w1.heap.size ⟨ni, nb, nx, ny, ns, nl⟩ naa nan nac) := Pna.out.below hb
    have Pca : Hid (PIs w9 w2.heap.size ⟨ci, cb, cx, cy, cs, cl⟩ caa can cac) := Pca.out.below hb
    have Pra : Hid (PIs w9 w3.heap.size ⟨ri, rb, rx, ry, rs, rl⟩ raa ran rac) := Pra.out.below hb
    have Pnd : Hid (PIs w9 w5.heap.size ⟨ni, nb, nx, ny, ns, nl⟩ nda nan ndc) := Pnd.out.below hb
    have Pcd : Hid (PIs w9 w6.heap.size ⟨ci, cb, cx, cy, cs, cl⟩ cda can cdc) := Pcd.out.below hb
    have Prd : Hid (PIs w9 w7.heap.size ⟨ri, rb, rx, ry, rs, rl⟩ rda ran rdc) := Prd.out.below hb
    clear h1 hb
    obtain ⟨-, p0, p1, p2, p3, p4, p5⟩ := Pp.out.h
    (try simp only at p0 p1 p2 p3 p4 p5)
    obtain ⟨-, na0, na1, na2, na3, na4, na5⟩ := Pna.out.h
    (try simp only at na0 na1 na2 na3 na4 na5)
    obtain ⟨-, ca0, ca1, ca2, ca3, ca4, ca5⟩ := Pca.out.h
    (try simp only at ca0 ca1 ca2 ca3 ca4 ca5)
    obtain ⟨-, ra0, ra1, ra2, ra3, ra4, ra5⟩ := Pra.out.h
    (try simp only at ra0 ra1 ra2 ra3 ra4 ra5)
    obtain ⟨-, nd0, nd1, nd2, nd3, nd4, nd5⟩ := Pnd.out.h
    (try simp only at nd0 nd1 nd2 nd3 nd4 nd5)
    obtain ⟨-, cd0, cd1, cd2, cd3, cd4, cd5⟩ := Pcd.out.h
    (try simp only at cd0 cd1 cd2 cd3 cd4 cd5)
    obtain ⟨-, rd0, rd1, rd2, rd3, rd4, rd5⟩ := Prd.out.h
    (try simp only at rd0 rd1 rd2 rd3 rd4 rd5)
    have k0 := K9.out.c0
    have k1 := K9.out.c1
    go_wp2_with fail
    clear k0 k1 p0 p1 p2 p3 p4 p5 na0 na1 na2 na3 na4 na5 ca0 ca1 ca2 ca3 ca4 ca5 ra0 ra1 ra2 ra3 ra4 ra5 nd0 nd1 nd2 nd3 nd4 nd5 cd0 cd1 cd2 cd3 cd4 cd5 rd0 rd1 rd2 rd3 rd4 rd5
    have h1 := pZCheck_any p a N c w9 HL.out.1 HL.out.2 Pp.out.k Pp.out.z Pp.out.r
    rw [HV.out.2.2.2.1] at h1
    refine h1.mono ?_
    rintro e w10 ⟨rfl, hb⟩
    have K10 : Hid (TB2 w w10 tg tu tt) := K9.out.below hb
    have Pp : Hid (PIs w10 w.heap.size p a N c) := Pp.out.below hb
    have Pna : Hid (PIs w10 w1.heap.size ⟨ni, nb, nx, ny, ns, nl⟩ naa nan nac) := Pna.out.below hb
    have Pca : Hid (PIs w10 w2.heap.size ⟨ci, cb, cx, cy, cs, cl⟩ caa can cac) := Pca.out.below hb
    have Pra : Hid (PIs w10 w3.heap.size ⟨ri, rb, rx, ry, rs, rl⟩ raa ran rac) := Pra.out.below hb
    have Pnd : Hid (PIs w10 w5.heap.size ⟨ni, nb, nx, ny, ns, nl⟩ nda nan ndc) := Pnd.out.below hb
    have Pcd : Hid (PIs w10 w6.heap.size ⟨ci, cb, cx, cy, cs, cl⟩ cda can cdc) := Pcd.out.below hb
    have Prd : Hid (PIs w10 w7.heap.size ⟨ri, rb, rx, ry, rs, rl⟩ rda ran rdc) := Prd.out.below hb
    clear h1 hb
    obtain ⟨-, p0, p1, p2, p3, p4, p5⟩ := Pp.out.h
    (try simp only at p0 p1 p2 p3 p4 p5)
    obtain ⟨-, na0, na1, na2, na3, na4, na5⟩ := Pna.out.h
    (try simp only at na0 na1 na2 na3 na4 na5)
    obtain ⟨-, ca0, ca1, ca2, ca3, ca4, ca5⟩ := Pca.out.h
    (try simp only at ca0 ca1 ca2 ca3 ca4 ca5)
    obtain ⟨-, ra0, ra1, ra2, ra3, ra4, ra5⟩ := Pra.out.h
    (try simp only at ra0 ra1 ra2 ra3 ra4 ra5)
    obtain ⟨-, nd0, nd1, nd2, nd3, nd4, nd5⟩ := Pnd.out.h
    (try simp only at nd0 nd1 nd2 nd3 nd4 nd5)
    obtain ⟨-, cd0, cd1, cd2, cd3, cd4, cd5⟩ := Pcd.out.h
    (try simp only at cd0 cd1 cd2 cd3 cd4 cd5)
    obtain ⟨-, rd0, rd1, rd2, rd3, rd4, rd5⟩ := Prd.out.h
    (try simp only at rd0 rd1 rd2 rd3 rd4 rd5)
    have k0 := K10.out.c0
    have k1 := K10.out.c1
    go_wp2_with fail
    clear k0 k1 p0 p1 p2 p3 p4 p5 na0 na1 na2 na3 na4 na5 ca0 ca1 ca2 ca3 ca4 ca5 ra0 ra1 ra2 ra3 ra4 ra5 nd0 nd1 nd2 nd3 nd4 nd5 cd0 cd1 cd2 cd3 cd4 cd5 rd0 rd1 rd2 rd3 rd4 rd5
    have h1 := samePass_eq ⟨ni, nb, nx, ny, ns, nl⟩ naa nda nan nac ndc w10 nal.out.1 (by have := nal.out.2; unfold maxLen; omega) Pna.out.r Pnd.out.r
    refine h1.mono ?_
    rintro e w11 ⟨rfl, hb⟩
    have K11 : Hid (TB2 w w11 tg tu tt) := K10.out.below hb
    have Pp : Hid (PIs w11 w.heap.size p a N c) := Pp.out.below hb
    have Pna : Hid (PIs w11 w1.heap.size ⟨ni, nb, nx, ny, ns, nl⟩ naa nan nac) := Pna.out.below hb
    have Pca : Hid (PIs w11 w2.heap.size ⟨ci, cb, cx, cy, cs, cl⟩ caa can cac) := Pca.out.below hb
    have Pra : Hid (PIs w11 w3.heap.size ⟨ri, rb, rx, ry, rs, rl⟩ raa ran rac) := Pra.out.below hb
    have Pnd : Hid (PIs w11 w5.heap.size ⟨ni, nb, nx, ny, ns, nl⟩ nda nan ndc) := Pnd.out.below hb
    have Pcd : Hid (PIs w11 w6.heap.size ⟨ci, cb, cx, cy, cs, cl⟩ cda can cdc) := Pcd.out.below hb
    have Prd : Hid (PIs w11 w7.heap.size ⟨ri, rb, rx, ry, rs, rl⟩ rda ran rdc) := Prd.out.below hb
    clear h1 hb
    obtain ⟨-, p0, p1, p2, p3, p4, p5⟩ := Pp.out.h
    (try simp only at p0 p1 p2 p3 p4 p5)
    obtain ⟨-, na0, na1, na2, na3, na4, na5⟩ := Pna.out.h
    (try simp only at na0 na1 na2 na3 na4 na5)
    obtain ⟨-, ca0, ca1, ca2, ca3, ca4, ca5⟩ := Pca.out.h
    (try simp only at ca0 ca1 ca2 ca3 ca4 ca5)
    obtain ⟨-, ra0, ra1, ra2, ra3, ra4, ra5⟩ := Pra.out.h
    (try simp only at ra0 ra1 ra2 ra3 ra4 ra5)
    obtain ⟨-, nd0, nd1, nd2, nd3, nd4, nd5⟩ := Pnd.out.h
    (try simp only at nd0 nd1 nd2 nd3 nd4 nd5)
    obtain ⟨-, cd0, cd1, cd2, cd3, cd4, cd5⟩ := Pcd.out.h
    (try simp only at cd0 cd1 cd2 cd3 cd4 cd5)
    obtain ⟨-, rd0, rd1, rd2, rd3, rd4, rd5⟩ := Prd.out.h
    (try simp only at rd0 rd1 rd2 rd3 rd4 rd5)
    have k0 := K11.out.c0
    have k1 := K11.out.c1
    go_wp2_with fail
    clear k0 k1 p0 p1 p2 p3 p4 p5 na0 na1 na2 na3 na4 na5 ca0 ca1 ca2 ca3 ca4 ca5 ra0 ra1 ra2 ra3 ra4 ra5 nd0 nd1 nd2 nd3 nd4 nd5 cd0 cd1 cd2 cd3 cd4 cd5 rd0 rd1 rd2 rd3 rd4 rd5
    have h1 := samePass_eq ⟨ci, cb, cx, cy, cs, cl⟩ caa cda can cac cdc w11 cal.out.1 (by have := cal.out.2; unfold maxLen; omega) Pca.out.r Pcd.out.r
    refine h1.mono ?_
    rintro e w12 ⟨rfl, hb⟩
    have K12 : Hid (TB2 w w12 tg tu tt) := K11.out.below hb
    have Pp : Hid (PIs w12 w.heap.size p a N c) := Pp.out.below hb
    have Pna : Hid (PIs w12 w1.heap.size ⟨ni, nb, nx, ny, ns, nl⟩ naa nan nac) := Pna.out.below hb
    have Pca : Hid (PIs w12 w2.heap.size ⟨ci, cb, cx, cy, cs, cl⟩ caa can cac) := Pca.out.below hb
    have Pra : Hid (PIs w12 w3.heap.size ⟨ri, rb, rx, ry, rs, rl⟩ raa ran rac) := Pra.out.below hb
    have Pnd : Hid (PIs w12 w5.heap.size ⟨ni, nb, nx, ny, ns, nl⟩ nda nan ndc) := Pnd.out.below hb
    have Pcd : Hid (PIs w12 w6.heap.size ⟨ci, cb, cx, cy, cs, cl⟩ cda can cdc) := Pcd.out.below hb
    have Prd : Hid (PIs w12 w7.heap.size ⟨ri, rb, rx, ry, rs, rl⟩ rda ran rdc) := Prd.out.below hb
    clear h1 hb
    obtain ⟨-, p0, p1, p2, p3, p4, p5⟩ := Pp.out.h
    (try simp only at p0 p1 p2 p3 p4 p5)
    obtain ⟨-, na0, na1, na2, na3, na4, na5⟩ := Pna.out.h
    (try simp only at na0 na1 na2 na3 na4 na5)
    obtain ⟨-, ca0, ca1, ca2, ca3, ca4, ca5⟩ := Pca.out.h
    (try simp only at ca0 ca1 ca2 ca3 ca4 ca5)
    obtain ⟨-, ra0, ra1, ra2, ra3, ra4, ra5⟩ := Pra.out.h
    (try simp only at ra0 ra1 ra2 ra3 ra4 ra5)
    obtain ⟨-, nd0, nd1, nd2, nd3, nd4, nd5⟩ := Pnd.out.h
    (try simp only at nd0 nd1 nd2 nd3 nd4 nd5)
    obtain ⟨-, cd0, cd1, cd2, cd3, cd4, cd5⟩ := Pcd.out.h
    (try simp only at cd0 cd1 cd2 cd3 cd4 cd5)
    obtain ⟨-, rd0, rd1, rd2, rd3, rd4, rd5⟩ := Prd.out.h
    (try simp only at rd0 rd1 rd2 rd3 rd4 rd5)
    have k0 := K12.out.c0
    have k1 := K12.out.c1
    go_wp2_with fail
    clear k0 k1 p0 p1 p2 p3 p4 p5 na0 na1 na2 na3 na4 na5 ca0 ca1 ca2 ca3 ca4 ca5 ra0 ra1 ra2 ra3 ra4 ra5 nd0 nd1 nd2 nd3 nd4 nd5 cd0 cd1 cd2 cd3 cd4 cd5 rd0 rd1 rd2 rd3 rd4 rd5
    have h1 := samePass_eq ⟨ri, rb, rx, ry, rs, rl⟩ raa rda ran rac rdc w12 ral.out.1 (by have := ral.out.2; unfold maxLen; omega) Pra.out.r Prd.out.r
    refine h1.mono ?_
    rintro e w13 ⟨rfl, hb⟩
    have K13 : Hid (TB2 w w13 tg tu tt) := K12.out.below hb
    have Pp : Hid (PIs w13 w.heap.size p a N c) := Pp.out.below hb
    have Pna : Hid (PIs w13 w1.heap.size ⟨ni, nb, nx, ny, ns, nl⟩ naa nan nac) := Pna.out.below hb
    have Pca : Hid (PIs w13 w2.heap.size ⟨ci, cb, cx, cy, cs, cl⟩ caa can cac) := Pca.out.below hb
    have Pra : Hid (PIs w13 w3.heap.size ⟨ri, rb, rx, ry, rs, rl⟩ raa ran rac) := Pra.out.below hb
    have Pnd : Hid (PIs w13 w5.heap.size ⟨ni, nb, nx, ny, ns, nl⟩ nda nan ndc) := Pnd.out.below hb
    have Pcd : Hid (PIs w13 w6.heap.size ⟨ci, cb, cx, cy, cs, cl⟩ cda can cdc) := Pcd.out.below hb
    have Prd : Hid (PIs w13 w7.heap.size ⟨ri, rb, rx, ry, rs, rl⟩ rda ran rdc) := Prd.out.below hb
    clear h1 hb
    obtain ⟨-, p0, p1, p2, p3, p4, p5⟩ := Pp.out.h
    (try simp only at p0 p1 p2 p3 p4 p5)
    obtain ⟨-, na0, na1, na2, na3, na4, na5⟩ := Pna.out.h
    (try simp only at na0 na1 na2 na3 na4 na5)
    obtain ⟨-, ca0, ca1, ca2, ca3, ca4, ca5⟩ := Pca.out.h
    (try simp only at ca0 ca1 ca2 ca3 ca4 ca5)
    obtain ⟨-, ra0, ra1, ra2, ra3, ra4, ra5⟩ := Pra.out.h
    (try simp only at ra0 ra1 ra2 ra3 ra4 ra5)
    obtain ⟨-, nd0, nd1, nd2, nd3, nd4, nd5⟩ := Pnd.out.h
    (try simp only at nd0 nd1 nd2 nd3 nd4 nd5)
    obtain ⟨-, cd0, cd1, cd2, cd3, cd4, cd5⟩ := Pcd.out.h
    (try simp only at cd0 cd1 cd2 cd3 cd4 cd5)
    obtain ⟨-, rd0, rd1, rd2, rd3, rd4, rd5⟩ := Prd.out.h
    (try simp only at rd0 rd1 rd2 rd3 rd4 rd5)
    have k0 := K13.out.c0
    have k1 := K13.out.c1
    go_wp2
    go_ret
    exact ⟨rfl, K13.out.b⟩
end Go.Proofs.YtandlmnbnjkklaaDoor
