/- What must be in any case of passes. -/
import Derived.Test.YtandlmnbnjkklaaGreatDoorPzW7ToPzBp
import Derived.Test.YtandlmnbnjkklaaGreatDoorPzW7ToPzBp
namespace Go.Proofs.YtandlmnbnjkklaaGreatDoor
open Go.RowKit Go.BigFrame

/-- a pass in words: what a caller gets -/
abbrev v6 (i b x y s : Int) (a : Option Addr) (n c : Nat) : Value := .agg #[.int .i64 i, .int .i64 b, .int .i64 x, .int .i64 y, .int .i64 s, .slice a n c]
theorem rzIs {w w' : World} {i b x y s m : Int} {l : List Spn.Sp} {k : Nat} {e : Ending} (hk : l.length = k) (h : rzPost w (⟨i, b, x, y, s, l⟩, m, 0) e w') : ∃ a c, e = .returned (.tuple #[v6 i b x y s a k c, .int .i64 m, .int .i64 0]) ∧ k ≤ c ∧ (a = none → c = 0 ∧ l = []) ∧ Row2 w' a l ∧ Below w.heap.size w w' := by
  obtain ⟨a, n, c, rfl, hn, h1, h2, h3, h4, h5⟩ := h
  obtain rfl : n = k := hn.symm.trans hk
  exact ⟨a, c, rfl, h1, h3, h4, h5⟩
theorem nzIs {w w' : World} {i b x y s : Int} {l : List Spn.Sp} {k : Nat} {e : Ending} (hk : l.length = k) (h : nzPost w (⟨i, b, x, y, s, l⟩, 0) e w') : ∃ a c, e = .returned (.tuple #[v6 i b x y s a k c, .int .i64 0]) ∧ k ≤ c ∧ (a = none → c = 0 ∧ l = []) ∧ Row2 w' a l ∧ Below w.heap.size w w' := by
  obtain ⟨a, n, c, rfl, hn, h1, h2, h3, h4, h5⟩ := h
  obtain rfl : n = k := hn.symm.trans hk
  exact ⟨a, c, rfl, h1, h3, h4, h5⟩
/-- a pass that lies there: its box and its days -/
structure PIs (w : World) (g : Nat) (p : Pz.Pq) (a : Option Addr) (n c : Nat) : Prop where
  h : Has6 w g p a n c
  r : Row2 w a p.days
  k : n ≤ c
  z : a = none → c = 0 ∧ p.days = []
theorem PIs.below {w w' : World} {g n c : Nat} {p : Pz.Pq} {a : Option Addr} (h : PIs w g p a n c) (hb : Below w.heap.size w w') : PIs w' g p a n c := ⟨h.h.below hb, h.r.below hb, h.k, h.z⟩
theorem PIs.box {w : World} {g n c : Nat} {p : Pz.Pq} {a : Option Addr} (h : PIs w g p a n c) (o : Obj) : PIs (w.alloc o) g p a n c := h.below (below_box _ _)
theorem PIs.new {w : World} {n c : Nat} {i b x y s : Int} {l : List Spn.Sp} {a : Option Addr} (h1 : n ≤ c) (h2 : a = none → c = 0 ∧ l = []) (h3 : Row2 w a l) : PIs (w.alloc (.cells #[.int .i64 i, .int .i64 b, .int .i64 x, .int .i64 y, .int .i64 s, .slice a n c] 24)) w.heap.size ⟨i, b, x, y, s, l⟩ a n c :=
  ⟨Has6.new w ⟨i, b, x, y, s, l⟩ a n c _, h3.below (below_box _ _), h1, h2⟩
set_option maxRecDepth 100000 in
set_option maxHeartbeats 2000000 in
theorem wren_any (w : World) :
    Calls Tryz.prog 37 #[] w fun e w' => ∃ a c, e = .returned (v6 7 690000 1 3 1 a 1 c) ∧ 1 ≤ c ∧ Row2 w' a [(700000, 700007)] ∧ Below w.heap.size w w' := by
  have Z0 : Hid (Z6 _ w.heap.size) := Z6.new w 24
  have HB0 : Hid (Below w.heap.size w _) := below_box w (.cells #[.int .i64 0, .int .i64 0, .int .i64 0, .int .i64 0, .int .i64 0, .slice none 0 0] 24)
  go_enter Tryz.func37, Tryz.ntmps37
  go_wp2_with fail
  refine (mkSpan_any _ _ _).mono ?_
  rintro e w1 ⟨rfl, b1⟩
  have Z1 : Hid (Z6 w1 w.heap.size) := Z0.out.below b1
  have B1 : Hid (Below w.heap.size w w1) := below_on HB0.out (Nat.le_refl _) b1
  clear b1 Z0 HB0
  have RB : Hid (Row2 (w1.alloc (.cells #[.int .i64 700000, .int .i64 700007] 49)) (some ⟨w1.heap.size, 0, none⟩) [(700000, 700007)]) := lit_row w1 _ _ rfl (by simp [maxLen])
  go_wp2_with fail
  refine (listS_any _ _ _ _).mono ?_
  rintro e w2 ⟨rfl, b2⟩
  have R2 : Hid (Row2 w2 (some ⟨w1.heap.size, 0, none⟩) [(700000, 700007)]) := RB.out.below b2
  have b12 := below_on (below_box w1 (.cells #[.int .i64 700000, .int .i64 700007] 49)) (Nat.le_refl _) b2
  have Z2 : Hid (Z6 w2 w.heap.size) := Z1.out.below b12
  have B2 : Hid (Below w.heap.size w w2) := below_on B1.out (Nat.le_refl _) b12
  have hlt := Z1.out.lt
  clear b12 b2
  obtain ⟨-, z0, z1, z2, z3, z4, z5, g⟩ := Z2.out
  have g0 := g 0
  have g1 := g 1
  have g2 := g 2
  have g3 := g 3
  have g4 := g 4
  have g5 := g 5
  clear g
  go_wp2
  refine bodyPost_ret (v := v6 7 690000 1 3 1 (some ⟨w1.heap.size, 0, none⟩) 1 1) (by simp [results, Tryz.results37, go_sem, *]) rfl ?_
  exact ⟨_, 1, rfl, Nat.le_refl _, six_row R2.out (fun b off e => by cases e; omega) _ _ _ _ _ _, six_below B2.out (Nat.le_refl _) _ _ _ _ _ _⟩
/-- the week's box -/
structure WkB (w W : World) : Prop where
  b : Below w.heap.size w W
  lt : w.heap.size < W.heap.size
  c0 : W.cell? ⟨w.heap.size, 0, none⟩ = some (.int .i64 2)
  c1 : W.cell? ⟨w.heap.size, 1, none⟩ = some (.int .i64 1)
theorem WkB.new (w : World) : WkB w (w.alloc (.cells #[.int .i64 2, .int .i64 1] 26)) := ⟨below_box _ _, by simp, (has2_new w 2 1 26).1, (has2_new w 2 1 26).2⟩
theorem WkB.below {w W W' : World} (h : WkB w W) (hb : Below W.heap.size W W') : WkB w W' := by
  obtain ⟨k, _⟩ := bcell hb
  exact ⟨below_on h.b (Nat.le_refl _) hb, Nat.lt_of_lt_of_le h.lt hb.size, (k _ _ h.lt).trans h.c0, (k _ _ h.lt).trans h.c1⟩
/-- the four passes that are made, in a world -/
structure BS (w W : World) (gp gq gr gt : Nat) (pa qa ra ta : Option Addr) (pc qc rc tc : Nat) : Prop where
  b : Below w.heap.size w W
  p : PIs W gp ⟨7, 690000, 1, 3, 1, [(700000, 700007)]⟩ pa 1 pc
  q : PIs W gq ⟨7, 690000, 1, 3, 1, [(700000, 700014)]⟩ qa 1 qc
  r : PIs W gr ⟨7, 690000, 1, 3, 1, [(700000, 700007), (700010, 700017)]⟩ ra 2 rc
  t : PIs W gt ⟨7, 690000, 1, 3, 2, [(700000, 700005)]⟩ ta 1 tc
theorem BS.on {w W W' : World} {gp gq gr gt : Nat} {pa qa ra ta : Option Addr} {pc qc rc tc : Nat} (h : BS w W gp gq gr gt pa qa ra ta pc qc rc tc) (hb : Below W.heap.size W W') : BS w W' gp gq gr gt pa qa ra ta pc qc rc tc := ⟨below_on h.b (Nat.le_refl _) hb, h.p.below hb, h.q.below hb, h.r.below hb, h.t.below hb⟩
theorem BS.drew {w W : World} {gp gq gr gt : Nat} {pa qa ra ta : Option Addr} {pc qc rc tc : Nat} (h : Hid (BS w W gp gq gr gt pa qa ra ta pc qc rc tc)) : Hid (BS w W.drew gp gq gr gt pa qa ra ta pc qc rc tc) := h.out.on (below_drewN (Below.refl _ _) 1)
theorem BS.box {w W : World} {gp gq gr gt : Nat} {pa qa ra ta : Option Addr} {pc qc rc tc : Nat} (h : Hid (BS w W gp gq gr gt pa qa ra ta pc qc rc tc)) (o : Obj) : Hid (BS w (W.alloc o) gp gq gr gt pa qa ra ta pc qc rc tc) := h.out.on (below_box _ _)
theorem BS.S {w W : World} {gp gq gr gt : Nat} {pa qa ra ta : Option Addr} {pc qc rc tc : Nat} (h : Hid (BS w W gp gq gr gt pa qa ra ta pc qc rc tc)) : W.cell? ⟨gp, 0, none⟩ = some (.int .i64 7) ∧ W.cell? ⟨gp, 1, none⟩ = some (.int .i64 690000) ∧ W.cell? ⟨gp, 2, none⟩ = some (.int .i64 1) ∧ W.cell? ⟨gp, 3, none⟩ = some (.int .i64 3) ∧ W.cell? ⟨gp, 4, none⟩ = some (.int .i64 1) ∧ W.cell? ⟨gp, 5, none⟩ = some (.slice pa 1 pc) ∧ W.cell? ⟨gq, 5, none⟩ = some (.slice qa 1 qc) ∧ W.cell? ⟨gr, 5, none⟩ = some (.slice ra 2 rc) ∧ W.cell? ⟨gt, 4, none⟩ = some (.int .i64 2) ∧ Hid (BS w W gp gq gr gt pa qa ra ta pc qc rc tc) :=
  ⟨h.out.p.h.c0, h.out.p.h.c1, h.out.p.h.c2, h.out.p.h.c3, h.out.p.h.c4, h.out.p.h.c5, h.out.q.h.c5, h.out.r.h.c5, h.out.t.h.c4, h⟩
set_option maxRecDepth 100000 in
set_option maxHeartbeats 8000000 in
theorem zbegun_any (w : World) (hw : Laid w) :
    Calls Tryz.prog 10 #[] w fun e w' => e = .returned (.bool true) ∧ Below w.heap.size w w' := by
  have HW : Hid (Laid w) := hw
  have K0 : Hid (WkB w _) := WkB.new w
  clear hw
  go_enter Tryz.func10, Tryz.ntmps10
  go_wp2_with fail
  have h1 := pZNew_any 7 690000 1 3 700000 2 1 (w.alloc (.cells #[.int .i64 2, .int .i64 1] 26)) (HW.out.below K0.out.b)
  rw [Pz.b_new] at h1
  refine h1.mono ?_
  rintro e w1 hp
  obtain ⟨pa, pc, rfl, hc, hn, hr, hb⟩ := nzIs rfl hp
  have K1 : Hid (WkB w (w1.alloc (.cells #[.int .i64 7, .int .i64 690000, .int .i64 1, .int .i64 3, .int .i64 1, .slice pa 1 pc] 24))) := (K0.out.below hb).below (below_box _ _)
  have Pp : Hid (PIs (w1.alloc (.cells #[.int .i64 7, .int .i64 690000, .int .i64 1, .int .i64 3, .int .i64 1, .slice pa 1 pc] 24)) w1.heap.size ⟨7, 690000, 1, 3, 1, [(700000, 700007)]⟩ pa 1 pc) := PIs.new hc hn hr
  clear hp h1 hc hn hr hb
  obtain ⟨-, p0, p1, p2, p3, p4, p5⟩ := Pp.out.h
  (try simp only at p0 p1 p2 p3 p4 p5)
  have k0 := K1.out.c0
  have k1 := K1.out.c1
  go_wp2_with fail
  have h1 := pZRenew_any Pz.bw pa 1 pc 700003 2 1 (w1.alloc (.cells #[.int .i64 7, .int .i64 690000, .int .i64 1, .int .i64 3, .int .i64 1, .slice pa 1 pc] 24)) (HW.out.below K1.out.b) rfl (by simp [maxLen]) Pp.out.k Pp.out.z Pp.out.r
  rw [Pz.b_renew1] at h1
  refine h1.mono ?_
  rintro e w2 hp
  obtain ⟨qa, qc, rfl, hc, hn, hr, hb⟩ := rzIs rfl hp
  have K2 : Hid (WkB w (w2.alloc (.cells #[.int .i64 7, .int .i64 690000, .int .i64 1, .int .i64 3, .int .i64 1, .slice qa 1 qc] 24))) := (K1.out.below hb).below (below_box _ _)
  have Pp : Hid (PIs (w2.alloc (.cells #[.int .i64 7, .int .i64 690000, .int .i64 1, .int .i64 3, .int .i64 1, .slice qa 1 qc] 24)) w1.heap.size ⟨7, 690000, 1, 3, 1, [(700000, 700007)]⟩ pa 1 pc) := (Pp.out.below hb).box _
  have Pq : Hid (PIs (w2.alloc (.cells #[.int .i64 7, .int .i64 690000, .int .i64 1, .int .i64 3, .int .i64 1, .slice qa 1 qc] 24)) w2.heap.size ⟨7, 690000, 1, 3, 1, [(700000, 700014)]⟩ qa 1 qc) := PIs.new hc hn hr
  clear k0 k1 p0 p1 p2 p3 p4 p5
  clear hp h1 hc hn hr hb
  obtain ⟨-, p0, p1, p2, p3, p4, p5⟩ := Pp.out.h
  (try simp only at p0 p1 p2 p3 p4 p5)
  obtain ⟨-, q0, q1, q2, q3, q4, q5⟩ := Pq.out.h
  (try simp only at q0 q1 q2 q3 q4 q5)
  have k0 := K2.out.c0
  have k1 := K2.out.c1
  go_wp2_with fail
  have h1 := pZRenew_any Pz.bw pa 1 pc 700010 2 1 (w2.alloc (.cells #[.int .i64 7, .int .i64 690000, .int .i64 1, .int .i64 3, .int .i64 1, .slice qa 1 qc] 24)) (HW.out.below K2.out.b) rfl (by simp [maxLen]) Pp.out.k Pp.out.z Pp.out.r
  rw [Pz.b_renew2] at h1
  refine h1.mono ?_
  rintro e w3 hp
  obtain ⟨ra, rc, rfl, hc, hn, hr, hb⟩ := rzIs rfl hp
  have K3 : Hid (WkB w (w3.alloc (.cells #[.int .i64 7, .int .i64 690000, .int .i64 1, .int .i64 3, .int .i64 1, .slice ra 2 rc] 24))) := (K2.out.below hb).below (below_box _ _)
  have Pp : Hid (PIs (w3.alloc (.cells #[.int .i64 7, .int .i64 690000, .int .i64 1, .int .i64 3, .int .i64 1, .slice ra 2 rc] 24)) w1.heap.size ⟨7, 690000, 1, 3, 1, [(700000, 700007)]⟩ pa 1 pc) := (Pp.out.below hb).box _
  have Pq : Hid (PIs (w3.alloc (.cells #[.int .i64 7, .int .i64 690000, .int .i64 1, .int .i64 3, .int .i64 1, .slice ra 2 rc] 24)) w2.heap.size ⟨7, 690000, 1, 3, 1, [(700000, 700014)]⟩ qa 1 qc) := (Pq.out.below hb).box _
  have Pr : Hid (PIs (w3.alloc (.cells #[.int .i64 7, .int .i64 690000, .int .i64 1, .int .i64 3, .int .i64 1, .slice ra 2 rc] 24)) w3.heap.size ⟨7, 690000, 1, 3, 1, [(700000, 700007), (700010, 700017)]⟩ ra 2 rc) := PIs.new hc hn hr
  clear k0 k1 p0 p1 p2 p3 p4 p5 q0 q1 q2 q3 q4 q5
  clear hp h1 hc hn hr hb
  obtain ⟨-, p0, p1, p2, p3, p4, p5⟩ := Pp.out.h
  (try simp only at p0 p1 p2 p3 p4 p5)
  obtain ⟨-, q0, q1, q2, q3, q4, q5⟩ := Pq.out.h
  (try simp only at q0 q1 q2 q3 q4 q5)
  obtain ⟨-, r0, r1, r2, r3, r4, r5⟩ := Pr.out.h
  (try simp only at r0 r1 r2 r3 r4 r5)
  have k0 := K3.out.c0
  have k1 := K3.out.c1
  go_wp2_with fail
  have h1 := pZCut_any Pz.bq qa 1 qc 700005 (w3.alloc (.cells #[.int .i64 7, .int .i64 690000, .int .i64 1, .int .i64 3, .int .i64 1, .slice ra 2 rc] 24)) rfl (by simp [maxLen]) Pq.out.k Pq.out.z Pq.out.r
  rw [Pz.b_cut] at h1
  refine h1.mono ?_
  rintro e w4 hp
  obtain ⟨sa, sc, rfl, hc, hn, hr, hb⟩ := rzIs rfl hp
  have K4 : Hid (WkB w (w4.alloc (.cells #[.int .i64 7, .int .i64 690000, .int .i64 1, .int .i64 3, .int .i64 1, .slice sa 1 sc] 24))) := (K3.out.below hb).below (below_box _ _)
  have Pp : Hid (PIs (w4.alloc (.cells #[.int .i64 7, .int .i64 690000, .int .i64 1, .int .i64 3, .int .i64 1, .slice sa 1 sc] 24)) w1.heap.size ⟨7, 690000, 1, 3, 1, [(700000, 700007)]⟩ pa 1 pc) := (Pp.out.below hb).box _
  have Pq : Hid (PIs (w4.alloc (.cells #[.int .i64 7, .int .i64 690000, .int .i64 1, .int .i64 3, .int .i64 1, .slice sa 1 sc] 24)) w2.heap.size ⟨7, 690000, 1, 3, 1, [(700000, 700014)]⟩ qa 1 qc) := (Pq.out.below hb).box _
  have Pr : Hid (PIs (w4.alloc (.cells #[.int .i64 7, .int .i64 690000, .int .i64 1, .int .i64 3, .int .i64 1, .slice sa 1 sc] 24)) w3.heap.size ⟨7, 690000, 1, 3, 1, [(700000, 700007), (700010, 700017)]⟩ ra 2 rc) := (Pr.out.below hb).box _
  have Ps : Hid (PIs (w4.alloc (.cells #[.int .i64 7, .int .i64 690000, .int .i64 1, .int .i64 3, .int .i64 1, .slice sa 1 sc] 24)) w4.heap.size ⟨7, 690000, 1, 3, 1, [(700000, 700005)]⟩ sa 1 sc) := PIs.new hc hn hr
  clear k0 k1 p0 p1 p2 p3 p4 p5 q0 q1 q2 q3 q4 q5 r0 r1 r2 r3 r4 r5
  clear hp h1 hc hn hr hb
  obtain ⟨-, p0, p1, p2, p3, p4, p5⟩ := Pp.out.h
  (try simp only at p0 p1 p2 p3 p4 p5)
  obtain ⟨-, q0, q1, q2, q3, q4, q5⟩ := Pq.out.h
  (try simp only at q0 q1 q2 q3 q4 q5)
  obtain ⟨-, r0, r1, r2, r3, r4, r5⟩ := Pr.out.h
  (try simp only at r0 r1 r2 r3 r4 r5)
  obtain ⟨-, s0, s1, s2, s3, s4, s5⟩ := Ps.out.h
  (try simp only at s0 s1 s2 s3 s4 s5)
  have k0 := K4.out.c0
  have k1 := K4.out.c1
  go_wp2_with fail
  have h1 := pZReplace_any Pz.bs sa 1 sc (w4.alloc (.cells #[.int .i64 7, .int .i64 690000, .int .i64 1, .int .i64 3, .int .i64 1, .slice sa 1 sc] 24)) rfl (by simp [maxLen]) Ps.out.k Ps.out.z Ps.out.r
  rw [Pz.b_repl] at h1
  refine h1.mono ?_
  rintro e w5 hp
  obtain ⟨ta, tc, rfl, hc, hn, hr, hb⟩ := nzIs rfl hp
  have K5 : Hid (WkB w (w5.alloc (.cells #[.int .i64 7, .int .i64 690000, .int .i64 1, .int .i64 3, .int .i64 2, .slice ta 1 tc] 24))) := (K4.out.below hb).below (below_box _ _)
  have Pp : Hid (PIs (w5.alloc (.cells #[.int .i64 7, .int .i64 690000, .int .i64 1, .int .i64 3, .int .i64 2, .slice ta 1 tc] 24)) w1.heap.size ⟨7, 690000, 1, 3, 1, [(700000, 700007)]⟩ pa 1 pc) := (Pp.out.below hb).box _
  have Pq : Hid (PIs (w5.alloc (.cells #[.int .i64 7, .int .i64 690000, .int .i64 1, .int .i64 3, .int .i64 2, .slice ta 1 tc] 24)) w2.heap.size ⟨7, 690000, 1, 3, 1, [(700000, 700014)]⟩ qa 1 qc) := (Pq.out.below hb).box _
  have Pr : Hid (PIs (w5.alloc (.cells #[.int .i64 7, .int .i64 690000, .int .i64 1, .int .i64 3, .int .i64 2, .slice ta 1 tc] 24)) w3.heap.size ⟨7, 690000, 1, 3, 1, [(700000, 700007), (700010, 700017)]⟩ ra 2 rc) := (Pr.out.below hb).box _
  have Ps : Hid (PIs (w5.alloc (.cells #[.int .i64 7, .int .i64 690000, .int .i64 1, .int .i64 3, .int .i64 2, .slice ta 1 tc] 24)) w4.heap.size ⟨7, 690000, 1, 3, 1, [(700000, 700005)]⟩ sa 1 sc) := (Ps.out.below hb).box _
  have Pt : Hid (PIs (w5.alloc (.cells #[.int .i64 7, .int .i64 690000, .int .i64 1, .int .i64 3, .int .i64 2, .slice ta 1 tc] 24)) w5.heap.size ⟨7, 690000, 1, 3, 2, [(700000, 700005)]⟩ ta 1 tc) := PIs.new hc hn hr
  clear k0 k1 p0 p1 p2 p3 p4 p5 q0 q1 q2 q3 q4 q5 r0 r1 r2 r3 r4 r5 s0 s1 s2 s3 s4 s5
  clear hp h1 hc hn hr hb
  obtain ⟨-, p0, p1, p2, p3, p4, p5⟩ := Pp.out.h
  (try simp only at p0 p1 p2 p3 p4 p5)
  obtain ⟨-, q0, q1, q2, q3, q4, q5⟩ := Pq.out.h
  (try simp only at q0 q1 q2 q3 q4 q5)
  obtain ⟨-, r0, r1, r2, r3, r4, r5⟩ := Pr.out.h
  (try simp only at r0 r1 r2 r3 r4 r5)
  obtain ⟨-, s0, s1, s2, s3, s4, s5⟩ := Ps.out.h
  (try simp only at s0 s1 s2 s3 s4 s5)
  obtain ⟨-, t0, t1, t2, t3, t4, t5⟩ := Pt.out.h
  (try simp only at t0 t1 t2 t3 t4 t5)
  have k0 := K5.out.c0
  have k1 := K5.out.c1
  go_wp2_with fail
  have h1 := pZHas_any Pz.bt ta 1 tc 700004 3 (w5.alloc (.cells #[.int .i64 7, .int .i64 690000, .int .i64 1, .int .i64 3, .int .i64 2, .slice ta 1 tc] 24)) rfl (by simp [maxLen]) Pt.out.k Pt.out.z Pt.out.r
  rw [Pz.b_has1, Pz.b_bt] at h1
  refine h1.mono ?_
  rintro e w6 ⟨rfl, hb⟩
  have K6 : Hid (WkB w w6) := K5.out.below hb
  have Pp : Hid (PIs w6 w1.heap.size ⟨7, 690000, 1, 3, 1, [(700000, 700007)]⟩ pa 1 pc) := Pp.out.below hb
  have Pq : Hid (PIs w6 w2.heap.size ⟨7, 690000, 1, 3, 1, [(700000, 700014)]⟩ qa 1 qc) := Pq.out.below hb
  have Pr : Hid (PIs w6 w3.heap.size ⟨7, 690000, 1, 3, 1, [(700000, 700007), (700010, 700017)]⟩ ra 2 rc) := Pr.out.below hb
  have Ps : Hid (PIs w6 w4.heap.size ⟨7, 690000, 1, 3, 1, [(700000, 700005)]⟩ sa 1 sc) := Ps.out.below hb
  have Pt : Hid (PIs w6 w5.heap.size ⟨7, 690000, 1, 3, 2, [(700000, 700005)]⟩ ta 1 tc) := Pt.out.below hb
  clear k0 k1 p0 p1 p2 p3 p4 p5 q0 q1 q2 q3 q4 q5 r0 r1 r2 r3 r4 r5 s0 s1 s2 s3 s4 s5 t0 t1 t2 t3 t4 t5
  clear h1 hb
  obtain ⟨-, p0, p1, p2, p3, p4, p5⟩ := Pp.out.h
  (try simp only at p0 p1 p2 p3 p4 p5)
  obtain ⟨-, q0, q1, q2, q3, q4, q5⟩ := Pq.out.h
  (try simp only at q0 q1 q2 q3 q4 q5)
  obtain ⟨-, r0, r1, r2, r3, r4, r5⟩ := Pr.out.h
  (try simp only at r0 r1 r2 r3 r4 r5)
  obtain ⟨-, s0, s1, s2, s3, s4, s5⟩ := Ps.out.h
  (try simp only at s0 s1 s2 s3 s4 s5)
  obtain ⟨-, t0, t1, t2, t3, t4, t5⟩ := Pt.out.h
  (try simp only at t0 t1 t2 t3 t4 t5)
  have k0 := K6.out.c0
  have k1 := K6.out.c1
  go_wp2_with fail
  have h1 := pZHas_any Pz.bt ta 1 tc 700004 4 w6 rfl (by simp [maxLen]) Pt.out.k Pt.out.z Pt.out.r
  rw [Pz.b_has2, Pz.b_bt] at h1
  refine h1.mono ?_
  rintro e w7 ⟨rfl, hb⟩
  have K7 : Hid (WkB w w7) := K6.out.below hb
  have Pp : Hid (PIs w7 w1.heap.size ⟨7, 690000, 1, 3, 1, [(700000, 700007)]⟩ pa 1 pc) := Pp.out.below hb
  have Pq : Hid (PIs w7 w2.heap.size ⟨7, 690000, 1, 3, 1, [(700000, 700014)]⟩ qa 1 qc) := Pq.out.below hb
  have Pr : Hid (PIs w7 w3.heap.size ⟨7, 690000, 1, 3, 1, [(700000, 700007), (700010, 700017)]⟩ ra 2 rc) := Pr.out.below hb
  have Ps : Hid (PIs w7 w4.heap.size ⟨7, 690000, 1, 3, 1, [(700000, 700005)]⟩ sa 1 sc) := Ps.out.below hb
  have Pt : Hid (PIs w7 w5.heap.size ⟨7, 690000, 1, 3, 2, [(700000, 700005)]⟩ ta 1 tc) := Pt.out.below hb
  clear k0 k1 p0 p1 p2 p3 p4 p5 q0 q1 q2 q3 q4 q5 r0 r1 r2 r3 r4 r5 s0 s1 s2 s3 s4 s5 t0 t1 t2 t3 t4 t5
  clear h1 hb
  obtain ⟨-, p0, p1, p2, p3, p4, p5⟩ := Pp.out.h
  (try simp only at p0 p1 p2 p3 p4 p5)
  obtain ⟨-, q0, q1, q2, q3, q4, q5⟩ := Pq.out.h
  (try simp only at q0 q1 q2 q3 q4 q5)
  obtain ⟨-, r0, r1, r2, r3, r4, r5⟩ := Pr.out.h
  (try simp only at r0 r1 r2 r3 r4 r5)
  obtain ⟨-, s0, s1, s2, s3, s4, s5⟩ := Ps.out.h
  (try simp only at s0 s1 s2 s3 s4 s5)
  obtain ⟨-, t0, t1, t2, t3, t4, t5⟩ := Pt.out.h
  (try simp only at t0 t1 t2 t3 t4 t5)
  have k0 := K7.out.c0
  have k1 := K7.out.c1
  go_wp2_with fail
  have X0 : Hid (BS w w7 w1.heap.size w2.heap.size w3.heap.size w5.heap.size pa qa ra ta pc qc rc tc) := ⟨K7.out.b, Pp.out, Pq.out, Pr.out, Pt.out⟩
  have X0d := BS.drew X0
  clear k0 k1 p0 p1 p2 p3 p4 p5 q0 q1 q2 q3 q4 q5 r0 r1 r2 r3 r4 r5 s0 s1 s2 s3 s4 s5 t0 t1 t2 t3 t4 t5
  clear Pp Pq Pr Ps Pt K0 K1 K2 K3 K4 K5 K6 K7
  dsimp only [List.append]
  go_region_held3 (fun W => W.cell? ⟨w1.heap.size, 0, none⟩ = some (.int .i64 7) ∧ W.cell? ⟨w1.heap.size, 1, none⟩ = some (.int .i64 690000) ∧ W.cell? ⟨w1.heap.size, 2, none⟩ = some (.int .i64 1) ∧ W.cell? ⟨w1.heap.size, 3, none⟩ = some (.int .i64 3) ∧ W.cell? ⟨w1.heap.size, 4, none⟩ = some (.int .i64 1) ∧ W.cell? ⟨w1.heap.size, 5, none⟩ = some (.slice pa 1 pc) ∧ W.cell? ⟨w2.heap.size, 5, none⟩ = some (.slice qa 1 qc) ∧ W.cell? ⟨w3.heap.size, 5, none⟩ = some (.slice ra 2 rc) ∧ W.cell? ⟨w5.heap.size, 4, none⟩ = some (.int .i64 2) ∧ Hid (BS w W w1.heap.size w2.heap.size w3.heap.size w5.heap.size pa qa ra ta pc qc rc tc)) (with_reducible (first | exact BS.S (by assumption) | exact BS.S (BS.drew (by assumption)) | exact BS.S (BS.box (by assumption) _)))
    (first
      | (go_at_call 37; refine (wren_any _).mono ?_; rintro e u1 ⟨wa, wc, rfl, hwc, hwr, hb⟩; have WR : Hid (Row2 u1 wa [(700000, 700007)]) := hwr; have X1 : Hid (BS w u1 w1.heap.size w2.heap.size w3.heap.size w5.heap.size pa qa ra ta pc qc rc tc) := BS.on (Hid.out (by assumption)) hb; clear hwr hb)
      | (go_at_call 15; refine (samePass_eq Pz.bw pa wa 1 pc wc _ rfl (by unfold maxLen; omega) X1.out.p.r WR.out).mono ?_; rintro e u2 ⟨rfl, hb⟩; have X2 : Hid (BS w u2 w1.heap.size w2.heap.size w3.heap.size w5.heap.size pa qa ra ta pc qc rc tc) := X1.out.on hb; clear hb)
      | (go_at_call 13; refine (mkSpan_any _ _ _).mono ?_; rintro e u3 ⟨rfl, hb⟩; have X3 : Hid (BS w u3 w1.heap.size w2.heap.size w3.heap.size w5.heap.size pa qa ra ta pc qc rc tc) := X2.out.on hb; clear hb; have RB : Hid (Row2 (u3.alloc (.cells #[.int .i64 700000, .int .i64 700014] 49)) (some ⟨u3.heap.size, 0, none⟩) [(700000, 700014)]) := lit_row u3 _ _ rfl (by simp [maxLen]))
      | (go_at_call 39; refine (listS_any _ _ _ _).mono ?_; rintro e u4 ⟨rfl, hb⟩; have X4 : Hid (BS w u4 w1.heap.size w2.heap.size w3.heap.size w5.heap.size pa qa ra ta pc qc rc tc) := (BS.box X3 _).out.on hb; have RC : Hid (Row2 u4 (some ⟨u3.heap.size, 0, none⟩) [(700000, 700014)]) := RB.out.below hb; clear hb)
      | (go_at_call 38; refine (same_below [(700000, 700014)] [(700000, 700014)] true qa _ qc 1 _ (by simp [maxLen]) (by simp [maxLen]) (decide_eq_true rfl) X4.out.q.r RC.out).mono ?_; rintro e u5 ⟨rfl, hb⟩; have X5 : Hid (BS w u5 w1.heap.size w2.heap.size w3.heap.size w5.heap.size pa qa ra ta pc qc rc tc) := X4.out.on hb; clear hb)
      | (go_at_call 25; have hz := pZCheck_any Pz.zero none 0 0 u5 rfl (by unfold maxLen; omega) (Nat.le_refl _) (fun _ => ⟨rfl, rfl⟩) (.inl rfl); rw [Pz.b_zero] at hz; refine hz.mono ?_; rintro e u6 ⟨rfl, hb⟩; have X6 : Hid (BS w u6 w1.heap.size w2.heap.size w3.heap.size w5.heap.size pa qa ra ta pc qc rc tc) := X5.out.on hb; clear hb))
  go_wp2
  go_ret
  exact ⟨rfl, X6.out.b⟩
end Go.Proofs.YtandlmnbnjkklaaGreatDoor
