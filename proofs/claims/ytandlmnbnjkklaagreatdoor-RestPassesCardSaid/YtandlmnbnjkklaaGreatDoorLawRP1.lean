/- The walk of RestPasses. -/
import Derived.Test.YtandlmnbnjkklaaGreatDoorLawRP0
namespace Go.Proofs.YtandlmnbnjkklaaGreatDoor
open Go.RowKit Go.BigFrame

set_option maxRecDepth 100000 in
set_option maxHeartbeats 16000000 in
theorem restPasses_any (p : Pz.Pq) (pa : Option Addr) (N pc : Nat) (n tu tt : Int) (r : List Rg.Ep) (ra : Option Addr) (rn rc : Nat) (KA KB : Tg.W) (l : List Lg.Ps) (la : Option Addr) (ln lc : Nat) (xid : Int) (xls : List Lg.Ln) (xa : Option Addr) (xn xc : Nat) (w : World) (hw : Laid w)
    (hN : p.days.length = N) (hNc : N ≤ pc) (hNz : N * 16 ≤ 140737488351232) (hNn : pa = none → pc = 0 ∧ p.days = []) (hNr : Row2 w pa p.days)
    (hR : r.length = rn) (hRz : rn * 24 ≤ 140737488351232) (hRn : ra = none → rc = 0 ∧ r = []) (hRr : Row3 w ra r)
    (hL : l.length = ln) (hLz : ln * 32 ≤ 140737488351232) (hLl : ∀ q ∈ l, q.2.length * 16 ≤ 140737488351232) (hLn : RowGN w la l) (hLr : RowG w la l)
    (hX : xls.length = xn) (hXz : xn * 16 ≤ 140737488351232) (hXn : xa = none → xls = [] ∧ xc = 0) (hXc : xn ≤ xc) (hXr : RowL w xa xls) :
    Calls Tryz.prog 3 #[pv p pa N pc, .int .i64 n, .agg #[.int .i64 tu, .int .i64 tt], .slice ra rn rc, .agg #[.int .u64 (wd KA), .int .u64 (wd KB)], .slice la ln lc, .agg #[.int .i64 xid, .slice xa xn xc]] w fun e w' => e = .returned (.bool true) ∧ Below w.heap.size w w' := by
  obtain ⟨id, born, pA, pB, ser, days⟩ := p
  simp only at hN hNr hNn
  obtain ⟨i0, hi0, hi1, hi2, hi3⟩ := infoS
  have HI : Hid (Tryz.prog.info? 49 = some i0 ∧ i0.zero = some (.agg #[.int .i64 0, .int .i64 0]) ∧ i0.size = 2 ∧ i0.bytes = 16) := ⟨hi0, hi1, hi2, hi3⟩
  obtain ⟨j0, hj0, hj1, hj2, hj3⟩ := info_ep
  have HJ : Hid (Tryz.prog.info? 52 = some j0 ∧ j0.zero = some (.agg #[.int .i64 0, .int .u64 0, .int .u64 0]) ∧ j0.size = 3 ∧ j0.bytes = 24) := ⟨hj0, hj1, hj2, hj3⟩
  have HP : Hid (days.length = N ∧ N ≤ pc ∧ (pa = none → pc = 0 ∧ days = []) ∧ Row2 w pa days) := ⟨hN, hNc, hNn, hNr⟩
  have HR : Hid (r.length = rn ∧ (ra = none → rc = 0 ∧ r = []) ∧ Row3 w ra r) := ⟨hR, hRn, hRr⟩
  have HL : Hid (l.length = ln ∧ (∀ q ∈ l, q.2.length * 16 ≤ 140737488351232) ∧ RowGN w la l ∧ RowG w la l) := ⟨hL, hLl, hLn, hLr⟩
  have HX : Hid (xls.length = xn ∧ (xa = none → xls = [] ∧ xc = 0) ∧ xn ≤ xc ∧ RowL w xa xls) := ⟨hX, hXn, hXc, hXr⟩
  have HW : Hid (Laid w) := hw
  have B5 : Hid (Below w.heap.size w (((((w.alloc (.cells #[.int .i64 id, .int .i64 born, .int .i64 pA, .int .i64 pB, .int .i64 ser, .slice pa N pc] 24)).alloc (.cells #[.int .i64 tu, .int .i64 tt] 26)).alloc (.cells #[.int .u64 (wd KA), .int .u64 (wd KB)] 30)).alloc (.cells #[.int .i64 xid, .slice xa xn xc] 34)).alloc (.cells #[.int .i64 id, .int .i64 born, .int .i64 pA, .int .i64 pB, .int .i64 ser, .slice pa N pc] 24))) := (((((below_box w _).alloc (by simp) _).alloc (by simp <;> omega) _).alloc (by simp <;> omega) _).alloc (by simp <;> omega) _)
  have X5 : Hid (RX w (((((w.alloc (.cells #[.int .i64 id, .int .i64 born, .int .i64 pA, .int .i64 pB, .int .i64 ser, .slice pa N pc] 24)).alloc (.cells #[.int .i64 tu, .int .i64 tt] 26)).alloc (.cells #[.int .u64 (wd KA), .int .u64 (wd KB)] 30)).alloc (.cells #[.int .i64 xid, .slice xa xn xc] 34)).alloc (.cells #[.int .i64 id, .int .i64 born, .int .i64 pA, .int .i64 pB, .int .i64 ser, .slice pa N pc] 24)) ⟨id, born, pA, pB, ser, days⟩ pa N pc tu tt KA KB xid xa xn xc pa N pc) := RX.new w id born pA pB ser days pa N pc tu tt KA KB xid xa xn xc
  have hs5 : (((((w.alloc (.cells #[.int .i64 id, .int .i64 born, .int .i64 pA, .int .i64 pB, .int .i64 ser, .slice pa N pc] 24)).alloc (.cells #[.int .i64 tu, .int .i64 tt] 26)).alloc (.cells #[.int .u64 (wd KA), .int .u64 (wd KB)] 30)).alloc (.cells #[.int .i64 xid, .slice xa xn xc] 34)).alloc (.cells #[.int .i64 id, .int .i64 born, .int .i64 pA, .int .i64 pB, .int .i64 ser, .slice pa N pc] 24)).heap.size = w.heap.size + 1 + 1 + 1 + 1 + 1 := by simp
  have O5 := World.ownsRow_made (base := (((((w.alloc (.cells #[.int .i64 id, .int .i64 born, .int .i64 pA, .int .i64 pB, .int .i64 ser, .slice pa N pc] 24)).alloc (.cells #[.int .i64 tu, .int .i64 tt] 26)).alloc (.cells #[.int .u64 (wd KA), .int .u64 (wd KB)] 30)).alloc (.cells #[.int .i64 xid, .slice xa xn xc] 34)).alloc (.cells #[.int .i64 id, .int .i64 born, .int .i64 pA, .int .i64 pB, .int .i64 ser, .slice pa N pc] 24)).heap.size) (e := 49) (size := 2) (((((w.alloc (.cells #[.int .i64 id, .int .i64 born, .int .i64 pA, .int .i64 pB, .int .i64 ser, .slice pa N pc] 24)).alloc (.cells #[.int .i64 tu, .int .i64 tt] 26)).alloc (.cells #[.int .u64 (wd KA), .int .u64 (wd KB)] 30)).alloc (.cells #[.int .i64 xid, .slice xa xn xc] 34)).alloc (.cells #[.int .i64 id, .int .i64 born, .int .i64 pA, .int .i64 pB, .int .i64 ser, .slice pa N pc] 24)) #[] 0 (Nat.le_refl _) (Nat.zero_le _) (by simp)
  rw [hs5] at O5
  have HS5 : Hid ((((((w.alloc (.cells #[.int .i64 id, .int .i64 born, .int .i64 pA, .int .i64 pB, .int .i64 ser, .slice pa N pc] 24)).alloc (.cells #[.int .i64 tu, .int .i64 tt] 26)).alloc (.cells #[.int .u64 (wd KA), .int .u64 (wd KB)] 30)).alloc (.cells #[.int .i64 xid, .slice xa xn xc] 34)).alloc (.cells #[.int .i64 id, .int .i64 born, .int .i64 pA, .int .i64 pB, .int .i64 ser, .slice pa N pc] 24)).heap.size = w.heap.size + 1 + 1 + 1 + 1 + 1) := hs5
  clear hw hN hNc hNn hNr hR hRn hRr hL hLl hLn hLr hX hXn hXc hXr hi0 hi1 hi2 hi3 hj0 hj1 hj2 hj3 hs5
  go_enter Tryz.func3, Tryz.ntmps3
  go_wp2_with (first
    | (at_builtin; refine wpList_append_all _ rfl _ _ 22 rfl (w.heap.size + 1 + 1 + 1 + 1 + 1) 49 i0 _ 2 16 Tryz.underlying22 HI.out.1 HI.out.2.1 HI.out.2.2.1 HI.out.2.2.2 rfl (by decide) _ 0 [] rfl O5 pa N pc (flat days) rfl (fun e => ⟨by rw [← HP.out.1, (HP.out.2.2.1 e).2]; rfl, (HP.out.2.2.1 e).1⟩) (by rw [flat_len, HP.out.1]) (HP.out.2.2.2.below (below_on B5.out (Nat.le_refl _) (below_box _ _))).news (flat_one days) (by unfold maxLen; omega) (by omega) (by simp) ?_; intro v1 w1 own1 grow1; clear O5
       obtain ⟨qa, qc, rfl, HQ1, HX1, HB1⟩ := RX.copied X5.out B5.out HS5.out HP.out.1 own1 grow1
       have Q1 : Hid (_) := HQ1
       have X1 : Hid (_) := HX1
       have B1 : Hid (Below w.heap.size w w1) := HB1
       have e5 := HX1.q.c5
       have f5 := HX1.f
       have O6 := made_ep w1 (w.heap.size + 1 + 1 + 1 + 1) (.slice qa N qc)
       clear own1 grow1 HQ1 HX1 HB1)
    | (at_builtin; refine wpList_append_all _ rfl _ _ 27 rfl w1.heap.size 52 j0 _ 3 24 Tryz.underlying27 HJ.out.1 HJ.out.2.1 HJ.out.2.2.1 HJ.out.2.2.2 rfl (by decide) _ 0 [] rfl O6 ra rn rc (fl3 r) rfl (fun e => ⟨by rw [← HR.out.1, (HR.out.2.1 e).2]; rfl, (HR.out.2.1 e).1⟩) (by rw [fl3_len, HR.out.1]) (HR.out.2.2.below (below_on (B1.out.setCell (p := ⟨w.heap.size + 1 + 1 + 1 + 1, 5, none⟩) (by show w.heap.size ≤ w.heap.size + 1 + 1 + 1 + 1; omega) _) (Nat.le_refl _) (below_box _ _))).news (fl3_one r) (by unfold maxLen; omega) (by omega) (by simp) ?_; intro v2 w2 own2 grow2; clear O6 e5 f5))
  obtain ⟨sa, sc, rfl, HS2, HX2, HB2, hz2⟩ := RX.copied2 X1.out B1.out HR.out.1 own2 grow2
  have X2 : Hid (_) := HX2
  have B2 : Hid (Below w.heap.size w w2) := HB2
  have Q2 : Hid (N ≤ qc ∧ (qa = none → qc = 0 ∧ days = []) ∧ Row2 w2 qa days) := ⟨Q1.out.1, Q1.out.2.1, HS2.2 _ _ Q1.out.2.2.1 (fun b off e => by have := Q1.out.2.2.2 b off e; omega)⟩
  have S2 : Hid (rn ≤ sc ∧ (sa = none → sc = 0 ∧ r = []) ∧ Row3 w2 sa r) := HS2.1
  clear own2 grow2 HS2 HX2 HB2 X1 B1 Q1
  refine (ledger2_at l ln la lc w2 HL.out.1 hLz HL.out.2.1 (HL.out.2.2.1.below B2.out)).mono ?_
  rintro e w3 ⟨ma, mc, rfl, hmc, hmn, hmr, hb⟩
  have X3 : Hid (_) := X2.out.below hb
  have B3 : Hid (Below w.heap.size w w3) := below_on B2.out (Nat.le_refl _) hb
  have Q3 : Hid (N ≤ qc ∧ (qa = none → qc = 0 ∧ days = []) ∧ Row2 w3 qa days) := ⟨Q2.out.1, Q2.out.2.1, Q2.out.2.2.below hb⟩
  have S3 : Hid (rn ≤ sc ∧ (sa = none → sc = 0 ∧ r = []) ∧ Row3 w3 sa r) := ⟨S2.out.1, S2.out.2.1, S2.out.2.2.below hb⟩
  have M3 : Hid (ln ≤ mc ∧ (ma = none → l = [] ∧ mc = 0) ∧ RowG w3 ma l) := ⟨hmc, hmn, hmr⟩
  clear hb hmc hmn hmr X2 B2 Q2 S2
  have x0 := X3.out.x0
  have x1 := X3.out.x1
  have gl := X3.out.lt
  go_wp2_with fail
  have G4 : Hid (RowGN (w3.alloc (.cells #[.int .i64 xid, .slice xa xn xc] 34)) (some ⟨w3.heap.size, 0, none⟩) [(xid, xls)]) := one_gn w3 xid xls xa xn xc HX.out.1 HX.out.2.1 (HX.out.2.2.2.below (below_on B3.out (Nat.le_refl _) (below_box _ _)))
  refine (ledger2_at [(xid, xls)] 1 (some ⟨w3.heap.size, 0, none⟩) 1 _ rfl (by decide) (fun q hq => by rw [List.mem_singleton] at hq; subst hq; show xls.length * 16 ≤ _; rw [HX.out.1]; exact hXz) G4.out).mono ?_
  rintro e w4 ⟨ya, yc, rfl, -, -, hyr, hb⟩
  have hb34 : Below w3.heap.size w3 w4 := below_on (below_box w3 _) (Nat.le_refl _) hb
  have X4 : Hid (_) := X3.out.below hb34
  have B4 : Hid (Below w.heap.size w w4) := below_on B3.out (Nat.le_refl _) hb34
  have Q4 : Hid (Row2 w4 qa days) := Q3.out.2.2.below hb34
  have S4 : Hid (Row3 w4 sa r) := S3.out.2.2.below hb34
  have M4 : Hid (RowG w4 ma l) := M3.out.2.2.below hb34
  have HC : Hid ((N ≤ qc ∧ (qa = none → qc = 0 ∧ days = [])) ∧ (rn ≤ sc ∧ (sa = none → sc = 0 ∧ r = [])) ∧ (ln ≤ mc ∧ (ma = none → l = [] ∧ mc = 0))) := ⟨⟨Q3.out.1, Q3.out.2.1⟩, ⟨S3.out.1, S3.out.2.1⟩, ⟨M3.out.1, M3.out.2.1⟩⟩
  obtain ⟨ym, yo, yid, yls, yla, ylc, rfl, hym, hyx, y0, y1, hyc, hyl⟩ := hyr.at (k := 0) (by simp)
  obtain ⟨rfl, rfl⟩ : xid = yid ∧ xls = yls := by simpa using hyx
  rw [HX.out.1] at y1 hyc
  simp only [Nat.zero_mul, Nat.add_zero] at y0 y1
  have YL : Hid (RowL w4 yla xls ∧ xn ≤ ylc) := ⟨hyl, hyc⟩
  clear hb hb34 hyr hyx hyl hyc X3 B3 Q3 S3 M3 G4 x0 x1 gl
  obtain ⟨-, q0, q1, q2, q3, q4, q5⟩ := X4.out.q
  simp only at q0 q1 q2 q3 q4 q5
  have t0 := X4.out.t0
  have t1 := X4.out.t1
  have gl := X4.out.lt
  have gl1 : w.heap.size + 1 < w4.heap.size := by omega
  go_wp2_with fail
  have HT : Hid (RT w (w4.alloc (.cells #[.int .i64 xid, .slice yla xn ylc] 34)) ⟨id, born, pA, pB, ser, days⟩ pa N pc tu tt KA KB xid xa xn xc qa qc r sa l ma xls w4.heap.size yla ylc) :=
    ⟨X4.out.below (below_box _ _), below_on B4.out (Nat.le_refl _) (below_box _ _), Q4.out.below (below_box _ _), S4.out.below (below_box _ _), M4.out.below (below_box _ _), by simp, by simp, by simp, YL.out.1.below (below_box _ _)⟩
  have HYC : Hid (xn ≤ ylc) := YL.out.2
  clear X4 B4 Q4 S4 M4 YL q0 q1 q2 q3 q4 q5 t0 t1 gl gl1 hym y0 y1
  obtain ⟨yb, hyb⟩ : ∃ y, w4.heap.size = y := ⟨_, rfl⟩
  rw [hyb] at HT
  (try rw [hyb])
  (try simp only [hyb])
  generalize w4.alloc (.cells #[.int .i64 xid, .slice yla xn ylc] 34) = T at *
  clear hyb
  have HTT := HT
  obtain ⟨⟨ai, ab, ax, ay, az, al⟩, am, ae, hae⟩ : ∃ q m e, Pz.renew ⟨id, born, pA, pB, ser, days⟩ n tu tt = (q, m, e) := ⟨_, _, _, rfl⟩
  obtain ⟨⟨bi, bb, bx, bw, bz, bl⟩, bm, be, hbe⟩ : ∃ q m e, Pz.cut ⟨id, born, pA, pB, ser, days⟩ n = (q, m, e) := ⟨_, _, _, rfl⟩
  obtain ⟨⟨ci, cb, cx, cy, cz, cl⟩, ce, hce⟩ : ∃ q e, Pz.repl ⟨id, born, pA, pB, ser, days⟩ = (q, e) := ⟨_, _, rfl⟩
  have hp := pZRenew_own ⟨id, born, pA, pB, ser, days⟩ qa N qc n tu tt T (HW.out.below HT.out.b) HP.out.1 (by unfold maxLen; omega) HC.out.1.1 HC.out.1.2 HT.out.q
  rw [hae] at hp
  refine hp.mono ?_
  rintro e w5 hq
  obtain ⟨aa, an, ac, rfl, hn64, hfs, hb⟩ := rzSayO hq
  clear hp hq
  have HTo := HT
  clear HT
  have HT : Hid (RT w w5 ⟨id, born, pA, pB, ser, days⟩ pa N pc tu tt KA KB xid xa xn xc qa qc r sa l ma xls yb yla ylc) := HTo.out.below hb
  have hbT : Below T.heap.size T w5 := hb
  clear HTo
  obtain ⟨-, q0, q1, q2, q3, q4, q5⟩ := HT.out.x.q
  simp only at q0 q1 q2 q3 q4 q5
  have gl := HT.out.x.lt
  have gl2 : w.heap.size + 2 < w5.heap.size := by omega
  have k0 := HT.out.x.k0
  have k1 := HT.out.x.k1
  have y0 := HT.out.y0
  have y1 := HT.out.y1
  have yl := HT.out.yl
  go_wp2_with fail
  clear q0 q1 q2 q3 q4 q5 gl gl2 k0 k1 y0 y1 yl
  have HBo : Below T.heap.size T (w5.alloc (.cells #[.int .i64 ai, .int .i64 ab, .int .i64 ax, .int .i64 ay, .int .i64 az, .slice aa an ac] 24)) := below_on hbT (Nat.le_refl _) (below_box _ _)
  have HTo : RT w (w5.alloc (.cells #[.int .i64 ai, .int .i64 ab, .int .i64 ax, .int .i64 ay, .int .i64 az, .slice aa an ac] 24)) ⟨id, born, pA, pB, ser, days⟩ pa N pc tu tt KA KB xid xa xn xc qa qc r sa l ma xls yb yla ylc := HT.out.below (below_box _ _)
  have Aao : AP T (w5.alloc (.cells #[.int .i64 ai, .int .i64 ab, .int .i64 ax, .int .i64 ay, .int .i64 az, .slice aa an ac] 24)) w5.heap.size ⟨ai, ab, ax, ay, az, al⟩ aa an ac := AP.new hfs (Nat.le_refl _) hn64
  clear HT hfs hbT hb  hn64
  obtain ⟨ga, hga⟩ : ∃ y, w5.heap.size = y := ⟨_, rfl⟩
  rw [hga] at Aao
  (try rw [hga])
  (try simp only [hga])
  generalize w5.alloc (.cells #[.int .i64 ai, .int .i64 ab, .int .i64 ax, .int .i64 ay, .int .i64 az, .slice aa an ac] 24) = x5 at *
  clear hga
  have HT : Hid (_) := HTo
  have HB : Hid (_) := HBo
  have Aa : Hid (_) := Aao
  clear HTo HBo Aao
  have hp := pZCut_own ⟨id, born, pA, pB, ser, days⟩ qa N qc n x5 HP.out.1 (by unfold maxLen; omega) HC.out.1.1 HC.out.1.2 HT.out.q
  rw [hbe] at hp
  refine hp.mono ?_
  rintro e w6 hq
  obtain ⟨ba, bn, bc, rfl, hn64, hfs, hb⟩ := rzSayO hq
  clear hp hq
  have HTo := HT
  clear HT
  have HT : Hid (RT w w6 ⟨id, born, pA, pB, ser, days⟩ pa N pc tu tt KA KB xid xa xn xc qa qc r sa l ma xls yb yla ylc) := HTo.out.below hb
  have hbT : Below T.heap.size T w6 := below_on HB.out (Nat.le_refl _) hb
  have Aao := Aa.out.below hb
  clear Aa
  have Aa : Hid (_) := Aao
  clear Aao
  clear HTo
  obtain ⟨-, q0, q1, q2, q3, q4, q5⟩ := HT.out.x.q
  simp only at q0 q1 q2 q3 q4 q5
  have gl := HT.out.x.lt
  have gl2 : w.heap.size + 2 < w6.heap.size := by omega
  have k0 := HT.out.x.k0
  have k1 := HT.out.x.k1
  have y0 := HT.out.y0
  have y1 := HT.out.y1
  have yl := HT.out.yl
  go_wp2_with fail
  clear q0 q1 q2 q3 q4 q5 gl gl2 k0 k1 y0 y1 yl
  have HBo : Below T.heap.size T (w6.alloc (.cells #[.int .i64 bi, .int .i64 bb, .int .i64 bx, .int .i64 bw, .int .i64 bz, .slice ba bn bc] 24)) := below_on hbT (Nat.le_refl _) (below_box _ _)
  have HTo : RT w (w6.alloc (.cells #[.int .i64 bi, .int .i64 bb, .int .i64 bx, .int .i64 bw, .int .i64 bz, .slice ba bn bc] 24)) ⟨id, born, pA, pB, ser, days⟩ pa N pc tu tt KA KB xid xa xn xc qa qc r sa l ma xls yb yla ylc := HT.out.below (below_box _ _)
  have Abo : AP T (w6.alloc (.cells #[.int .i64 bi, .int .i64 bb, .int .i64 bx, .int .i64 bw, .int .i64 bz, .slice ba bn bc] 24)) w6.heap.size ⟨bi, bb, bx, bw, bz, bl⟩ ba bn bc := AP.new hfs HB.out.size hn64
  have Aao := Aa.out.below (below_box w6 (.cells #[.int .i64 bi, .int .i64 bb, .int .i64 bx, .int .i64 bw, .int .i64 bz, .slice ba bn bc] 24))
  clear Aa
  clear HT hfs hbT hb HB hn64
  obtain ⟨gb, hgb⟩ : ∃ y, w6.heap.size = y := ⟨_, rfl⟩
  rw [hgb] at Abo
  (try rw [hgb])
  (try simp only [hgb])
  generalize w6.alloc (.cells #[.int .i64 bi, .int .i64 bb, .int .i64 bx, .int .i64 bw, .int .i64 bz, .slice ba bn bc] 24) = x6 at *
  clear hgb
  have HT : Hid (_) := HTo
  have HB : Hid (_) := HBo
  have Ab : Hid (_) := Abo
  have Aa : Hid (_) := Aao
  clear HTo HBo Aao Abo
  have hp := pZReplace_own ⟨id, born, pA, pB, ser, days⟩ qa N qc x6 HP.out.1 (by unfold maxLen; omega) HC.out.1.1 HC.out.1.2 HT.out.q
  rw [hce] at hp
  refine hp.mono ?_
  rintro e w7 hq
  obtain ⟨ca, cn, cc, rfl, hn64, hfs, hb⟩ := nzSayO hq
  clear hp hq
  have HTo := HT
  clear HT
  have HT : Hid (RT w w7 ⟨id, born, pA, pB, ser, days⟩ pa N pc tu tt KA KB xid xa xn xc qa qc r sa l ma xls yb yla ylc) := HTo.out.below hb
  have hbT : Below T.heap.size T w7 := below_on HB.out (Nat.le_refl _) hb
  have Aao := Aa.out.below hb
  clear Aa
  have Aa : Hid (_) := Aao
  clear Aao
  have Abo := Ab.out.below hb
  clear Ab
  have Ab : Hid (_) := Abo
  clear Abo
  clear HTo
  obtain ⟨-, q0, q1, q2, q3, q4, q5⟩ := HT.out.x.q
  simp only at q0 q1 q2 q3 q4 q5
  have gl := HT.out.x.lt
  have gl2 : w.heap.size + 2 < w7.heap.size := by omega
  have k0 := HT.out.x.k0
  have k1 := HT.out.x.k1
  have y0 := HT.out.y0
  have y1 := HT.out.y1
  have yl := HT.out.yl
  go_wp2_with fail
  clear q0 q1 q2 q3 q4 q5 gl gl2 k0 k1 y0 y1 yl
  have HBo : Below T.heap.size T (w7.alloc (.cells #[.int .i64 ci, .int .i64 cb, .int .i64 cx, .int .i64 cy, .int .i64 cz, .slice ca cn cc] 24)) := below_on hbT (Nat.le_refl _) (below_box _ _)
  have HTo : RT w (w7.alloc (.cells #[.int .i64 ci, .int .i64 cb, .int .i64 cx, .int .i64 cy, .int .i64 cz, .slice ca cn cc] 24)) ⟨id, born, pA, pB, ser, days⟩ pa N pc tu tt KA KB xid xa xn xc qa qc r sa l ma xls yb yla ylc := HT.out.below (below_box _ _)
  have Aco : AP T (w7.alloc (.cells #[.int .i64 ci, .int .i64 cb, .int .i64 cx, .int .i64 cy, .int .i64 cz, .slice ca cn cc] 24)) w7.heap.size ⟨ci, cb, cx, cy, cz, cl⟩ ca cn cc := AP.new hfs HB.out.size hn64
  have Aao := Aa.out.below (below_box w7 (.cells #[.int .i64 ci, .int .i64 cb, .int .i64 cx, .int .i64 cy, .int .i64 cz, .slice ca cn cc] 24))
  clear Aa
  have Abo := Ab.out.below (below_box w7 (.cells #[.int .i64 ci, .int .i64 cb, .int .i64 cx, .int .i64 cy, .int .i64 cz, .slice ca cn cc] 24))
  clear Ab
  clear HT hfs hbT hb HB hn64
  obtain ⟨gc, hgc⟩ : ∃ y, w7.heap.size = y := ⟨_, rfl⟩
  rw [hgc] at Aco
  (try rw [hgc])
  (try simp only [hgc])
  generalize w7.alloc (.cells #[.int .i64 ci, .int .i64 cb, .int .i64 cx, .int .i64 cy, .int .i64 cz, .slice ca cn cc] 24) = x7 at *
  clear hgc
  have HT : Hid (_) := HTo
  have HB : Hid (_) := HBo
  have Ac : Hid (_) := Aco
  have Aa : Hid (_) := Aao
  have Ab : Hid (_) := Abo
  clear HTo HBo Aao Abo Aco
  obtain ⟨de, hde⟩ : ∃ d, (Rg.add r KA KB).2 = d := ⟨_, rfl⟩
  refine (add_at r rn sa sc KA KB x7 HR.out.1 (by unfold maxLen; omega) (fun e => (HC.out.2.1.2 e).2) HT.out.s).mono ?_
  rintro e w8 hq
  obtain ⟨da, dn, dc, rfl, hdm, hfe, hb⟩ := addSay hde hq
  have HDM : Hid (dn ≤ maxLen) := hdm
  clear hdm
  have D8 : Hid (FE w8 T.heap.size w8.heap.size da dn) := hfe.wide HB.out.size (Nat.le_refl _) (Nat.le_refl _)
  have HTo := HT
  clear HT
  have HT : Hid (RT w w8 ⟨id, born, pA, pB, ser, days⟩ pa N pc tu tt KA KB xid xa xn xc qa qc r sa l ma xls yb yla ylc) := HTo.out.below hb
  have HBo := HB
  clear HB
  have HB : Hid (Below T.heap.size T w8) := below_on HBo.out (Nat.le_refl _) hb
  have Aao := Aa.out.below hb
  clear Aa
  have Aa : Hid (_) := Aao
  clear Aao
  have Abo := Ab.out.below hb
  clear Ab
  have Ab : Hid (_) := Abo
  clear Abo
  have Aco := Ac.out.below hb
  clear Ac
  have Ac : Hid (_) := Aco
  clear Aco
  clear hq hfe hb HTo HBo
  obtain ⟨-, q0, q1, q2, q3, q4, q5⟩ := HT.out.x.q
  simp only at q0 q1 q2 q3 q4 q5
  have gl := HT.out.x.lt
  have gl2 : w.heap.size + 2 < w8.heap.size := by omega
  have k0 := HT.out.x.k0
  have k1 := HT.out.x.k1
  have y0 := HT.out.y0
  have y1 := HT.out.y1
  have yl := HT.out.yl
  go_wp2_with fail
  clear q0 q1 q2 q3 q4 q5 gl gl2 k0 k1 y0 y1 yl
  obtain ⟨en, hen⟩ : ∃ d, (Lg.post l (xid, xls)).1.length = d := ⟨_, rfl⟩
  obtain ⟨ee, hee⟩ : ∃ d, (Lg.post l (xid, xls)).2 = d := ⟨_, rfl⟩
  refine (post_at l ln ma mc xid xls xn yla ylc w8 en ee HL.out.1 HX.out.1 ⟨by unfold maxLen; omega, HC.out.2.2.1⟩ HC.out.2.2.2 (fun q hq => by have := HL.out.2.1 q hq; unfold maxLen; omega) HT.out.m ⟨by unfold maxLen; omega, HYC.out⟩ HT.out.y hen hee).mono ?_
  rintro e w9 ⟨ea, ec, us, rfl, hul, hog, hba, hb⟩
  obtain ⟨E0, hE0⟩ : ∃ y, w8.heap.size = y := ⟨_, rfl⟩
  rw [hE0] at hog hba
  have E9 : Hid (OwnG w9 E0 (.slice ea en ec) us ∧ BA w9 E0 (.slice ea en ec) us ∧ us.length = en ∧ T.heap.size ≤ E0) := ⟨hog, hba, hul, by rw [← hE0]; exact HB.out.size⟩
  have D8o := D8.out
  have Aao := Aa.out
  have Abo := Ab.out
  have Aco := Ac.out
  clear D8 Aa Ab Ac
  have D9 : Hid (FE w9 T.heap.size E0 da dn) := by rw [← hE0]; exact D8o.below hb
  have hE9 : E0 ≤ w9.heap.size := by rw [← hE0]; exact hb.size
  have Fa : Hid (FS w9 T.heap.size E0 aa an ∧ an ≤ 64) := ⟨by rw [← hE0]; exact Aao.f.below hb, Aao.n⟩
  have Fb : Hid (FS w9 T.heap.size E0 ba bn ∧ bn ≤ 64) := ⟨by rw [← hE0]; exact Abo.f.below hb, Abo.n⟩
  have Fc : Hid (FS w9 T.heap.size E0 ca cn ∧ cn ≤ 64) := ⟨by rw [← hE0]; exact Aco.f.below hb, Aco.n⟩
  have Ha : Hid (Has6 w9 ga ⟨ai, ab, ax, ay, az, al⟩ aa an ac) := Aao.h.below hb
  have Hb : Hid (Has6 w9 gb ⟨bi, bb, bx, bw, bz, bl⟩ ba bn bc) := Abo.h.below hb
  have Hc : Hid (Has6 w9 gc ⟨ci, cb, cx, cy, cz, cl⟩ ca cn cc) := Aco.h.below hb
  have HTo := HT
  clear HT
  have HT : Hid (RT w w9 ⟨id, born, pA, pB, ser, days⟩ pa N pc tu tt KA KB xid xa xn xc qa qc r sa l ma xls yb yla ylc) := HTo.out.below hb
  have HBo := HB
  clear HB
  have HB : Hid (Below T.heap.size T w9) := below_on HBo.out (Nat.le_refl _) hb
  clear hb HTo HBo hog hba hul D8o Aao Abo Aco hE0
  go_wp2_with fail
  refine (zbegun_any w9 (HW.out.below HT.out.b)).mono ?_
  rintro e w10 ⟨rfl, hb⟩
  have HTo := HT.out.below hb
  have HBo := below_on HB.out (Nat.le_refl _) hb
  have D9o := D9.out.below hb
  have Fao := Fa.out.1.below hb
  have Fbo := Fb.out.1.below hb
  have Fco := Fc.out.1.below hb
  have Hao := Ha.out.below hb
  have Hbo := Hb.out.below hb
  have Hco := Hc.out.below hb
  have E9o := E9.out.1.still hb
  have E9p := E9.out.2.1.below hb
  have E9q := E9.out.2.2
  have hE9o : E0 ≤ w10.heap.size := Nat.le_trans hE9 hb.size
  have Fan := Fa.out.2
  have Fbn := Fb.out.2
  have Fcn := Fc.out.2
  clear HT HB D9 Fa Fb Fc Ha Hb Hc E9 hE9 hb
  have HT : Hid (RT w w10 ⟨id, born, pA, pB, ser, days⟩ pa N pc tu tt KA KB xid xa xn xc qa qc r sa l ma xls yb yla ylc) := HTo
  have HB : Hid (Below T.heap.size T w10) := HBo
  have D9 : Hid (FE w10 T.heap.size E0 da dn) := D9o
  have Fa : Hid (FS w10 T.heap.size E0 aa an ∧ an ≤ 64) := ⟨Fao, Fan⟩
  have Fb : Hid (FS w10 T.heap.size E0 ba bn ∧ bn ≤ 64) := ⟨Fbo, Fbn⟩
  have Fc : Hid (FS w10 T.heap.size E0 ca cn ∧ cn ≤ 64) := ⟨Fco, Fcn⟩
  have Ha : Hid (Has6 w10 ga ⟨ai, ab, ax, ay, az, al⟩ aa an ac) := Hao
  have Hb : Hid (Has6 w10 gb ⟨bi, bb, bx, bw, bz, bl⟩ ba bn bc) := Hbo
  have Hc : Hid (Has6 w10 gc ⟨ci, cb, cx, cy, cz, cl⟩ ca cn cc) := Hco
  have E9 : Hid (OwnG w10 E0 (.slice ea en ec) us ∧ BA w10 E0 (.slice ea en ec) us ∧ us.length = en ∧ T.heap.size ≤ E0) := ⟨E9o, E9p, E9q⟩
  have hE9 := hE9o
  clear HTo HBo D9o Fao Fbo Fco Hao Hbo Hco E9o E9p E9q hE9o Fan Fbn Fcn
  go_wp2_with fail
  refine (ringBegun_any w10).mono ?_
  rintro e w11 ⟨rfl, hb⟩
  have HTo := HT.out.below hb
  have HBo := below_on HB.out (Nat.le_refl _) hb
  have D9o := D9.out.below hb
  have Fao := Fa.out.1.below hb
  have Fbo := Fb.out.1.below hb
  have Fco := Fc.out.1.below hb
  have Hao := Ha.out.below hb
  have Hbo := Hb.out.below hb
  have Hco := Hc.out.below hb
  have E9o := E9.out.1.still hb
  have E9p := E9.out.2.1.below hb
  have E9q := E9.out.2.2
  have hE9o : E0 ≤ w11.heap.size := Nat.le_trans hE9 hb.size
  have Fan := Fa.out.2
  have Fbn := Fb.out.2
  have Fcn := Fc.out.2
  clear HT HB D9 Fa Fb Fc Ha Hb Hc E9 hE9 hb
  have HT : Hid (RT w w11 ⟨id, born, pA, pB, ser, days⟩ pa N pc tu tt KA KB xid xa xn xc qa qc r sa l ma xls yb yla ylc) := HTo
  have HB : Hid (Below T.heap.size T w11) := HBo
  have D9 : Hid (FE w11 T.heap.size E0 da dn) := D9o
  have Fa : Hid (FS w11 T.heap.size E0 aa an ∧ an ≤ 64) := ⟨Fao, Fan⟩
  have Fb : Hid (FS w11 T.heap.size E0 ba bn ∧ bn ≤ 64) := ⟨Fbo, Fbn⟩
  have Fc : Hid (FS w11 T.heap.size E0 ca cn ∧ cn ≤ 64) := ⟨Fco, Fcn⟩
  have Ha : Hid (Has6 w11 ga ⟨ai, ab, ax, ay, az, al⟩ aa an ac) := Hao
  have Hb : Hid (Has6 w11 gb ⟨bi, bb, bx, bw, bz, bl⟩ ba bn bc) := Hbo
  have Hc : Hid (Has6 w11 gc ⟨ci, cb, cx, cy, cz, cl⟩ ca cn cc) := Hco
  have E9 : Hid (OwnG w11 E0 (.slice ea en ec) us ∧ BA w11 E0 (.slice ea en ec) us ∧ us.length = en ∧ T.heap.size ≤ E0) := ⟨E9o, E9p, E9q⟩
  have hE9 := hE9o
  clear HTo HBo D9o Fao Fbo Fco Hao Hbo Hco E9o E9p E9q hE9o Fan Fbn Fcn
  go_wp2_with fail
  refine (lbegun_any w11).mono ?_
  rintro e w12 ⟨rfl, hb⟩
  have HTo := HT.out.below hb
  have HBo := below_on HB.out (Nat.le_refl _) hb
  have D9o := D9.out.below hb
  have Fao := Fa.out.1.below hb
  have Fbo := Fb.out.1.below hb
  have Fco := Fc.out.1.below hb
  have Hao := Ha.out.below hb
  have Hbo := Hb.out.below hb
  have Hco := Hc.out.below hb
  have E9o := E9.out.1.still hb
  have E9p := E9.out.2.1.below hb
  have E9q := E9.out.2.2
  have hE9o : E0 ≤ w12.heap.size := Nat.le_trans hE9 hb.size
  have Fan := Fa.out.2
  have Fbn := Fb.out.2
  have Fcn := Fc.out.2
  clear HT HB D9 Fa Fb Fc Ha Hb Hc E9 hE9 hb
  have HT : Hid (RT w w12 ⟨id, born, pA, pB, ser, days⟩ pa N pc tu tt KA KB xid xa xn xc qa qc r sa l ma xls yb yla ylc) := HTo
  have HB : Hid (Below T.heap.size T w12) := HBo
  have D9 : Hid (FE w12 T.heap.size E0 da dn) := D9o
  have Fa : Hid (FS w12 T.heap.size E0 aa an ∧ an ≤ 64) := ⟨Fao, Fan⟩
  have Fb : Hid (FS w12 T.heap.size E0 ba bn ∧ bn ≤ 64) := ⟨Fbo, Fbn⟩
  have Fc : Hid (FS w12 T.heap.size E0 ca cn ∧ cn ≤ 64) := ⟨Fco, Fcn⟩
  have Ha : Hid (Has6 w12 ga ⟨ai, ab, ax, ay, az, al⟩ aa an ac) := Hao
  have Hb : Hid (Has6 w12 gb ⟨bi, bb, bx, bw, bz, bl⟩ ba bn bc) := Hbo
  have Hc : Hid (Has6 w12 gc ⟨ci, cb, cx, cy, cz, cl⟩ ca cn cc) := Hco
  have E9 : Hid (OwnG w12 E0 (.slice ea en ec) us ∧ BA w12 E0 (.slice ea en ec) us ∧ us.length = en ∧ T.heap.size ≤ E0) := ⟨E9o, E9p, E9q⟩
  have hE9 := hE9o
  clear HTo HBo D9o Fao Fbo Fco Hao Hbo Hco E9o E9p E9q hE9o Fan Fbn Fcn
  obtain ⟨-, a0, a1, a2, a3, a4, a5⟩ := Ha.out
  obtain ⟨-, b0, b1, b2, b3, b4, b5⟩ := Hb.out
  obtain ⟨-, c0, c1, c2, c3, c4, c5⟩ := Hc.out
  simp only at a0 a1 a2 a3 a4 a5 b0 b1 b2 b3 b4 b5 c0 c1 c2 c3 c4 c5
  go_wp2
  have hbx : Below w12.heap.size w12 (w12.alloc (.cells #[.int .i64 ai, .int .i64 ab, .int .i64 ax, .int .i64 ay, .int .i64 az, .slice aa an ac, .int .i64 bi, .int .i64 bb, .int .i64 bx, .int .i64 bw, .int .i64 bz, .slice ba bn bc, .int .i64 ci, .int .i64 cb, .int .i64 cx, .int .i64 cy, .int .i64 cz, .slice ca cn cc] 24)) := below_box _ _
  obtain ⟨cs, hcs⟩ : ∃ cs : Array Value, #[.int .i64 ai, .int .i64 ab, .int .i64 ax, .int .i64 ay, .int .i64 az, .slice aa an ac, .int .i64 bi, .int .i64 bb, .int .i64 bx, .int .i64 bw, .int .i64 bz, .slice ba bn bc, .int .i64 ci, .int .i64 cb, .int .i64 cx, .int .i64 cy, .int .i64 cz, .slice ca cn cc] = cs := ⟨_, rfl⟩
  have hall : ∀ j v, cs[j]? = some v → (w12.alloc (.cells cs 24)).cell? ⟨w12.heap.size, j, none⟩ = some v := fun j v hj => boxAll w12 _ _ j v hj
  have H5 : Hid (cs[5]? = some (.slice aa an ac) ∧ cs[11]? = some (.slice ba bn bc) ∧ cs[17]? = some (.slice ca cn cc)) := by rw [← hcs]; exact ⟨rfl, rfl, rfl⟩
  rw [hcs] at hbx
  rw [hcs]
  have HN64 : Hid (an ≤ 64 ∧ bn ≤ 64 ∧ cn ≤ 64) := ⟨Fa.out.2, Fb.out.2, Fc.out.2⟩
  have HEU : Hid (us.length = en) := E9.out.2.2.1
  have R0 : RI T (w12.alloc (.cells cs 24)) E0 w12.heap.size cs aa an ba bn ca cn da dn (.slice ea en ec) us :=
    ⟨below_on HB.out (Nat.le_refl _) hbx, E9.out.2.2.2, Fa.out.1.below hbx, Fb.out.1.below hbx, Fc.out.1.below hbx, D9.out.below hbx, E9.out.1.still hbx, E9.out.2.1.below hbx, by simp, hE9, hall⟩
  clear hbx hcs hall Fa Fb Fc D9 E9 HB HT Ha Hb Hc a0 a1 a2 a3 a4 a5 b0 b1 b2 b3 b4 b5 c0 c1 c2 c3 c4 c5 hE9
  obtain ⟨gA, hgA⟩ : ∃ y, w12.heap.size = y := ⟨_, rfl⟩
  rw [hgA] at R0
  (try rw [hgA])
  (try simp only [hgA])
  generalize w12.alloc (.cells cs 24) = x13 at *
  clear hgA
  have HI0 : Hid (RI T x13 E0 gA cs aa an ba bn ca cn da dn (.slice ea en ec) us) := R0
  clear R0
  go_loopw [32] (fun iv wr => ∃ k : Nat, k ≤ 3 ∧ iv = .int .i64 k ∧ Hid (RI T wr E0 gA cs aa an ba bn ca cn da dn (.slice ea en ec) us)) (fun iv _ => 3 - (intOf iv).toNat)
  case atStart => exact ⟨0, by omega, rfl, HI0⟩
  case round =>
    obtain ⟨k, hk, rfl, HI1⟩ := hrel
    clear HI0
    by_cases hlt : k < 3
    · have hlt' : (k : Int) < 3 := by omega
      obtain ⟨sa', sn', sc', hs64, hsel⟩ := RI.sel (T := T) (E0 := E0) (gA := gA) (da := da) (dn := dn) (ev := .slice ea en ec) (us := us) H5.out.1 H5.out.2.1 H5.out.2.2 HN64.out.1 HN64.out.2.1 HN64.out.2.2 k hlt
      have HSEL : Hid (_) := hsel
      clear hsel
      go_wp2
      go_loopw [33] (fun jv wj => ∃ j : Nat, j ≤ sn' ∧ jv = .int .i64 j ∧ Hid (RI T wj E0 gA cs aa an ba bn ca cn da dn (.slice ea en ec) us)) (fun jv _ => sn' - (intOf jv).toNat)
      case atStart => exact ⟨0, Nat.zero_le _, rfl, HI1⟩
      case round =>
        obtain ⟨j, hj, rfl, HI2⟩ := hrel
        have HSQ : Hid (∀ W, RI T W E0 gA cs aa an ba bn ca cn da dn (.slice ea en ec) us → W.cell? ⟨gA, k * 6 + 5, none⟩ = some (.slice sa' sn' sc')) := fun W h => (HSEL.out W h).1
        have s5 := HSQ.out _ HI2.out
        by_cases hlj : j < sn'
        · have hlj' : (j : Int) < (sn' : Int) := by omega
          go_wp2
          clear s5
          have HI3 : Hid (RI T wr.drew E0 gA cs aa an ba bn ca cn da dn (.slice ea en ec) us) := HI2.out.below (Below.refl _ _).drew
          refine wp_region_noPanic ?_
          refine ord_region (S := fun W => W.cell? ⟨gA, k * 6 + 5, none⟩ = some (.slice sa' sn' sc')) (by kernel_rfl) (HSQ.out _ HI3.out) ?_
          intro hS0
          clear HI2 HI1
          generalize wr.drew = z0 at *
          refine ord_take (i := 0) (d := some 115) (v := ?v0y1) rfl rfl (by kernel_rfl) (by kernel_rfl) (by kernel_rfl) (fun _ _ _ h => h) (by rfl) ?hy0y1 (by assumption) ?rest0y1
          case hy0y1 => (intro w' hSw; (try dsimp only at hSw); go_simp; try with_reducible rfl)
          case rest0y1 =>
          (try simp only [Act.put]); (repeat first | simp only [List.setIfInBounds_toArray] | simp only [List.set_cons_zero] | simp only [List.set_cons_succ])
          refine ord_take (i := 1) (d := some 116) (v := ?v1y2) rfl rfl (by kernel_rfl) (by kernel_rfl) (by kernel_rfl) (fun _ _ _ h => h) (by rfl) ?hy1y2 (by assumption) ?rest1y2
          case hy1y2 => (intro w' hSw; (try dsimp only at hSw); go_simp; try with_reducible rfl)
          case rest1y2 =>
          (try simp only [Act.put]); (repeat first | simp only [List.setIfInBounds_toArray] | simp only [List.set_cons_zero] | simp only [List.set_cons_succ])
          refine ord_take (i := 2) (d := some 117) (v := ?v2y3) rfl rfl (by kernel_rfl) (by kernel_rfl) (by kernel_rfl) (fun _ _ _ h => h) (by rfl) ?hy2y3 (by assumption) ?rest2y3
          case hy2y3 => (intro w' hSw; (try dsimp only at hSw); go_simp; try with_reducible rfl)
          case rest2y3 =>
          (try simp only [Act.put]); (repeat first | simp only [List.setIfInBounds_toArray] | simp only [List.set_cons_zero] | simp only [List.set_cons_succ])
          refine ord_take (i := 3) (d := some 118) (v := ?v3y4) rfl rfl (by kernel_rfl) (by kernel_rfl) (by kernel_rfl) (fun _ _ _ h => h) (by rfl) ?hy3y4 (by assumption) ?rest3y4
          case hy3y4 => (intro w' hSw; (try dsimp only at hSw); go_simp; try with_reducible rfl)
          case rest3y4 =>
          (try simp only [Act.put]); (repeat first | simp only [List.setIfInBounds_toArray] | simp only [List.set_cons_zero] | simp only [List.set_cons_succ])
          refine ord_take (i := 4) (d := some 119) (v := ?v4y5) rfl rfl (by kernel_rfl) (by kernel_rfl) (by kernel_rfl) (fun _ _ _ h => h) (by rfl) ?hy4y5 (by assumption) ?rest4y5
          case hy4y5 => (intro w' hSw; (try dsimp only at hSw); go_simp; try with_reducible rfl)
          case rest4y5 =>
          (try simp only [Act.put]); (repeat first | simp only [List.setIfInBounds_toArray] | simp only [List.set_cons_zero] | simp only [List.set_cons_succ])
          refine ord_take (i := 5) (d := some 120) (v := ?v5y6) rfl rfl (by kernel_rfl) (by kernel_rfl) (by kernel_rfl) (fun _ _ _ h => h) (by rfl) ?hy5y6 (by assumption) ?rest5y6
          case hy5y6 => (intro w' hSw; (try dsimp only at hSw); go_simp; try with_reducible rfl)
          case rest5y6 =>
          (try simp only [Act.put]); (repeat first | simp only [List.setIfInBounds_toArray] | simp only [List.set_cons_zero] | simp only [List.set_cons_succ])
          refine ord_only (i := 6) rfl (by kernel_rfl) (by rfl) ?_
          refine ord_call (d := some 121) (f := 13) (args := #[.int .i64 (-5), .int .i64 (-6)]) rfl (by go_simp; try with_reducible rfl) (mkSpan_any (-5) (-6) z0) ?_
          rintro e z1 ⟨rfl, hb⟩
          have HI4 : Hid (RI T z1 E0 gA cs aa an ba bn ca cn da dn (.slice ea en ec) us) := HI3.out.below hb
          clear hb
          refine ⟨_, rfl, HSQ.out _ HI4.out, ?_⟩
          have hS1 := HSQ.out _ HI4.out
          (try simp only [Act.put]); (repeat first | simp only [List.setIfInBounds_toArray] | simp only [List.set_cons_zero] | simp only [List.set_cons_succ])
          obtain ⟨g, u0, u1, rfl, hg1, hg2, d0, d1, f0, f1⟩ := (HSEL.out _ HI4.out).2.cell j hlj
          have d2 : (z1.setCell ⟨g, j * 2, none⟩ (.int .i64 (-5))).cell? ⟨g, j * 2 + 1, none⟩ = some u1 := (World.cell?_setCell_other _ _ _ _ (by simp)).trans d1
          have f2 : (z1.setCell ⟨g, j * 2, none⟩ (.int .i64 (-5))).frozen? ⟨g, j * 2 + 1, none⟩ = false := by rw [World.frozen?_setCell]; exact f1
          have HI5 : Hid (RI T ((z1.setCell ⟨g, j * 2, none⟩ (.int .i64 (-5))).setCell ⟨g, j * 2 + 1, none⟩ (.int .i64 (-6))) E0 gA cs aa an ba bn ca cn da dn (.slice ea en ec) us) := (HI4.out.set g (j * 2) hg1 hg2 _).set g (j * 2 + 1) hg1 hg2 _
          refine ord_take (i := 7) (d := some 122) (v := ?v7y7) rfl rfl (by kernel_rfl) (by kernel_rfl) (by kernel_rfl) (fun _ _ _ h => h) (by rfl) ?hy7y7 (by assumption) ?rest7y7
          case hy7y7 => (intro w' hSw; (try dsimp only at hSw); go_simp; try with_reducible rfl)
          case rest7y7 =>
          (try simp only [Act.put]); (repeat first | simp only [List.setIfInBounds_toArray] | simp only [List.set_cons_zero] | simp only [List.set_cons_succ])
          refine ord_only (i := 8) rfl (by kernel_rfl) (by rfl) ?_
          refine ord_skip (d := none) (w' := (z1.setCell ⟨g, j * 2, none⟩ (.int .i64 (-5))).setCell ⟨g, j * 2 + 1, none⟩ (.int .i64 (-6))) rfl (by go_simp; try with_reducible rfl) ?_
          refine ⟨HSQ.out _ HI5.out, ?_⟩
          (try simp only [Act.put]); (repeat first | simp only [List.setIfInBounds_toArray] | simp only [List.set_cons_zero] | simp only [List.set_cons_succ])
          refine wpAnyH_done (by kernel_rfl) ?_ _
          refine NoPanic.normal ?_
          clear hS0 hS1 d0 d1 d2 f0 f1 f2 hg1 hg2 HI3 HI4
          generalize (z1.setCell ⟨g, j * 2, none⟩ (.int .i64 (-5))).setCell ⟨g, j * 2 + 1, none⟩ (.int .i64 (-6)) = z2 at *
          go_wp2
          go_roundw
          case rel => exact ⟨j + 1, by omega, by go_num, HI5⟩
          case measure => simp [intOf]; omega
        · clear HI1
          go_wp2
          go_roundw
          case rel => exact ⟨k + 1, by omega, by go_num, HI2⟩
          case measure => simp [intOf]; omega
    · clear H5
      have hdm := HDM.out
      unfold maxLen at hdm
      go_wp2
      go_loopw [34] (fun iv wr => ∃ i : Nat, i ≤ dn ∧ iv = .int .i64 i ∧ Hid (RI T wr E0 gA cs aa an ba bn ca cn da dn (.slice ea en ec) us)) (fun iv _ => dn - (intOf iv).toNat)
      case atStart => exact ⟨0, Nat.zero_le _, rfl, HI1⟩
      case round =>
        obtain ⟨i, hi, rfl, HI2⟩ := hrel
        clear HI1
        by_cases hli : i < dn
        · have hli' : (i : Int) < (dn : Int) := by omega
          obtain ⟨g, u0, u1, u2, rfl, hg1, hg2, d0, d1, d2, f0, f1, f2⟩ := HI2.out.fd.cell i hli
          have HI5 : Hid (RI T (((wr.setCell ⟨g, i * 3, none⟩ (.int .i64 (-5))).setCell ⟨g, i * 3 + 1, none⟩ (.int .u64 0)).setCell ⟨g, i * 3 + 2, none⟩ (.int .u64 0)) E0 gA cs aa an ba bn ca cn (some ⟨g, 0, none⟩) dn (.slice ea en ec) us) := ((HI2.out.set g (i * 3) hg1 hg2 _).set g (i * 3 + 1) hg1 hg2 _).set g (i * 3 + 2) hg1 hg2 _
          go_wp2
          go_roundw
          case rel => exact ⟨i + 1, by omega, by go_num, HI5⟩
          case measure => simp [intOf]; omega
        · obtain ⟨hem, hre⟩ := HI2.out.re HEU.out
          have HI6 : Hid (RQ T wr ea en 0 us) := hre
          unfold maxLen at hem
          clear HI2 hre
          go_wp2
          go_loopw [35] (fun iv wr => ∃ m : Nat, m ≤ en ∧ iv = .int .i64 m ∧ Hid (RQ T wr ea en m us)) (fun iv _ => en - (intOf iv).toNat)
          case atStart => exact ⟨0, Nat.zero_le _, rfl, HI6⟩
          case round =>
            obtain ⟨m, hm, rfl, HI7⟩ := hrel
            clear HI6
            by_cases hlm : m < en
            · have hlm' : (m : Int) < (en : Int) := by omega
              obtain ⟨g, rfl, hr⟩ := HI7.out.at hlm
              have HI8 : Hid (RE T wr g en m us) := hr
              obtain ⟨xq, gl, nl, cl, hl6, hgT, hgn, hsel⟩ := hr.sel (by rw [HEU.out]; exact hlm)
              have HSEL : Hid (_) := hsel
              have HSQ : Hid (∀ W, RE T W g en m us → W.cell? ⟨g, m * 2 + 1, none⟩ = some (.slice (some ⟨gl, 0, none⟩) nl cl)) := fun W h => (HSEL.out W h).2.1
              clear hsel hr HI7
              go_wp2
              go_loopw [36] (fun jv wj => ∃ j : Nat, j ≤ nl ∧ jv = .int .i64 j ∧ Hid (RE T wj g en m us)) (fun jv _ => nl - (intOf jv).toNat)
              case atStart => exact ⟨0, Nat.zero_le _, rfl, HI8⟩
              case round =>
                obtain ⟨j, hj, rfl, HI8⟩ := hrel
                have s4 := HSQ.out _ HI8.out
                by_cases hlj : j < nl
                · have hlj' : (j : Int) < (nl : Int) := by omega
                  go_wp2
                  clear s4
                  have HI9 : Hid (RE T wr.drew g en m us) := HI8.out.below (Below.refl _ _).drew
                  refine wp_region_noPanic ?_
                  refine ord_region (S := fun W => W.cell? ⟨g, m * 2 + 1, none⟩ = some (.slice (some ⟨gl, 0, none⟩) nl cl)) (by kernel_rfl) (HSQ.out _ HI9.out) ?_
                  intro hS0
                  clear HI8
                  generalize wr.drew = z0 at *
                  refine ord_take (i := 0) (d := some 149) (v := ?v0q0) rfl rfl (by kernel_rfl) (by kernel_rfl) (by kernel_rfl) (fun _ _ _ h => h) (by rfl) ?hy0q0 (by assumption) ?rest0q0
                  case hy0q0 => (intro w' hSw; (try dsimp only at hSw); go_simp; try with_reducible rfl)
                  case rest0q0 =>
                  (try simp only [Act.put]); (repeat first | simp only [List.setIfInBounds_toArray] | simp only [List.set_cons_zero] | simp only [List.set_cons_succ])
                  refine ord_take (i := 1) (d := some 150) (v := ?v1q1) rfl rfl (by kernel_rfl) (by kernel_rfl) (by kernel_rfl) (fun _ _ _ h => h) (by rfl) ?hy1q1 (by assumption) ?rest1q1
                  case hy1q1 => (intro w' hSw; (try dsimp only at hSw); go_simp; try with_reducible rfl)
                  case rest1q1 =>
                  (try simp only [Act.put]); (repeat first | simp only [List.setIfInBounds_toArray] | simp only [List.set_cons_zero] | simp only [List.set_cons_succ])
                  refine ord_take (i := 2) (d := some 151) (v := ?v2q2) rfl rfl (by kernel_rfl) (by kernel_rfl) (by kernel_rfl) (fun _ _ _ h => h) (by rfl) ?hy2q2 (by assumption) ?rest2q2
                  case hy2q2 => (intro w' hSw; (try dsimp only at hSw); go_simp; try with_reducible rfl)
                  case rest2q2 =>
                  (try simp only [Act.put]); (repeat first | simp only [List.setIfInBounds_toArray] | simp only [List.set_cons_zero] | simp only [List.set_cons_succ])
                  refine ord_take (i := 3) (d := some 152) (v := ?v3q3) rfl rfl (by kernel_rfl) (by kernel_rfl) (by kernel_rfl) (fun _ _ _ h => h) (by rfl) ?hy3q3 (by assumption) ?rest3q3
                  case hy3q3 => (intro w' hSw; (try dsimp only at hSw); go_simp; try with_reducible rfl)
                  case rest3q3 =>
                  (try simp only [Act.put]); (repeat first | simp only [List.setIfInBounds_toArray] | simp only [List.set_cons_zero] | simp only [List.set_cons_succ])
                  refine ord_take (i := 4) (d := some 153) (v := ?v4q4) rfl rfl (by kernel_rfl) (by kernel_rfl) (by kernel_rfl) (fun _ _ _ h => h) (by rfl) ?hy4q4 (by assumption) ?rest4q4
                  case hy4q4 => (intro w' hSw; (try dsimp only at hSw); go_simp; try with_reducible rfl)
                  case rest4q4 =>
                  (try simp only [Act.put]); (repeat first | simp only [List.setIfInBounds_toArray] | simp only [List.set_cons_zero] | simp only [List.set_cons_succ])
                  refine ord_take (i := 5) (d := some 154) (v := ?v5q5) rfl rfl (by kernel_rfl) (by kernel_rfl) (by kernel_rfl) (fun _ _ _ h => h) (by rfl) ?hy5q5 (by assumption) ?rest5q5
                  case hy5q5 => (intro w' hSw; (try dsimp only at hSw); go_simp; try with_reducible rfl)
                  case rest5q5 =>
                  (try simp only [Act.put]); (repeat first | simp only [List.setIfInBounds_toArray] | simp only [List.set_cons_zero] | simp only [List.set_cons_succ])
                  refine ord_only (i := 6) rfl (by kernel_rfl) (by rfl) ?_
                  refine ord_call (d := some 155) (f := 14) (args := #[.int .i64 9, .int .i64 (-5)]) rfl (by go_simp; try with_reducible rfl) (mkLine_any 9 (-5) z0) ?_
                  rintro e z1 ⟨rfl, hb⟩
                  have HIa : Hid (RE T z1 g en m us) := HI9.out.below hb
                  clear hb
                  refine ⟨_, rfl, HSQ.out _ HIa.out, ?_⟩
                  have hS1 := HSQ.out _ HIa.out
                  (try simp only [Act.put]); (repeat first | simp only [List.setIfInBounds_toArray] | simp only [List.set_cons_zero] | simp only [List.set_cons_succ])
                  obtain ⟨⟨u0, d0⟩, f0⟩ := (HSEL.out _ HIa.out).2.2.2.2.cell (j * 2) (by omega)
                  obtain ⟨⟨u1, d1⟩, f1⟩ := (HSEL.out _ HIa.out).2.2.2.2.cell (j * 2 + 1) (by omega)
                  have d2 : (z1.setCell ⟨gl, j * 2, none⟩ (.int .i64 9)).cell? ⟨gl, j * 2 + 1, none⟩ = some u1 := (World.cell?_setCell_other _ _ _ _ (by simp)).trans d1
                  have f2 : (z1.setCell ⟨gl, j * 2, none⟩ (.int .i64 9)).frozen? ⟨gl, j * 2 + 1, none⟩ = false := by rw [World.frozen?_setCell]; exact f1
                  have HIb : Hid (RE T ((z1.setCell ⟨gl, j * 2, none⟩ (.int .i64 9)).setCell ⟨gl, j * 2 + 1, none⟩ (.int .i64 (-5))) g en m us) := (HIa.out.line gl (j * 2) hgT hgn _).line gl (j * 2 + 1) hgT hgn _
                  refine ord_take (i := 7) (d := some 156) (v := ?v7q7) rfl rfl (by kernel_rfl) (by kernel_rfl) (by kernel_rfl) (fun _ _ _ h => h) (by rfl) ?hy7q7 (by assumption) ?rest7q7
                  case hy7q7 => (intro w' hSw; (try dsimp only at hSw); go_simp; try with_reducible rfl)
                  case rest7q7 =>
                  (try simp only [Act.put]); (repeat first | simp only [List.setIfInBounds_toArray] | simp only [List.set_cons_zero] | simp only [List.set_cons_succ])
                  refine ord_only (i := 8) rfl (by kernel_rfl) (by rfl) ?_
                  refine ord_skip (d := none) (w' := ((z1.setCell ⟨gl, j * 2, none⟩ (.int .i64 9)).setCell ⟨gl, j * 2 + 1, none⟩ (.int .i64 (-5)))) rfl (by go_simp; try with_reducible rfl) ?_
                  refine ⟨HSQ.out _ HIb.out, ?_⟩
                  (try simp only [Act.put]); (repeat first | simp only [List.setIfInBounds_toArray] | simp only [List.set_cons_zero] | simp only [List.set_cons_succ])
                  refine wpAnyH_done (by kernel_rfl) ?_ _
                  refine NoPanic.normal ?_
                  clear hS0 hS1 d0 d1 d2 f0 f1 f2 HI9 HIa
                  generalize ((z1.setCell ⟨gl, j * 2, none⟩ (.int .i64 9)).setCell ⟨gl, j * 2 + 1, none⟩ (.int .i64 (-5))) = z2 at *
                  go_wp2
                  go_roundw
                  case rel => exact ⟨j + 1, by omega, by go_num, HIb⟩
                  case measure => simp [intOf]; omega
                · obtain ⟨d0, d1, f0, f1, -⟩ := HSEL.out _ HI8.out
                  have HIc : Hid (RQ T ((wr.setCell ⟨g, m * 2, none⟩ (.int .i64 0)).setCell ⟨g, m * 2 + 1, none⟩ (.slice none 0 0)) (some ⟨g, 0, none⟩) en (m + 1) us) := ⟨((HI8.out.up.post (m * 2) (by omega) _).post (m * 2 + 1) (by omega) _).b, .inr ⟨g, rfl, (HI8.out.up.post (m * 2) (by omega) _).post (m * 2 + 1) (by omega) _⟩⟩
                  go_wp2
                  go_roundw
                  case rel => exact ⟨m + 1, by omega, by go_num, HIc⟩
                  case measure => simp [intOf]; omega
            · obtain ⟨hbT, -⟩ := HI7.out
              have HT2 : Hid (RT w wr ⟨id, born, pA, pB, ser, days⟩ pa N pc tu tt KA KB xid xa xn xc qa qc r sa l ma xls yb yla ylc) := HTT.out.below hbT
              clear HI7 hbT
              obtain ⟨-, p0, p1, p2, p3, p4, p5⟩ := HT2.out.x.pp
              obtain ⟨-, q0, q1, q2, q3, q4, q5⟩ := HT2.out.x.q
              simp only at p0 p1 p2 p3 p4 p5 q0 q1 q2 q3 q4 q5
              have gl := HT2.out.x.lt
              go_wp2_with fail
              refine (samePass_eq ⟨id, born, pA, pB, ser, days⟩ qa pa N qc pc wr HP.out.1 (by unfold maxLen; omega) HT2.out.q (HP.out.2.2.2.below HT2.out.b)).mono ?_
              rintro e v1 ⟨rfl, hb⟩
              clear p0 p1 p2 p3 p4 p5 q0 q1 q2 q3 q4 q5 gl
              have HT3 : Hid (RT w v1 ⟨id, born, pA, pB, ser, days⟩ pa N pc tu tt KA KB xid xa xn xc qa qc r sa l ma xls yb yla ylc) := HT2.out.below hb
              clear HT2 hb
              go_wp2_with fail
              refine (sameR_at r rn sa ra sc rc v1 HR.out.1 (by unfold maxLen; omega) HT3.out.s (HR.out.2.2.below HT3.out.b)).mono ?_
              rintro e v2 ⟨rfl, hb⟩
              have HT4 : Hid (RT w v2 ⟨id, born, pA, pB, ser, days⟩ pa N pc tu tt KA KB xid xa xn xc qa qc r sa l ma xls yb yla ylc) := HT3.out.below hb
              clear HT3 hb
              go_wp2_with fail
              refine (sameL_at l ln ma la mc lc v2 HL.out.1 (by unfold maxLen; omega) (fun q hq => by have := HL.out.2.1 q hq; unfold maxLen; omega) HT4.out.m (HL.out.2.2.2.below HT4.out.b)).mono ?_
              rintro e v3 ⟨rfl, hb⟩
              have HT5 : Hid (RT w v3 ⟨id, born, pA, pB, ser, days⟩ pa N pc tu tt KA KB xid xa xn xc qa qc r sa l ma xls yb yla ylc) := HT4.out.below hb
              clear HT4 hb
              have x0 := HT5.out.x.x0
              have x1 := HT5.out.x.x1
              have gl := HT5.out.x.lt
              have gl3 : w.heap.size + 3 < v3.heap.size := by omega
              have y0 := HT5.out.y0
              have y1 := HT5.out.y1
              have yl := HT5.out.yl
              go_wp2_with fail
              clear x0 x1 gl gl3 y0 y1 yl
              have hbz : Below v3.heap.size v3 ((v3.alloc (.cells #[.int .i64 xid, .slice yla xn ylc] 34)).alloc (.cells #[.int .i64 xid, .slice xa xn xc] 34)) := (below_box v3 _).alloc (by simp) _
              have s1 : (v3.alloc (.cells #[.int .i64 xid, .slice yla xn ylc] 34)).heap.size = v3.heap.size + 1 := by simp
              obtain ⟨c0, c1⟩ := two_new v3 (.int .i64 xid) (.slice yla xn ylc) 34
              obtain ⟨d0, d1⟩ := two_new (v3.alloc (.cells #[.int .i64 xid, .slice yla xn ylc] 34)) (.int .i64 xid) (.slice xa xn xc) 34
              rw [s1] at d0 d1
              obtain ⟨kc, _⟩ := bcell (below_box (v3.alloc (.cells #[.int .i64 xid, .slice yla xn ylc] 34)) (.cells #[.int .i64 xid, .slice xa xn xc] 34))
              refine (sameL_at [(xid, xls)] 1 (some ⟨v3.heap.size, 0, none⟩) (some ⟨v3.heap.size + 1, 0, none⟩) 1 1 _ rfl (by unfold maxLen; omega) (fun q hq => by rw [List.mem_singleton] at hq; subst hq; show xls.length ≤ _; rw [HX.out.1]; unfold maxLen; omega)
                (one_g HX.out.1 HYC.out (by simp <;> omega) ((kc _ _ (by rw [s1]; omega)).trans c0) ((kc _ _ (by rw [s1]; omega)).trans c1) (HT5.out.y.below hbz))
                (one_g HX.out.1 HX.out.2.2.1 (by simp <;> omega) d0 d1 (HX.out.2.2.2.below (below_on HT5.out.b (Nat.le_refl _) hbz)))).mono ?_
              rintro e v4 ⟨rfl, hb⟩
              have HBf : Hid (Below w.heap.size w v4) := below_on HT5.out.b (Nat.le_refl _) (below_on hbz (Nat.le_refl _) hb)
              clear hb hbz c0 c1 d0 d1 kc s1 HT5
              go_wp2_with fail
              go_ret
              exact ⟨ret_bool rfl, HBf.out⟩
end Go.Proofs.YtandlmnbnjkklaaGreatDoor
