/- The walk of CutBack. -/
import Derived.Test.YtandlmnbnjkklaaDoorLawPass2
import Derived.Test.YtandlmnbnjkklaaDoorOrd
namespace Go.Proofs.YtandlmnbnjkklaaDoor
open Go.RowKit Go.BigFrame

namespace Pz
theorem renew_bad (p : Pq) (n u t : Int) : (∃ d, d ≠ 0 ∧ renew p n u t = (zero, 0, d)) ∨ ∃ x y, Rn p n u t x y := by
  obtain ⟨q, m, d, hq⟩ : ∃ q m d, renew p n u t = (q, m, d) := ⟨_, _, _, rfl⟩
  by_cases h : d = 0
  · subst h
    obtain ⟨x, y, hr, _, _⟩ := renew_is hq
    exact .inr ⟨x, y, hr⟩
  · refine .inl ⟨d, h, ?_⟩
    have e := hq
    unfold renew at e ⊢
    split at e
    · split at e
      · cases e; simp [*]
      · split at e
        · split at e
          · split at e
            · cases e; exact absurd rfl h
            · cases e; simp [*]
          · cases e; simp [*]
        · cases e; simp [*]
    · cases e; simp [*]
theorem Rn.back {p : Pq} {n u t x y : Int} (h : Rn p n u t x y) : Pz.cut (renewed p x y) x = (⟨p.id, p.born, p.a, p.b, p.ser, p.days⟩, y - x, 0) := by
  unfold Pz.cut
  have h1 := h.up
  have h2 := h.top
  have h3 := h.n1
  have h4 := h.nx
  rw [if_pos ((chk_ok _).2 h.new), if_neg (by unfold noD; omega), h.size]
  have e : cutP (renewed p x y) x = ⟨p.id, p.born, p.a, p.b, p.ser, p.days⟩ := by unfold cutP; rw [h.cut]; rfl
  rw [e, h.cut]
  have : Spn.size p.days + (y - x) - Spn.size p.days = y - x := by omega
  rw [this]
end Pz
theorem Z6.wr {W : World} {r : Nat} (h : Z6 W r) (p : Pz.Pq) (a : Option Addr) (n c : Nat) : Has6 (six W r (.int .i64 p.id) (.int .i64 p.born) (.int .i64 p.a) (.int .i64 p.b) (.int .i64 p.ser) (.slice a n c)) r p a n c := by
  obtain ⟨lt, z0, z1, z2, z3, z4, z5, _⟩ := h
  refine ⟨?_, ?_, ?_, ?_, ?_, ?_, ?_⟩
  · simp only [six]; rw [Deep.nblk_setCell, Deep.nblk_setCell, Deep.nblk_setCell, Deep.nblk_setCell, Deep.nblk_setCell, Deep.nblk_setCell]; exact lt
  all_goals simp [six, go_sem, *]
set_option maxRecDepth 100000 in
set_option maxHeartbeats 16000000 in
theorem cutBack_bad (p : Pz.Pq) (a : Option Addr) (N c : Nat) (n tu tt : Int) (w : World) (hN : p.days.length = N) (hl : N ≤ maxLen) (hc : N ≤ c) (hn : a = none → c = 0 ∧ p.days = []) (hw : Laid w) (hr : Row2 w a p.days) (d : Int) (d0 : d ≠ 0) (hv : Pz.renew p n tu tt = (Pz.zero, 0, d)) :
    Calls Tryd.prog 7 #[pv p a N c, .int .i64 n, .agg #[.int .i64 tu, .int .i64 tt]] w fun e w' => e = .returned (.bool true) ∧ Below w.heap.size w w' := by
  obtain ⟨tg, htg⟩ : ∃ tg, w.heap.size + 1 = tg := ⟨_, rfl⟩
  have HT := Thr0.new w p a N c tu tt hc hn hr
  rw [htg] at HT
  have K0 : Hid (TB2 w _ tg tu tt) := HT.1
  have Pp : Hid (PIs _ w.heap.size p a N c) := HT.2
  have HL : Hid (p.days.length = N ∧ N ≤ maxLen) := ⟨hN, hl⟩
  have HW : Hid (Laid w) := hw
  have p0 := Pp.out.h.c0
  have p1 := Pp.out.h.c1
  have p2 := Pp.out.h.c2
  have p3 := Pp.out.h.c3
  have p4 := Pp.out.h.c4
  have p5 := Pp.out.h.c5
  have k0 := K0.out.c0
  have k1 := K0.out.c1
  have HV : Hid (Pz.renew p n tu tt = (⟨0, 0, 0, 0, 0, []⟩, 0, d)) := hv
  have d1 : (d != 0) = true := by simpa using d0
  clear HT hN hl hc hn hw hr hv d0
  go_enter Tryd.func7, Tryd.ntmps7
  go_wp2_with fail
  clear k0 k1 p0 p1 p2 p3 p4 p5
  have h1 := pZRenew_any p a N c n tu tt _ (HW.out.below K0.out.b) HL.out.1 HL.out.2 Pp.out.k Pp.out.z Pp.out.r
  rw [HV.out] at h1
  refine h1.mono ?_
  rintro e w1 hp
  obtain ⟨qa, qn, qc, rfl, hlen, h64, hc, hn, hr, hb⟩ := rzSay hp
  have ql : Hid ([].length = qn ∧ qn ≤ 64) := ⟨hlen, h64⟩
  have K1 : Hid (TB2 w (w1.alloc (.cells #[.int .i64 0, .int .i64 0, .int .i64 0, .int .i64 0, .int .i64 0, .slice qa qn qc] 24)) tg tu tt) := (K0.out.below hb).below (below_box _ _)
  have Pp : Hid (PIs (w1.alloc (.cells #[.int .i64 0, .int .i64 0, .int .i64 0, .int .i64 0, .int .i64 0, .slice qa qn qc] 24)) w.heap.size p a N c) := (Pp.out.below hb).box _
  have Pq : Hid (PIs (w1.alloc (.cells #[.int .i64 0, .int .i64 0, .int .i64 0, .int .i64 0, .int .i64 0, .slice qa qn qc] 24)) w1.heap.size ⟨0, 0, 0, 0, 0, []⟩ qa qn qc) := PIs.new hc hn hr
  clear hp h1 hc hn hr hb hlen h64
  obtain rfl : qn = 0 := ql.out.1.symm
  obtain ⟨-, p0, p1, p2, p3, p4, p5⟩ := Pp.out.h
  (try simp only at p0 p1 p2 p3 p4 p5)
  obtain ⟨-, q0, q1, q2, q3, q4, q5⟩ := Pq.out.h
  (try simp only at q0 q1 q2 q3 q4 q5)
  have k0 := K1.out.c0
  have k1 := K1.out.c1
  go_wp2_with fail
  clear k0 k1 p0 p1 p2 p3 p4 p5 q0 q1 q2 q3 q4 q5
  have h1 := zbegun_any (w1.alloc (.cells #[.int .i64 0, .int .i64 0, .int .i64 0, .int .i64 0, .int .i64 0, .slice qa 0 qc] 24)) (HW.out.below K1.out.b)
  refine h1.mono ?_
  rintro e w2 ⟨rfl, hb⟩
  have K2 : Hid (TB2 w w2 tg tu tt) := K1.out.below hb
  have Pp : Hid (PIs w2 w.heap.size p a N c) := Pp.out.below hb
  have Pq : Hid (PIs w2 w1.heap.size ⟨0, 0, 0, 0, 0, []⟩ qa 0 qc) := Pq.out.below hb
  clear h1 hb
  obtain ⟨-, p0, p1, p2, p3, p4, p5⟩ := Pp.out.h
  (try simp only at p0 p1 p2 p3 p4 p5)
  obtain ⟨-, q0, q1, q2, q3, q4, q5⟩ := Pq.out.h
  (try simp only at q0 q1 q2 q3 q4 q5)
  have k0 := K2.out.c0
  have k1 := K2.out.c1
  go_wp2
  go_ret
  exact ⟨rfl, K2.out.b⟩
set_option maxRecDepth 100000 in
set_option maxHeartbeats 16000000 in
theorem cutBack_good (p : Pz.Pq) (a : Option Addr) (N c : Nat) (n tu tt : Int) (w : World) (hN : p.days.length = N) (hl : N ≤ maxLen) (hc : N ≤ c) (hn : a = none → c = 0 ∧ p.days = []) (hw : Laid w) (hr : Row2 w a p.days) (x y : Int) (hv : Pz.Rn p n tu tt x y) :
    Calls Tryd.prog 7 #[pv p a N c, .int .i64 n, .agg #[.int .i64 tu, .int .i64 tt]] w fun e w' => e = .returned (.bool true) ∧ Below w.heap.size w w' := by
  obtain ⟨tg, htg⟩ : ∃ tg, w.heap.size + 1 = tg := ⟨_, rfl⟩
  have HT := Thr0.new w p a N c tu tt hc hn hr
  rw [htg] at HT
  have K0 : Hid (TB2 w _ tg tu tt) := HT.1
  have Pp : Hid (PIs _ w.heap.size p a N c) := HT.2
  have HL : Hid (p.days.length = N ∧ N ≤ maxLen) := ⟨hN, hl⟩
  have HW : Hid (Laid w) := hw
  have p0 := Pp.out.h.c0
  have p1 := Pp.out.h.c1
  have p2 := Pp.out.h.c2
  have p3 := Pp.out.h.c3
  have p4 := Pp.out.h.c4
  have p5 := Pp.out.h.c5
  have k0 := K0.out.c0
  have k1 := K0.out.c1
  obtain ⟨cl, hcl⟩ : ∃ cl, Spn.ans 0 p.days [(x, y)] = cl := ⟨_, rfl⟩
  obtain ⟨m, hm⟩ : ∃ m, y - x = m := ⟨_, rfl⟩
  obtain ⟨E, hE⟩ : ∃ E, Pz.pend p.days = E := ⟨_, rfl⟩
  have hv1 : Pz.renew p n tu tt = (⟨p.id, p.born, p.a, p.b, p.ser, cl⟩, m, 0) := by rw [hv.eq, hm, ← hcl]; rfl
  have hv2 : Pz.cut ⟨p.id, p.born, p.a, p.b, p.ser, cl⟩ x = (⟨p.id, p.born, p.a, p.b, p.ser, p.days⟩, m, 0) := by rw [← hcl, ← hm]; exact hv.back
  have HV : Hid (Pz.renew p n tu tt = (⟨p.id, p.born, p.a, p.b, p.ser, cl⟩, m, 0) ∧ Pz.cut ⟨p.id, p.born, p.a, p.b, p.ser, cl⟩ x = (⟨p.id, p.born, p.a, p.b, p.ser, p.days⟩, m, 0)) := ⟨hv1, hv2⟩
  have HMX : Hid (max n E = x) := by
    show _ = _
    rw [← hv.ex, ← hE]
    unfold Pz.from'
    split <;> omega
  have hN64 : N ≤ 64 := by rw [← hN]; exact ((Spn.chk_zero _).1 hv.ok.sp).1
  have HE : Hid (Pz.pend p.days = E ∧ N ≤ 64) := ⟨hE, hN64⟩
  clear HT hN hl hc hn hw hr hv hv1 hv2 hcl hm hE hN64
  go_enter Tryd.func7, Tryd.ntmps7
  go_wp2_with fail
  clear k0 k1 p0 p1 p2 p3 p4 p5
  have h1 := pZRenew_any p a N c n tu tt _ (HW.out.below K0.out.b) HL.out.1 HL.out.2 Pp.out.k Pp.out.z Pp.out.r
  rw [HV.out.1] at h1
  refine h1.mono ?_
  rintro e w1 hp
  obtain ⟨qa, qn, qc, rfl, hlen, h64, hc, hn, hr, hb⟩ := rzSay hp
  have ql : Hid (cl.length = qn ∧ qn ≤ 64) := ⟨hlen, h64⟩
  have K1 : Hid (TB2 w (w1.alloc (.cells #[.int .i64 p.id, .int .i64 p.born, .int .i64 p.a, .int .i64 p.b, .int .i64 p.ser, .slice qa qn qc] 24)) tg tu tt) := (K0.out.below hb).below (below_box _ _)
  have Pp : Hid (PIs (w1.alloc (.cells #[.int .i64 p.id, .int .i64 p.born, .int .i64 p.a, .int .i64 p.b, .int .i64 p.ser, .slice qa qn qc] 24)) w.heap.size p a N c) := (Pp.out.below hb).box _
  have Pq : Hid (PIs (w1.alloc (.cells #[.int .i64 p.id, .int .i64 p.born, .int .i64 p.a, .int .i64 p.b, .int .i64 p.ser, .slice qa qn qc] 24)) w1.heap.size ⟨p.id, p.born, p.a, p.b, p.ser, cl⟩ qa qn qc) := PIs.new hc hn hr
  clear hp h1 hc hn hr hb hlen h64
  obtain ⟨-, p0, p1, p2, p3, p4, p5⟩ := Pp.out.h
  (try simp only at p0 p1 p2 p3 p4 p5)
  obtain ⟨-, q0, q1, q2, q3, q4, q5⟩ := Pq.out.h
  (try simp only at q0 q1 q2 q3 q4 q5)
  have k0 := K1.out.c0
  have k1 := K1.out.c1
  go_wp2_with fail
  clear k0 k1 p0 p1 p2 p3 p4 p5 q0 q1 q2 q3 q4 q5
  have h1 := zbegun_any (w1.alloc (.cells #[.int .i64 p.id, .int .i64 p.born, .int .i64 p.a, .int .i64 p.b, .int .i64 p.ser, .slice qa qn qc] 24)) (HW.out.below K1.out.b)
  refine h1.mono ?_
  rintro e w2 ⟨rfl, hb⟩
  have K2 : Hid (TB2 w w2 tg tu tt) := K1.out.below hb
  have Pp : Hid (PIs w2 w.heap.size p a N c) := Pp.out.below hb
  have Pq : Hid (PIs w2 w1.heap.size ⟨p.id, p.born, p.a, p.b, p.ser, cl⟩ qa qn qc) := Pq.out.below hb
  clear h1 hb
  obtain ⟨-, p0, p1, p2, p3, p4, p5⟩ := Pp.out.h
  (try simp only at p0 p1 p2 p3 p4 p5)
  obtain ⟨-, q0, q1, q2, q3, q4, q5⟩ := Pq.out.h
  (try simp only at q0 q1 q2 q3 q4 q5)
  have k0 := K2.out.c0
  have k1 := K2.out.c1
  go_wp2_with fail
  rename_i K hK
  clear k0 k1 p0 p1 p2 p3 p4 p5 q0 q1 q2 q3 q4 q5
  have HSQ : Hid (∀ W, Below w2.heap.size w2 W → W.cell? ⟨w.heap.size, 0, none⟩ = some (.int .i64 p.id) ∧ W.cell? ⟨w.heap.size, 1, none⟩ = some (.int .i64 p.born) ∧ W.cell? ⟨w.heap.size, 2, none⟩ = some (.int .i64 p.a) ∧ W.cell? ⟨w.heap.size, 3, none⟩ = some (.int .i64 p.b) ∧ W.cell? ⟨w.heap.size, 4, none⟩ = some (.int .i64 p.ser) ∧ W.cell? ⟨w.heap.size, 5, none⟩ = some (.slice a N c) ∧ W.cell? ⟨w1.heap.size, 0, none⟩ = some (.int .i64 p.id) ∧ W.cell? ⟨w1.heap.size, 1, none⟩ = some (.int .i64 p.born) ∧ W.cell? ⟨w1.heap.size, 2, none⟩ = some (.int .i64 p.a) ∧ W.cell? ⟨w1.heap.size, 3, none⟩ = some (.int .i64 p.b) ∧ W.cell? ⟨w1.heap.size, 4, none⟩ = some (.int .i64 p.ser) ∧ W.cell? ⟨w1.heap.size, 5, none⟩ = some (.slice qa qn qc)) := fun W hb => by
    have hp := (Pp.out.below hb).h
    have hq := (Pq.out.below hb).h
    exact ⟨hp.c0, hp.c1, hp.c2, hp.c3, hp.c4, hp.c5, hq.c0, hq.c1, hq.c2, hq.c3, hq.c4, hq.c5⟩
  have x0B' : Hid (Below w2.heap.size w2 w2.drew) := below_drewN (Below.refl _ _) 1
  have REST : ∀ (g : Nat) (W : World) (sa : Option Addr) (sc : Nat), Below w2.heap.size w2 W → Has6 W g p sa N sc → Row2 W sa p.days → K ⟨#[pv p a N c, .int .i64 n, .agg #[.int .i64 tu, .int .i64 tt], .pointer (some ⟨w.heap.size, 0, none⟩), undef, .pointer (some ⟨tg, 0, none⟩), .bool false, .pointer (some ⟨w1.heap.size, 0, none⟩), .int .i64 m, .int .i64 0, .pointer (some ⟨g, 0, none⟩), .int .i64 m, .int .i64 0, .tuple #[.agg #[.int .i64 p.id, .int .i64 p.born, .int .i64 p.a, .int .i64 p.b, .int .i64 p.ser, .slice qa qn qc], .int .i64 m, .int .i64 0], .agg #[.int .i64 p.id, .int .i64 p.born, .int .i64 p.a, .int .i64 p.b, .int .i64 p.ser, .slice a N c], .int .i64 n, .agg #[.int .i64 tu, .int .i64 tt], .tuple #[.agg #[.int .i64 p.id, .int .i64 p.born, .int .i64 p.a, .int .i64 p.b, .int .i64 p.ser, .slice qa qn qc], .int .i64 m, .int .i64 0], .agg #[.int .i64 p.id, .int .i64 p.born, .int .i64 p.a, .int .i64 p.b, .int .i64 p.ser, .slice qa qn qc], .int .i64 m, .int .i64 0, .bool true, .bool false, .int .i64 0, .bool false, undef, undef, .tuple #[.agg #[.int .i64 p.id, .int .i64 p.born, .int .i64 p.a, .int .i64 p.b, .int .i64 p.ser, .slice sa N sc], .int .i64 m, .int .i64 0], .agg #[.int .i64 p.id, .int .i64 p.born, .int .i64 p.a, .int .i64 p.b, .int .i64 p.ser, .slice qa qn qc], .int .i64 n, .agg #[.int .i64 p.id, .int .i64 p.born, .int .i64 p.a, .int .i64 p.b, .int .i64 p.ser, .slice a N c], .int .i64 E, .int .i64 x, .tuple #[.agg #[.int .i64 p.id, .int .i64 p.born, .int .i64 p.a, .int .i64 p.b, .int .i64 p.ser, .slice sa N sc], .int .i64 m, .int .i64 0], .agg #[.int .i64 p.id, .int .i64 p.born, .int .i64 p.a, .int .i64 p.b, .int .i64 p.ser, .slice sa N sc], .int .i64 m, .int .i64 0, undef, undef, undef, undef, undef, undef, undef, undef, undef, undef, undef, undef], []⟩ W := by
    intro g W sa sc hb h6 hrw
    have WB : Hid (Below w2.heap.size w2 W) := hb
    have H6 : Hid (Has6 W g p sa N sc) := h6
    have RW : Hid (Row2 W sa p.days) := hrw
    refine hK _ _ ?_
    obtain ⟨p0, p1, p2, p3, p4, p5, -⟩ := HSQ.out _ hb
    obtain ⟨-, s0, s1, s2, s3, s4, s5⟩ := h6
    clear hK hb hrw x0B'
    go_wp2_with fail
    refine (samePass_eq p sa a N sc c W HL.out.1 HL.out.2 RW.out (Pp.out.r.below WB.out)).mono ?_
    rintro e w3 ⟨rfl, hb⟩
    have WB3 : Hid (Below w2.heap.size w2 w3) := below_on WB.out (Nat.le_refl _) hb
    clear hb
    go_wp2
    go_ret
    exact ⟨rfl, below_on K2.out.b (Nat.le_refl _) WB3.out⟩
  refine wp_region_noPanic ?_
  refine ord_region (S := fun W => W.cell? ⟨w.heap.size, 0, none⟩ = some (.int .i64 p.id) ∧ W.cell? ⟨w.heap.size, 1, none⟩ = some (.int .i64 p.born) ∧ W.cell? ⟨w.heap.size, 2, none⟩ = some (.int .i64 p.a) ∧ W.cell? ⟨w.heap.size, 3, none⟩ = some (.int .i64 p.b) ∧ W.cell? ⟨w.heap.size, 4, none⟩ = some (.int .i64 p.ser) ∧ W.cell? ⟨w.heap.size, 5, none⟩ = some (.slice a N c) ∧ W.cell? ⟨w1.heap.size, 0, none⟩ = some (.int .i64 p.id) ∧ W.cell? ⟨w1.heap.size, 1, none⟩ = some (.int .i64 p.born) ∧ W.cell? ⟨w1.heap.size, 2, none⟩ = some (.int .i64 p.a) ∧ W.cell? ⟨w1.heap.size, 3, none⟩ = some (.int .i64 p.b) ∧ W.cell? ⟨w1.heap.size, 4, none⟩ = some (.int .i64 p.ser) ∧ W.cell? ⟨w1.heap.size, 5, none⟩ = some (.slice qa qn qc)) (by kernel_rfl) (HSQ.out _ x0B'.out) ?_
  intro hS0
  have x0B := x0B'
  clear x0B' hK
  generalize w2.drew = x0 at *
  refine ord_take (i := 0) (d := some 28) (v := ?v0x1) rfl rfl (by kernel_rfl) (by kernel_rfl) (by kernel_rfl) (fun _ _ _ h => h) (by rfl) ?hy0x1 (by assumption) ?rest0x1
  case hy0x1 => (intro w' hSw; (try dsimp only at hSw); go_simp; try with_reducible rfl)
  case rest0x1 =>
  (try simp only [Act.put]); (repeat first | simp only [List.setIfInBounds_toArray] | simp only [List.set_cons_zero] | simp only [List.set_cons_succ])
  refine ord_take (i := 1) (d := some 29) (v := ?v1x2) rfl rfl (by kernel_rfl) (by kernel_rfl) (by kernel_rfl) (fun _ _ _ h => h) (by rfl) ?hy1x2 (by assumption) ?rest1x2
  case hy1x2 => (intro w' hSw; (try dsimp only at hSw); go_simp; try with_reducible rfl)
  case rest1x2 =>
  (try simp only [Act.put]); (repeat first | simp only [List.setIfInBounds_toArray] | simp only [List.set_cons_zero] | simp only [List.set_cons_succ])
  refine ord_take (i := 2) (d := some 30) (v := ?v2x3) rfl rfl (by kernel_rfl) (by kernel_rfl) (by kernel_rfl) (fun _ _ _ h => h) (by rfl) ?hy2x3 (by assumption) ?rest2x3
  case hy2x3 => (intro w' hSw; (try dsimp only at hSw); go_simp; try with_reducible rfl)
  case rest2x3 =>
  (try simp only [Act.put]); (repeat first | simp only [List.setIfInBounds_toArray] | simp only [List.set_cons_zero] | simp only [List.set_cons_succ])
  refine ord_two (i := 3) (j := 10) rfl rfl (by kernel_rfl) (by rfl) (by rfl) ?_ ?_
  · refine ord_call (d := some 31) (f := 23) (args := #[pv p a N c]) rfl (by go_simp; try with_reducible rfl) (passEnd_any p a N c x0 HL.out.1 HE.out.2 (Pp.out.r.below x0B.out)) ?_
    rw [HE.out.1]
    rintro e x1 ⟨rfl, hb⟩
    have x1B : Hid (Below w2.heap.size w2 x1) := below_on x0B.out (Nat.le_refl _) hb
    clear hb
    refine ⟨_, rfl, HSQ.out _ x1B.out, ?_⟩
    have hSx1 := HSQ.out _ x1B.out
    (try simp only [Act.put]); (repeat first | simp only [List.setIfInBounds_toArray] | simp only [List.set_cons_zero] | simp only [List.set_cons_succ])
    refine ord_take (i := 4) (d := some 32) (v := ?v4x4) rfl rfl (by kernel_rfl) (by kernel_rfl) (by kernel_rfl) (fun _ _ _ h => h) (by rfl) ?hy4x4 (by assumption) ?rest4x4
    case hy4x4 => (intro w' hSw; (try dsimp only at hSw); go_simp; try with_reducible rfl)
    case rest4x4 =>
    (try simp only [Act.put]); (repeat first | simp only [List.setIfInBounds_toArray] | simp only [List.set_cons_zero] | simp only [List.set_cons_succ])
    rw [HMX.out]
    refine ord_two (i := 5) (j := 10) rfl rfl (by kernel_rfl) (by rfl) (by rfl) ?_ ?_
    · refine ord_call (d := some 33) (f := 9) (args := #[pv ⟨p.id, p.born, p.a, p.b, p.ser, cl⟩ qa qn qc, .int .i64 x]) rfl (by go_simp; try with_reducible rfl) (pZCut_own ⟨p.id, p.born, p.a, p.b, p.ser, cl⟩ qa qn qc x x1 ql.out.1 (by have := ql.out.2; unfold maxLen; omega) Pq.out.k Pq.out.z (Pq.out.r.below x1B.out)) ?_
      rw [HV.out.2]
      rintro e x2 ⟨sa, sn, sc, rfl, hlen, -, -, -, ho, hb⟩
      obtain rfl : N = sn := HL.out.1.symm.trans hlen
      have x2B : Hid (Below w2.heap.size w2 x2) := below_on x1B.out (Nat.le_refl _) hb
      have x2O : Hid (OwnS x2 x1.heap.size (.slice sa N sc) p.days) := ho
      clear hb ho hlen
      refine ⟨_, rfl, HSQ.out _ x2B.out, ?_⟩
      have hSx2 := HSQ.out _ x2B.out
      (try simp only [Act.put]); (repeat first | simp only [List.setIfInBounds_toArray] | simp only [List.set_cons_zero] | simp only [List.set_cons_succ])
      refine ord_take (i := 6) (d := some 27) (v := ?v6x5) rfl rfl (by kernel_rfl) (by kernel_rfl) (by kernel_rfl) (fun _ _ _ h => h) (by rfl) ?hy6x5 (by assumption) ?rest6x5
      case hy6x5 => (intro w' hSw; (try dsimp only at hSw); go_simp; try with_reducible rfl)
      case rest6x5 =>
      (try simp only [Act.put]); (repeat first | simp only [List.setIfInBounds_toArray] | simp only [List.set_cons_zero] | simp only [List.set_cons_succ])
      refine ord_take (i := 7) (d := some 34) (v := ?v7x6) rfl rfl (by kernel_rfl) (by kernel_rfl) (by kernel_rfl) (fun _ _ _ h => h) (by rfl) ?hy7x6 (by assumption) ?rest7x6
      case hy7x6 => (intro w' hSw; (try dsimp only at hSw); go_simp; try with_reducible rfl)
      case rest7x6 =>
      (try simp only [Act.put]); (repeat first | simp only [List.setIfInBounds_toArray] | simp only [List.set_cons_zero] | simp only [List.set_cons_succ])
      refine ord_take (i := 8) (d := some 35) (v := ?v8x7) rfl rfl (by kernel_rfl) (by kernel_rfl) (by kernel_rfl) (fun _ _ _ h => h) (by rfl) ?hy8x7 (by assumption) ?rest8x7
      case hy8x7 => (intro w' hSw; (try dsimp only at hSw); go_simp; try with_reducible rfl)
      case rest8x7 =>
      (try simp only [Act.put]); (repeat first | simp only [List.setIfInBounds_toArray] | simp only [List.set_cons_zero] | simp only [List.set_cons_succ])
      refine ord_take (i := 9) (d := some 36) (v := ?v9x8) rfl rfl (by kernel_rfl) (by kernel_rfl) (by kernel_rfl) (fun _ _ _ h => h) (by rfl) ?hy9x8 (by assumption) ?rest9x8
      case hy9x8 => (intro w' hSw; (try dsimp only at hSw); go_simp; try with_reducible rfl)
      case rest9x8 =>
      (try simp only [Act.put]); (repeat first | simp only [List.setIfInBounds_toArray] | simp only [List.set_cons_zero] | simp only [List.set_cons_succ])
      refine ord_only (i := 10) rfl (by kernel_rfl) (by rfl) ?_
      have x3B : Hid (Below w2.heap.size w2 (x2.alloc (.cells #[.int .i64 0, .int .i64 0, .int .i64 0, .int .i64 0, .int .i64 0, .slice none 0 0] 24))) := below_on x2B.out (Nat.le_refl _) (below_box _ _)
      have x3Z : Hid (Z6 (x2.alloc (.cells #[.int .i64 0, .int .i64 0, .int .i64 0, .int .i64 0, .int .i64 0, .slice none 0 0] 24)) x2.heap.size) := Z6.new _ _
      have x3L : w2.heap.size ≤ x2.heap.size := x2B.out.size
      have x3R : Hid (Row2 (x2.alloc (.cells #[.int .i64 0, .int .i64 0, .int .i64 0, .int .i64 0, .int .i64 0, .slice none 0 0] 24)) sa p.days ∧ ∀ b off, sa = some ⟨b, off, none⟩ → b ≠ x2.heap.size) := by
        refine ⟨x2O.out.row'.below (below_box _ _), fun b off e => ?_⟩
        subst e
        rcases x2O.out.form with ⟨e, _⟩ | ⟨g9, c9, e, _, hlt⟩
        · cases e
        · cases e; omega
      refine ord_value (d := some 10) (v := .pointer (some ⟨x2.heap.size, 0, none⟩)) (w' := x2.alloc (.cells #[.int .i64 0, .int .i64 0, .int .i64 0, .int .i64 0, .int .i64 0, .slice none 0 0] 24)) rfl (by go_simp; try with_reducible rfl) ?_
      refine ⟨HSQ.out _ x3B.out, ?_⟩
      have hSx3 := HSQ.out _ x3B.out
      generalize hWx3 : x2.alloc (.cells #[.int .i64 0, .int .i64 0, .int .i64 0, .int .i64 0, .int .i64 0, .slice none 0 0] 24) = x3 at *
      (try simp only [Act.put]); (repeat first | simp only [List.setIfInBounds_toArray] | simp only [List.set_cons_zero] | simp only [List.set_cons_succ])
      have s5 := six_below x3B.out (show w2.heap.size ≤ x2.heap.size by omega) (.int .i64 p.id) (.int .i64 p.born) (.int .i64 p.a) (.int .i64 p.b) (.int .i64 p.ser) (.slice sa N sc)
      have s6 : Has6 (six x3 x2.heap.size (.int .i64 p.id) (.int .i64 p.born) (.int .i64 p.a) (.int .i64 p.b) (.int .i64 p.ser) (.slice sa N sc)) x2.heap.size p sa N sc := x3Z.out.wr p sa N sc
      have s7 : Row2 (six x3 x2.heap.size (.int .i64 p.id) (.int .i64 p.born) (.int .i64 p.a) (.int .i64 p.b) (.int .i64 p.ser) (.slice sa N sc)) sa p.days := six_row x3R.out.1 x3R.out.2 (.int .i64 p.id) (.int .i64 p.born) (.int .i64 p.a) (.int .i64 p.b) (.int .i64 p.ser) (.slice sa N sc)
      have hSs := HSQ.out _ s5
      obtain ⟨-, z0, z1, z2, z3, z4, z5, gz⟩ := x3Z.out
      have g0 := gz 0
      have g1 := gz 1
      have g2 := gz 2
      have g3 := gz 3
      have g4 := gz 4
      have g5 := gz 5
      clear gz
      refine ord_only (i := 11) rfl (by kernel_rfl) (by rfl) ?_
      refine ord_skip (d := none) (w' := six x3 x2.heap.size (.int .i64 p.id) (.int .i64 p.born) (.int .i64 p.a) (.int .i64 p.b) (.int .i64 p.ser) (.slice sa N sc)) rfl (by go_simp; try with_reducible rfl) ?_
      refine ⟨hSs, ?_⟩
      (try simp only [Act.put]); (repeat first | simp only [List.setIfInBounds_toArray] | simp only [List.set_cons_zero] | simp only [List.set_cons_succ])
      refine ord_only (i := 12) rfl (by kernel_rfl) (by rfl) ?_
      refine ord_value (d := some 11) (v := .int .i64 m) (w' := six x3 x2.heap.size (.int .i64 p.id) (.int .i64 p.born) (.int .i64 p.a) (.int .i64 p.b) (.int .i64 p.ser) (.slice sa N sc)) rfl (by go_simp; try with_reducible rfl) ?_
      refine ⟨hSs, ?_⟩
      (try simp only [Act.put]); (repeat first | simp only [List.setIfInBounds_toArray] | simp only [List.set_cons_zero] | simp only [List.set_cons_succ])
      refine ord_only (i := 13) rfl (by kernel_rfl) (by rfl) ?_
      refine ord_value (d := some 12) (v := .int .i64 0) (w' := six x3 x2.heap.size (.int .i64 p.id) (.int .i64 p.born) (.int .i64 p.a) (.int .i64 p.b) (.int .i64 p.ser) (.slice sa N sc)) rfl (by go_simp; try with_reducible rfl) ?_
      refine ⟨hSs, ?_⟩
      (try simp only [Act.put]); (repeat first | simp only [List.setIfInBounds_toArray] | simp only [List.set_cons_zero] | simp only [List.set_cons_succ])
      refine wpAnyH_done (by kernel_rfl) ?_ _
      refine NoPanic.normal ?_
      exact REST x2.heap.size _ sa sc s5 s6 s7
    · have x2B : Hid (Below w2.heap.size w2 (x1.alloc (.cells #[.int .i64 0, .int .i64 0, .int .i64 0, .int .i64 0, .int .i64 0, .slice none 0 0] 24))) := below_on x1B.out (Nat.le_refl _) (below_box _ _)
      have x2Z : Hid (Z6 (x1.alloc (.cells #[.int .i64 0, .int .i64 0, .int .i64 0, .int .i64 0, .int .i64 0, .slice none 0 0] 24)) x1.heap.size) := Z6.new _ _
      have x2L : w2.heap.size ≤ x1.heap.size := x1B.out.size
      refine ord_value (d := some 10) (v := .pointer (some ⟨x1.heap.size, 0, none⟩)) (w' := x1.alloc (.cells #[.int .i64 0, .int .i64 0, .int .i64 0, .int .i64 0, .int .i64 0, .slice none 0 0] 24)) rfl (by go_simp; try with_reducible rfl) ?_
      refine ⟨HSQ.out _ x2B.out, ?_⟩
      have hSx2 := HSQ.out _ x2B.out
      generalize hWx2 : x1.alloc (.cells #[.int .i64 0, .int .i64 0, .int .i64 0, .int .i64 0, .int .i64 0, .slice none 0 0] 24) = x2 at *
      (try simp only [Act.put]); (repeat first | simp only [List.setIfInBounds_toArray] | simp only [List.set_cons_zero] | simp only [List.set_cons_succ])
      refine ord_only (i := 5) rfl (by kernel_rfl) (by rfl) ?_
      refine ord_call (d := some 33) (f := 9) (args := #[pv ⟨p.id, p.born, p.a, p.b, p.ser, cl⟩ qa qn qc, .int .i64 x]) rfl (by go_simp; try with_reducible rfl) (pZCut_own ⟨p.id, p.born, p.a, p.b, p.ser, cl⟩ qa qn qc x x2 ql.out.1 (by have := ql.out.2; unfold maxLen; omega) Pq.out.k Pq.out.z (Pq.out.r.below x2B.out)) ?_
      rw [HV.out.2]
      rintro e x3 ⟨sa, sn, sc, rfl, hlen, -, -, -, ho, hb⟩
      obtain rfl : N = sn := HL.out.1.symm.trans hlen
      have x3B : Hid (Below w2.heap.size w2 x3) := below_on x2B.out (Nat.le_refl _) hb
      have x3O : Hid (OwnS x3 x2.heap.size (.slice sa N sc) p.days) := ho
      have x3Z : Hid (Z6 x3 x1.heap.size) := x2Z.out.below hb
      have x3G : x1.heap.size < x2.heap.size := x2Z.out.lt
      clear hb ho hlen
      refine ⟨_, rfl, HSQ.out _ x3B.out, ?_⟩
      have hSx3 := HSQ.out _ x3B.out
      (try simp only [Act.put]); (repeat first | simp only [List.setIfInBounds_toArray] | simp only [List.set_cons_zero] | simp only [List.set_cons_succ])
      refine ord_take (i := 6) (d := some 27) (v := ?v6x9) rfl rfl (by kernel_rfl) (by kernel_rfl) (by kernel_rfl) (fun _ _ _ h => h) (by rfl) ?hy6x9 (by assumption) ?rest6x9
      case hy6x9 => (intro w' hSw; (try dsimp only at hSw); go_simp; try with_reducible rfl)
      case rest6x9 =>
      (try simp only [Act.put]); (repeat first | simp only [List.setIfInBounds_toArray] | simp only [List.set_cons_zero] | simp only [List.set_cons_succ])
      refine ord_take (i := 7) (d := some 34) (v := ?v7x10) rfl rfl (by kernel_rfl) (by kernel_rfl) (by kernel_rfl) (fun _ _ _ h => h) (by rfl) ?hy7x10 (by assumption) ?rest7x10
      case hy7x10 => (intro w' hSw; (try dsimp only at hSw); go_simp; try with_reducible rfl)
      case rest7x10 =>
      (try simp only [Act.put]); (repeat first | simp only [List.setIfInBounds_toArray] | simp only [List.set_cons_zero] | simp only [List.set_cons_succ])
      refine ord_take (i := 8) (d := some 35) (v := ?v8x11) rfl rfl (by kernel_rfl) (by kernel_rfl) (by kernel_rfl) (fun _ _ _ h => h) (by rfl) ?hy8x11 (by assumption) ?rest8x11
      case hy8x11 => (intro w' hSw; (try dsimp only at hSw); go_simp; try with_reducible rfl)
      case rest8x11 =>
      (try simp only [Act.put]); (repeat first | simp only [List.setIfInBounds_toArray] | simp only [List.set_cons_zero] | simp only [List.set_cons_succ])
      refine ord_take (i := 9) (d := some 36) (v := ?v9x12) rfl rfl (by kernel_rfl) (by kernel_rfl) (by kernel_rfl) (fun _ _ _ h => h) (by rfl) ?hy9x12 (by assumption) ?rest9x12
      case hy9x12 => (intro w' hSw; (try dsimp only at hSw); go_simp; try with_reducible rfl)
      case rest9x12 =>
      (try simp only [Act.put]); (repeat first | simp only [List.setIfInBounds_toArray] | simp only [List.set_cons_zero] | simp only [List.set_cons_succ])
      have s5 := six_below x3B.out (show w2.heap.size ≤ x1.heap.size by omega) (.int .i64 p.id) (.int .i64 p.born) (.int .i64 p.a) (.int .i64 p.b) (.int .i64 p.ser) (.slice sa N sc)
      have s6 : Has6 (six x3 x1.heap.size (.int .i64 p.id) (.int .i64 p.born) (.int .i64 p.a) (.int .i64 p.b) (.int .i64 p.ser) (.slice sa N sc)) x1.heap.size p sa N sc := x3Z.out.wr p sa N sc
      have s7 : Row2 (six x3 x1.heap.size (.int .i64 p.id) (.int .i64 p.born) (.int .i64 p.a) (.int .i64 p.b) (.int .i64 p.ser) (.slice sa N sc)) sa p.days := (six_own x3O.out (by omega) (.int .i64 p.id) (.int .i64 p.born) (.int .i64 p.a) (.int .i64 p.b) (.int .i64 p.ser) (.slice sa N sc)).row'
      have hSs := HSQ.out _ s5
      obtain ⟨-, z0, z1, z2, z3, z4, z5, gz⟩ := x3Z.out
      have g0 := gz 0
      have g1 := gz 1
      have g2 := gz 2
      have g3 := gz 3
      have g4 := gz 4
      have g5 := gz 5
      clear gz
      refine ord_only (i := 11) rfl (by kernel_rfl) (by rfl) ?_
      refine ord_skip (d := none) (w' := six x3 x1.heap.size (.int .i64 p.id) (.int .i64 p.born) (.int .i64 p.a) (.int .i64 p.b) (.int .i64 p.ser) (.slice sa N sc)) rfl (by go_simp; try with_reducible rfl) ?_
      refine ⟨hSs, ?_⟩
      (try simp only [Act.put]); (repeat first | simp only [List.setIfInBounds_toArray] | simp only [List.set_cons_zero] | simp only [List.set_cons_succ])
      refine ord_only (i := 12) rfl (by kernel_rfl) (by rfl) ?_
      refine ord_value (d := some 11) (v := .int .i64 m) (w' := six x3 x1.heap.size (.int .i64 p.id) (.int .i64 p.born) (.int .i64 p.a) (.int .i64 p.b) (.int .i64 p.ser) (.slice sa N sc)) rfl (by go_simp; try with_reducible rfl) ?_
      refine ⟨hSs, ?_⟩
      (try simp only [Act.put]); (repeat first | simp only [List.setIfInBounds_toArray] | simp only [List.set_cons_zero] | simp only [List.set_cons_succ])
      refine ord_only (i := 13) rfl (by kernel_rfl) (by rfl) ?_
      refine ord_value (d := some 12) (v := .int .i64 0) (w' := six x3 x1.heap.size (.int .i64 p.id) (.int .i64 p.born) (.int .i64 p.a) (.int .i64 p.b) (.int .i64 p.ser) (.slice sa N sc)) rfl (by go_simp; try with_reducible rfl) ?_
      refine ⟨hSs, ?_⟩
      (try simp only [Act.put]); (repeat first | simp only [List.setIfInBounds_toArray] | simp only [List.set_cons_zero] | simp only [List.set_cons_succ])
      refine wpAnyH_done (by kernel_rfl) ?_ _
      refine NoPanic.normal ?_
      exact REST x1.heap.size _ sa sc s5 s6 s7
  · have x1B : Hid (Below w2.heap.size w2 (x0.alloc (.cells #[.int .i64 0, .int .i64 0, .int .i64 0, .int .i64 0, .int .i64 0, .slice none 0 0] 24))) := below_on x0B.out (Nat.le_refl _) (below_box _ _)
    have x1Z : Hid (Z6 (x0.alloc (.cells #[.int .i64 0, .int .i64 0, .int .i64 0, .int .i64 0, .int .i64 0, .slice none 0 0] 24)) x0.heap.size) := Z6.new _ _
    have x1L : w2.heap.size ≤ x0.heap.size := x0B.out.size
    refine ord_value (d := some 10) (v := .pointer (some ⟨x0.heap.size, 0, none⟩)) (w' := x0.alloc (.cells #[.int .i64 0, .int .i64 0, .int .i64 0, .int .i64 0, .int .i64 0, .slice none 0 0] 24)) rfl (by go_simp; try with_reducible rfl) ?_
    refine ⟨HSQ.out _ x1B.out, ?_⟩
    have hSx1 := HSQ.out _ x1B.out
    generalize hWx1 : x0.alloc (.cells #[.int .i64 0, .int .i64 0, .int .i64 0, .int .i64 0, .int .i64 0, .slice none 0 0] 24) = x1 at *
    (try simp only [Act.put]); (repeat first | simp only [List.setIfInBounds_toArray] | simp only [List.set_cons_zero] | simp only [List.set_cons_succ])
    refine ord_only (i := 3) rfl (by kernel_rfl) (by rfl) ?_
    refine ord_call (d := some 31) (f := 23) (args := #[pv p a N c]) rfl (by go_simp; try with_reducible rfl) (passEnd_any p a N c x1 HL.out.1 HE.out.2 (Pp.out.r.below x1B.out)) ?_
    rw [HE.out.1]
    rintro e x2 ⟨rfl, hb⟩
    have x2B : Hid (Below w2.heap.size w2 x2) := below_on x1B.out (Nat.le_refl _) hb
    have x2Z : Hid (Z6 x2 x0.heap.size) := x1Z.out.below hb
    clear hb
    refine ⟨_, rfl, HSQ.out _ x2B.out, ?_⟩
    have hSx2 := HSQ.out _ x2B.out
    (try simp only [Act.put]); (repeat first | simp only [List.setIfInBounds_toArray] | simp only [List.set_cons_zero] | simp only [List.set_cons_succ])
    refine ord_take (i := 4) (d := some 32) (v := ?v4x13) rfl rfl (by kernel_rfl) (by kernel_rfl) (by kernel_rfl) (fun _ _ _ h => h) (by rfl) ?hy4x13 (by assumption) ?rest4x13
    case hy4x13 => (intro w' hSw; (try dsimp only at hSw); go_simp; try with_reducible rfl)
    case rest4x13 =>
    (try simp only [Act.put]); (repeat first | simp only [List.setIfInBounds_toArray] | simp only [List.set_cons_zero] | simp only [List.set_cons_succ])
    rw [HMX.out]
    refine ord_only (i := 5) rfl (by kernel_rfl) (by rfl) ?_
    refine ord_call (d := some 33) (f := 9) (args := #[pv ⟨p.id, p.born, p.a, p.b, p.ser, cl⟩ qa qn qc, .int .i64 x]) rfl (by go_simp; try with_reducible rfl) (pZCut_own ⟨p.id, p.born, p.a, p.b, p.ser, cl⟩ qa qn qc x x2 ql.out.1 (by have := ql.out.2; unfold maxLen; omega) Pq.out.k Pq.out.z (Pq.out.r.below x2B.out)) ?_
    rw [HV.out.2]
    rintro e x3 ⟨sa, sn, sc, rfl, hlen, -, -, -, ho, hb⟩
    obtain rfl : N = sn := HL.out.1.symm.trans hlen
    have x3B : Hid (Below w2.heap.size w2 x3) := below_on x2B.out (Nat.le_refl _) hb
    have x3O : Hid (OwnS x3 x2.heap.size (.slice sa N sc) p.days) := ho
    have x3Z : Hid (Z6 x3 x0.heap.size) := x2Z.out.below hb
    have x3G : x0.heap.size < x2.heap.size := x2Z.out.lt
    clear hb ho hlen
    refine ⟨_, rfl, HSQ.out _ x3B.out, ?_⟩
    have hSx3 := HSQ.out _ x3B.out
    (try simp only [Act.put]); (repeat first | simp only [List.setIfInBounds_toArray] | simp only [List.set_cons_zero] | simp only [List.set_cons_succ])
    refine ord_take (i := 6) (d := some 27) (v := ?v6x14) rfl rfl (by kernel_rfl) (by kernel_rfl) (by kernel_rfl) (fun _ _ _ h => h) (by rfl) ?hy6x14 (by assumption) ?rest6x14
    case hy6x14 => (intro w' hSw; (try dsimp only at hSw); go_simp; try with_reducible rfl)
    case rest6x14 =>
    (try simp only [Act.put]); (repeat first | simp only [List.setIfInBounds_toArray] | simp only [List.set_cons_zero] | simp only [List.set_cons_succ])
    refine ord_take (i := 7) (d := some 34) (v := ?v7x15) rfl rfl (by kernel_rfl) (by kernel_rfl) (by kernel_rfl) (fun _ _ _ h => h) (by rfl) ?hy7x15 (by assumption) ?rest7x15
    case hy7x15 => (intro w' hSw; (try dsimp only at hSw); go_simp; try with_reducible rfl)
    case rest7x15 =>
    (try simp only [Act.put]); (repeat first | simp only [List.setIfInBounds_toArray] | simp only [List.set_cons_zero] | simp only [List.set_cons_succ])
    refine ord_take (i := 8) (d := some 35) (v := ?v8x16) rfl rfl (by kernel_rfl) (by kernel_rfl) (by kernel_rfl) (fun _ _ _ h => h) (by rfl) ?hy8x16 (by assumption) ?rest8x16
    case hy8x16 => (intro w' hSw; (try dsimp only at hSw); go_simp; try with_reducible rfl)
    case rest8x16 =>
    (try simp only [Act.put]); (repeat first | simp only [List.setIfInBounds_toArray] | simp only [List.set_cons_zero] | simp only [List.set_cons_succ])
    refine ord_take (i := 9) (d := some 36) (v := ?v9x17) rfl rfl (by kernel_rfl) (by kernel_rfl) (by kernel_rfl) (fun _ _ _ h => h) (by rfl) ?hy9x17 (by assumption) ?rest9x17
    case hy9x17 => (intro w' hSw; (try dsimp only at hSw); go_simp; try with_reducible rfl)
    case rest9x17 =>
    (try simp only [Act.put]); (repeat first | simp only [List.setIfInBounds_toArray] | simp only [List.set_cons_zero] | simp only [List.set_cons_succ])
    have s5 := six_below x3B.out (show w2.heap.size ≤ x0.heap.size by omega) (.int .i64 p.id) (.int .i64 p.born) (.int .i64 p.a) (.int .i64 p.b) (.int .i64 p.ser) (.slice sa N sc)
    have s6 : Has6 (six x3 x0.heap.size (.int .i64 p.id) (.int .i64 p.born) (.int .i64 p.a) (.int .i64 p.b) (.int .i64 p.ser) (.slice sa N sc)) x0.heap.size p sa N sc := x3Z.out.wr p sa N sc
    have s7 : Row2 (six x3 x0.heap.size (.int .i64 p.id) (.int .i64 p.born) (.int .i64 p.a) (.int .i64 p.b) (.int .i64 p.ser) (.slice sa N sc)) sa p.days := (six_own x3O.out (by omega) (.int .i64 p.id) (.int .i64 p.born) (.int .i64 p.a) (.int .i64 p.b) (.int .i64 p.ser) (.slice sa N sc)).row'
    have hSs := HSQ.out _ s5
    obtain ⟨-, z0, z1, z2, z3, z4, z5, gz⟩ := x3Z.out
    have g0 := gz 0
    have g1 := gz 1
    have g2 := gz 2
    have g3 := gz 3
    have g4 := gz 4
    have g5 := gz 5
    clear gz
    refine ord_only (i := 11) rfl (by kernel_rfl) (by rfl) ?_
    refine ord_skip (d := none) (w' := six x3 x0.heap.size (.int .i64 p.id) (.int .i64 p.born) (.int .i64 p.a) (.int .i64 p.b) (.int .i64 p.ser) (.slice sa N sc)) rfl (by go_simp; try with_reducible rfl) ?_
    refine ⟨hSs, ?_⟩
    (try simp only [Act.put]); (repeat first | simp only [List.setIfInBounds_toArray] | simp only [List.set_cons_zero] | simp only [List.set_cons_succ])
    refine ord_only (i := 12) rfl (by kernel_rfl) (by rfl) ?_
    refine ord_value (d := some 11) (v := .int .i64 m) (w' := six x3 x0.heap.size (.int .i64 p.id) (.int .i64 p.born) (.int .i64 p.a) (.int .i64 p.b) (.int .i64 p.ser) (.slice sa N sc)) rfl (by go_simp; try with_reducible rfl) ?_
    refine ⟨hSs, ?_⟩
    (try simp only [Act.put]); (repeat first | simp only [List.setIfInBounds_toArray] | simp only [List.set_cons_zero] | simp only [List.set_cons_succ])
    refine ord_only (i := 13) rfl (by kernel_rfl) (by rfl) ?_
    refine ord_value (d := some 12) (v := .int .i64 0) (w' := six x3 x0.heap.size (.int .i64 p.id) (.int .i64 p.born) (.int .i64 p.a) (.int .i64 p.b) (.int .i64 p.ser) (.slice sa N sc)) rfl (by go_simp; try with_reducible rfl) ?_
    refine ⟨hSs, ?_⟩
    (try simp only [Act.put]); (repeat first | simp only [List.setIfInBounds_toArray] | simp only [List.set_cons_zero] | simp only [List.set_cons_succ])
    refine wpAnyH_done (by kernel_rfl) ?_ _
    refine NoPanic.normal ?_
    exact REST x0.heap.size _ sa sc s5 s6 s7
theorem cutBack_any (p : Pz.Pq) (a : Option Addr) (N c : Nat) (n tu tt : Int) (w : World) (hN : p.days.length = N) (hl : N ≤ maxLen) (hc : N ≤ c) (hn : a = none → c = 0 ∧ p.days = []) (hw : Laid w) (hr : Row2 w a p.days) :
    Calls Tryd.prog 7 #[pv p a N c, .int .i64 n, .agg #[.int .i64 tu, .int .i64 tt]] w fun e w' => e = .returned (.bool true) ∧ Below w.heap.size w w' := by
  rcases Pz.renew_bad p n tu tt with ⟨d, d0, hv⟩ | ⟨x, y, hv⟩
  · exact cutBack_bad p a N c n tu tt w hN hl hc hn hw hr d d0 hv
  · exact cutBack_good p a N c n tu tt w hN hl hc hn hw hr x y hv
end Go.Proofs.YtandlmnbnjkklaaDoor
