/- The document's words on passes, further: one renewed. -/
import Derived.Test.YtandlmnbnjkklaaDoorPzCut
namespace Go.Proofs.YtandlmnbnjkklaaDoor
open Go.RowKit Go.BigFrame

/-- a pass's box, a term's and an answer's, side by side -/
structure Thr (w W : World) (p : Pz.Pq) (a : Option Addr) (N c : Nat) (u t : Int) : Prop where
  b : Below w.heap.size w W
  h : Has6 W w.heap.size p a N c
  t0 : W.cell? ⟨w.heap.size + 1, 0, none⟩ = some (.int .i64 u)
  t1 : W.cell? ⟨w.heap.size + 1, 1, none⟩ = some (.int .i64 t)
  z : Z6 W (w.heap.size + 2)
theorem Thr.new (w : World) (p : Pz.Pq) (a : Option Addr) (N c : Nat) (u t : Int) : Thr w (((w.alloc (.cells #[.int .i64 p.id, .int .i64 p.born, .int .i64 p.a, .int .i64 p.b, .int .i64 p.ser, .slice a N c] 24)).alloc (.cells #[.int .i64 u, .int .i64 t] 26)).alloc (.cells #[.int .i64 0, .int .i64 0, .int .i64 0, .int .i64 0, .int .i64 0, .slice none 0 0] 24)) p a N c u t := by
  have hz := Z6.new ((w.alloc (.cells #[.int .i64 p.id, .int .i64 p.born, .int .i64 p.a, .int .i64 p.b, .int .i64 p.ser, .slice a N c] 24)).alloc (.cells #[.int .i64 u, .int .i64 t] 26)) 24
  rw [World.size_alloc, World.size_alloc] at hz
  have hs : w.heap.size + 1 = (w.alloc (.cells #[.int .i64 p.id, .int .i64 p.born, .int .i64 p.a, .int .i64 p.b, .int .i64 p.ser, .slice a N c] 24)).heap.size := by simp
  have h2 := has2_new (w.alloc (.cells #[.int .i64 p.id, .int .i64 p.born, .int .i64 p.a, .int .i64 p.b, .int .i64 p.ser, .slice a N c] 24)) u t 26
  rw [← hs] at h2
  obtain ⟨k, _⟩ := bcell (below_box ((w.alloc (.cells #[.int .i64 p.id, .int .i64 p.born, .int .i64 p.a, .int .i64 p.b, .int .i64 p.ser, .slice a N c] 24)).alloc (.cells #[.int .i64 u, .int .i64 t] 26)) (.cells #[.int .i64 0, .int .i64 0, .int .i64 0, .int .i64 0, .int .i64 0, .slice none 0 0] 24))
  have hl : w.heap.size + 1 < ((w.alloc (.cells #[.int .i64 p.id, .int .i64 p.born, .int .i64 p.a, .int .i64 p.b, .int .i64 p.ser, .slice a N c] 24)).alloc (.cells #[.int .i64 u, .int .i64 t] 26)).heap.size := by rw [World.size_alloc, World.size_alloc]; omega
  exact ⟨((below_box w _).alloc (by simp) _).alloc (by rw [World.size_alloc, World.size_alloc]; omega) _, (Has6.new w p a N c _).below ((below_box _ _).alloc (by simp) _), (k _ _ hl).trans h2.1, (k _ _ hl).trans h2.2, hz⟩
theorem Thr.below {w W W' : World} {p : Pz.Pq} {a : Option Addr} {N c : Nat} {u t : Int} (h : Thr w W p a N c u t) (hb : Below W.heap.size W W') : Thr w W' p a N c u t := by
  obtain ⟨k, _⟩ := bcell hb
  have hl : w.heap.size + 1 < W.heap.size := Nat.lt_trans (Nat.lt_succ_self _) h.z.lt
  exact ⟨below_on h.b (Nat.le_refl _) hb, h.h.below hb, (k _ _ hl).trans h.t0, (k _ _ hl).trans h.t1, h.z.below hb⟩
theorem zboth (la lb : List Spn.Sp) (a b : Option Addr) (na ca nb cb : Nat) (x : Int) (w : World) (ea : la.length = na) (eb : lb.length = nb) (hla : na ≤ maxLen) (hlb : nb ≤ maxLen) (hna : a = none → ca = 0 ∧ la = []) (hnb : b = none → cb = 0 ∧ lb = [])
    (hx : Spn.code 0 la lb = x) (ra : Row2 w a la) (rb : Row2 w b lb) :
    Calls Tryd.prog 45 #[.slice a na ca, .slice b nb cb, .int .i64 0] w fun e w' => ∃ va vn vc, e = .returned (.tuple #[.slice va vn vc, .int .i64 x]) ∧ (Spn.ans 0 la lb).length = vn ∧ vn ≤ vc ∧ vn ≤ 64 ∧ (va = none → vc = 0 ∧ Spn.ans 0 la lb = []) ∧ Row2 w' va (Spn.ans 0 la lb) ∧ (∀ b off, va = some ⟨b, off, none⟩ → w.heap.size ≤ b) ∧ Below w.heap.size w w' := by
  subst ea eb hx
  refine (refBoth_all la lb a b ca cb 0 w hla hlb hna hnb (.inl rfl) ra rb).mono ?_
  rintro e w' ⟨v, rfl, own, hb⟩
  obtain ⟨va, vc, rfl, h1, h2, h3, h4⟩ := own.parts
  exact ⟨va, _, vc, rfl, rfl, h1, Spn.ans_len 0 la lb, h2, h3, h4, hb⟩
set_option maxRecDepth 100000 in
set_option maxHeartbeats 4000000 in
theorem passRenew_bad (p : Pz.Pq) (a : Option Addr) (N c : Nat) (n u t d : Int) (w : World) (hN : p.days.length = N) (hl : N ≤ maxLen) (hr : Row2 w a p.days) (h0 : Pz.chk p = d) (hd : d ≠ 0) :
    Calls Tryd.prog 21 #[pv p a N c, .int .i64 n, .agg #[.int .i64 u, .int .i64 t]] w (rzPost w (Pz.renew p n u t)) := by
  have T0 : Hid (Thr w _ p a N c u t) := Thr.new w p a N c u t
  have R : Hid (Row2 w a p.days) := hr
  have HN : Hid (p.days.length = N) := hN
  have HE : Hid (Pz.renew p n u t = (Pz.zero, 0, d)) := by
    show _ = _
    unfold Pz.renew
    rw [h0, if_neg hd]
  have HD : Hid (Pz.chk p = d) := h0
  have d1 : (d == 0) = false := by simpa using hd
  have d2 : (d != 0) = true := by simpa using hd
  clear hr hN hd h0
  obtain ⟨id, born, pa, pb, ser, l⟩ := p
  simp only at R HN HD
  go_enter Tryd.func21, Tryd.ntmps21
  go_wp2_with fail
  have hck := passCheck_any ⟨id, born, pa, pb, ser, l⟩ a c N _ HN.out hl (R.out.below T0.out.b)
  rw [HD.out] at hck
  refine hck.mono ?_
  rintro e w1 ⟨rfl, hb⟩
  have T1 : Hid (Thr w w1 ⟨id, born, pa, pb, ser, l⟩ a N c u t) := T0.out.below hb
  clear hb hck T0
  obtain ⟨-, z0, z1, z2, z3, z4, z5, g⟩ := T1.out.z
  have g0 := g 0
  have g1 := g 1
  have g2 := g 2
  have g3 := g 3
  have g4 := g 4
  have g5 := g 5
  clear g
  go_wp2
  exact bodyPost_ret (v := .tuple #[.agg #[.int .i64 0, .int .i64 0, .int .i64 0, .int .i64 0, .int .i64 0, .slice none 0 0], .int .i64 0, .int .i64 d]) (by simp [results, Tryd.results21, go_sem, *]) rfl (rzPost.bad HE.out (six_below T1.out.b (by omega) _ _ _ _ _ _))
set_option maxRecDepth 100000 in
set_option maxHeartbeats 4000000 in
theorem passRenew_no (p : Pz.Pq) (a : Option Addr) (N c : Nat) (n u t : Int) (w : World) (hN : p.days.length = N) (hl : N ≤ maxLen) (hr : Row2 w a p.days) (h0 : Pz.chk p = 0) (hd : Pz.noD n) :
    Calls Tryd.prog 21 #[pv p a N c, .int .i64 n, .agg #[.int .i64 u, .int .i64 t]] w (rzPost w (Pz.renew p n u t)) := by
  have T0 : Hid (Thr w _ p a N c u t) := Thr.new w p a N c u t
  have R : Hid (Row2 w a p.days) := hr
  have HN : Hid (p.days.length = N) := hN
  have HE : Hid (Pz.renew p n u t = (Pz.zero, 0, 3)) := by
    show _ = _
    unfold Pz.renew
    rw [h0, if_pos rfl, if_pos hd]
  have HD : Hid (Pz.chk p = 0 ∧ decide (n < 1 ∨ 3652059 < n) = true) := ⟨h0, decide_eq_true hd⟩
  clear hr hN hd h0
  obtain ⟨id, born, pa, pb, ser, l⟩ := p
  simp only at R HN HD
  go_enter Tryd.func21, Tryd.ntmps21
  go_wp2_with fail
  have hck := passCheck_any ⟨id, born, pa, pb, ser, l⟩ a c N _ HN.out hl (R.out.below T0.out.b)
  rw [HD.out.1] at hck
  refine hck.mono ?_
  rintro e w1 ⟨rfl, hb⟩
  have T1 : Hid (Thr w w1 ⟨id, born, pa, pb, ser, l⟩ a N c u t) := T0.out.below hb
  clear hb hck T0
  obtain ⟨-, z0, z1, z2, z3, z4, z5, g⟩ := T1.out.z
  have g0 := g 0
  have g1 := g 1
  have g2 := g 2
  have g3 := g 3
  have g4 := g 4
  have g5 := g 5
  clear g
  go_wp2_with (go_at_call 33; refine (znoDay _ _ _ HD.out.2).mono ?_; rintro e w1' ⟨rfl, rfl⟩)
  exact bodyPost_ret (v := .tuple #[.agg #[.int .i64 0, .int .i64 0, .int .i64 0, .int .i64 0, .int .i64 0, .slice none 0 0], .int .i64 0, .int .i64 3]) (by simp [results, Tryd.results21, go_sem, *]) rfl (rzPost.bad HE.out (six_below T1.out.b (by omega) _ _ _ _ _ _))
set_option maxRecDepth 100000 in
set_option maxHeartbeats 4000000 in
theorem passRenew_ok (p : Pz.Pq) (a : Option Addr) (N c : Nat) (n u t : Int) (w : World) (hN : p.days.length = N) (hn : a = none → c = 0 ∧ p.days = []) (hr : Row2 w a p.days) (h0 : Pz.chk p = 0) (hd : ¬ Pz.noD n) :
    Calls Tryd.prog 21 #[pv p a N c, .int .i64 n, .agg #[.int .i64 u, .int .i64 t]] w (rzPost w (Pz.renew p n u t)) := by
  have ok := (Pz.chk_ok _).1 h0
  have h64 := ((Spn.chk_zero _).1 ok.sp).1
  have T0 : Hid (Thr w _ p a N c u t) := Thr.new w p a N c u t
  have R : Hid (Row2 w a p.days) := hr
  have HN : Hid (p.days.length = N ∧ N ≤ 64 ∧ (a = none → c = 0 ∧ p.days = [])) := ⟨hN, by omega, hn⟩
  have h64' : N ≤ 64 := by omega
  have HD : Hid (Pz.chk p = 0 ∧ decide (n < 1 ∨ 3652059 < n) = false) := ⟨h0, decide_eq_false hd⟩
  obtain ⟨F, hF⟩ : ∃ F, Pz.from' p n = F := ⟨_, rfl⟩
  obtain ⟨q1, hq1⟩ : ∃ q, (Trm.nthF F u t 1).1 = q := ⟨_, rfl⟩
  obtain ⟨q2, hq2⟩ : ∃ q, (Trm.nthF F u t 1).2 = q := ⟨_, rfl⟩
  have HQ : Hid (Pz.from' p n = F ∧ (Trm.nthF F u t 1).1 = q1 ∧ (Trm.nthF F u t 1).2 = q2) := ⟨hF, hq1, hq2⟩
  have HT : Hid (∀ W, Calls Tryd.prog 32 #[.int .i64 F, .agg #[.int .i64 u, .int .i64 t], .int .i64 1] W fun e w' => e = .returned (.tuple #[.int .i64 q1, .int .i64 q2]) ∧ Below W.heap.size W w') := fun W => by have := refNthF F u t 1 W; rw [hq1, hq2] at this; exact this
  have HR : Hid (Pz.renew p n u t = if q2 = 0 then (if Spn.code 0 p.days [(F, q1)] = 0 then (if Pz.chk (Pz.renewed p F q1) = 0 then (Pz.renewed p F q1, q1 - F, 0) else (Pz.zero, 0, Pz.chk (Pz.renewed p F q1))) else (Pz.zero, 0, Spn.code 0 p.days [(F, q1)])) else (Pz.zero, 0, q2)) := by
    show _ = _
    unfold Pz.renew
    rw [if_pos h0, if_neg hd, hF, hq1, hq2]
  obtain ⟨E, hE⟩ : ∃ E, Pz.pend p.days = E := ⟨_, rfl⟩
  have HPE : Hid (Pz.pend p.days = E) := hE
  have hFE : (if E < n then n else E) = F := by rw [← hE, ← hF]; rfl
  clear hr hN hn hd h0 ok h64 hF hq1 hq2 hE
  obtain ⟨id, born, pa, pb, ser, l⟩ := p
  simp only at R HN HD HQ HR HPE
  go_enter Tryd.func21, Tryd.ntmps21
  go_wp2_with fail
  have hck := passCheck_any ⟨id, born, pa, pb, ser, l⟩ a c N _ HN.out.1 (by unfold maxLen; omega) (R.out.below T0.out.b)
  rw [HD.out.1] at hck
  refine hck.mono ?_
  rintro e w1 ⟨rfl, hb⟩
  have T1 : Hid (Thr w w1 ⟨id, born, pa, pb, ser, l⟩ a N c u t) := T0.out.below hb
  clear hb hck T0
  obtain ⟨-, e0, e1, e2, e3, e4, e5⟩ := T1.out.h
  have s0 := T1.out.t0
  have s1 := T1.out.t1
  simp only at e0 e1 e2 e3 e4 e5
  by_cases hEn : E < n
  · obtain rfl : n = F := by rw [← hFE, if_pos hEn]
    clear hFE
    go_wp2_with (first
      | (go_at_call 33; refine (znoDay _ _ _ HD.out.2).mono ?_; rintro e w1' ⟨rfl, rfl⟩)
      | (go_at_call 23; have hpe := passEnd_any ⟨id, born, pa, pb, ser, l⟩ a N c w1 HN.out.1 HN.out.2.1 (R.out.below T1.out.b); rw [HPE.out] at hpe; refine hpe.mono ?_; rintro e w2 ⟨rfl, hb⟩; have T2 : Hid (Thr w w2 ⟨id, born, pa, pb, ser, l⟩ a N c u t) := T1.out.below hb; have s0' := T2.out.t0; have s1' := T2.out.t1; clear hb hpe)
      | fail)
    refine (HT.out _).mono ?_
    rintro e w3 ⟨rfl, hb⟩
    have T3 : Hid (Thr w w3 ⟨id, born, pa, pb, ser, l⟩ a N c u t) := T2.out.below hb
    clear hb e0 e1 e2 e3 e4 e5 s0 s1 s0' s1'
    obtain ⟨-, e0, e1, e2, e3, e4, e5⟩ := T3.out.h
    (try simp only at e0 e1 e2 e3 e4 e5)
    by_cases h2 : q2 = 0
    · subst h2
      obtain ⟨x, hx⟩ : ∃ x, Spn.code 0 l [(n, q1)] = x := ⟨_, rfl⟩
      have HX : Hid (Spn.code 0 l [(n, q1)] = x) := hx
      clear hx
      go_wp2_with fail
      refine (zboth l [(n, q1)] a (some ⟨w3.heap.size, 0, none⟩) N c 1 1 x _ HN.out.1 rfl (by unfold maxLen; omega) (by unfold maxLen; omega) HN.out.2.2 (fun h => by cases h) HX.out ((R.out.below T3.out.b).below (below_box _ _)) (lit_row w3 [(n, q1)] #[.int .i64 n, .int .i64 q1] rfl (by simp [maxLen]))).mono ?_
      rintro e w4 ⟨va, vn, vc, rfl, hvn, hvc, hv64, hvz, hvr, hvb, hb⟩
      have T4 : Hid (Thr w w4 ⟨id, born, pa, pb, ser, l⟩ a N c u t) := T3.out.below (below_on (below_box w3 _) (Nat.le_refl _) hb)
      have HB : Hid (∀ b off, va = some ⟨b, off, none⟩ → b ≠ w.heap.size + 2) := fun b off e => by have h9 := hvb b off e; have h8 := T3.out.z.lt; rw [World.size_alloc] at h9; omega
      have HV : Hid ((Spn.ans 0 l [(n, q1)]).length = vn ∧ vn ≤ vc ∧ vn ≤ 64 ∧ (va = none → vc = 0 ∧ Spn.ans 0 l [(n, q1)] = []) ∧ Row2 w4 va (Spn.ans 0 l [(n, q1)])) := ⟨hvn, hvc, hv64, hvz, hvr⟩
      clear hb hvn hvc hv64 hvz hvr hvb e0 e1 e2 e3 e4 e5
      obtain ⟨-, e0, e1, e2, e3, e4, e5⟩ := T4.out.h
      (try simp only at e0 e1 e2 e3 e4 e5)
      by_cases x0 : x = 0
      · subst x0
        obtain ⟨d, hd⟩ : ∃ d, Pz.chk ⟨id, born, pa, pb, ser, Spn.ans 0 l [(n, q1)]⟩ = d := ⟨_, rfl⟩
        have HK : Hid (Pz.chk ⟨id, born, pa, pb, ser, Spn.ans 0 l [(n, q1)]⟩ = d) := hd
        have hf := ((Spn.chk_zero _).1 (Spn.code_zero 0 l _ HX.out).2.1).2.1 (n, q1) (by simp)
        have hf1 := Spn.far_bd _ hf.1
        have hf2 := Spn.far_bd _ hf.2
        simp only at hf1 hf2
        have hw : IntKind.i64.wrap (q1 - n) = q1 - n := by rw [IntKind.wrap_i64]; omega
        clear hd hf hf1 hf2
        go_wp2_with fail
        have hck := passCheck_any ⟨id, born, pa, pb, ser, Spn.ans 0 l [(n, q1)]⟩ va vc vn (w4.alloc (.cells #[.int .i64 id, .int .i64 born, .int .i64 pa, .int .i64 pb, .int .i64 ser, .slice va vn vc] 24)) HV.out.1 (by have := HV.out.2.2.1; unfold maxLen; omega) (HV.out.2.2.2.2.below (below_box _ _))
        rw [HK.out] at hck
        refine hck.mono ?_
        rintro e w5 ⟨rfl, hb⟩
        have T5 : Hid (Thr w w5 ⟨id, born, pa, pb, ser, l⟩ a N c u t) := T4.out.below (below_on (below_box w4 _) (Nat.le_refl _) hb)
        have H5 : Hid (Has6 w5 w4.heap.size ⟨id, born, pa, pb, ser, Spn.ans 0 l [(n, q1)]⟩ va vn vc) := (Has6.new w4 ⟨id, born, pa, pb, ser, Spn.ans 0 l [(n, q1)]⟩ va vn vc 24).below hb
        have R5 : Hid (Row2 w5 va (Spn.ans 0 l [(n, q1)])) := (HV.out.2.2.2.2.below (below_box w4 _)).below hb
        clear hb hck e0 e1 e2 e3 e4 e5
        obtain ⟨-, z0, z1, z2, z3, z4, z5, g⟩ := T5.out.z
        have g0 := g 0
        have g1 := g 1
        have g2 := g 2
        have g3 := g 3
        have g4 := g 4
        have g5 := g 5
        clear g
        by_cases d0 : d = 0
        · subst d0
          obtain ⟨-, e0, e1, e2, e3, e4, e5⟩ := H5.out
          (try simp only at e0 e1 e2 e3 e4 e5)
          have HE : Hid (Pz.renew ⟨id, born, pa, pb, ser, l⟩ n u t = (⟨id, born, pa, pb, ser, Spn.ans 0 l [(n, q1)]⟩, q1 - n, 0)) := by
            show _ = _
            rw [HR.out, if_pos trivial, if_pos HX.out]
            exact if_pos HK.out
          go_wp2
          refine bodyPost_ret (v := .tuple #[pv ⟨id, born, pa, pb, ser, Spn.ans 0 l [(n, q1)]⟩ va vn vc, .int .i64 (q1 - n), .int .i64 0]) (by simp [results, Tryd.results21, go_sem, *]) rfl ?_
          rw [HE.out]
          exact ⟨va, vn, vc, rfl, HV.out.1, HV.out.2.1, HV.out.2.2.1, HV.out.2.2.2.1, six_row R5.out HB.out _ _ _ _ _ _, six_below T5.out.b (by omega) _ _ _ _ _ _⟩
        · have HE : Hid (Pz.renew ⟨id, born, pa, pb, ser, l⟩ n u t = (Pz.zero, 0, d)) := by
            show _ = _
            rw [HR.out, if_pos trivial, if_pos HX.out]
            exact (if_neg (by show ¬ Pz.chk ⟨id, born, pa, pb, ser, Spn.ans 0 l [(n, q1)]⟩ = 0; rw [HK.out]; exact d0)).trans (by show (Pz.zero, (0 : Int), Pz.chk ⟨id, born, pa, pb, ser, Spn.ans 0 l [(n, q1)]⟩) = _; rw [HK.out])
          have d1 : (d != 0) = true := by simpa using d0
          clear d0
          go_wp2
          exact bodyPost_ret (v := .tuple #[.agg #[.int .i64 0, .int .i64 0, .int .i64 0, .int .i64 0, .int .i64 0, .slice none 0 0], .int .i64 0, .int .i64 d]) (by simp [results, Tryd.results21, go_sem, *]) rfl (rzPost.bad HE.out (six_below T5.out.b (by omega) _ _ _ _ _ _))
      · have HE : Hid (Pz.renew ⟨id, born, pa, pb, ser, l⟩ n u t = (Pz.zero, 0, x)) := by
          show _ = _
          rw [HR.out, if_pos trivial, if_neg (by rw [HX.out]; exact x0), HX.out]
        have x1 : (x != 0) = true := by simpa using x0
        clear x0
        obtain ⟨-, z0, z1, z2, z3, z4, z5, g⟩ := T4.out.z
        have g0 := g 0
        have g1 := g 1
        have g2 := g 2
        have g3 := g 3
        have g4 := g 4
        have g5 := g 5
        clear g
        go_wp2
        exact bodyPost_ret (v := .tuple #[.agg #[.int .i64 0, .int .i64 0, .int .i64 0, .int .i64 0, .int .i64 0, .slice none 0 0], .int .i64 0, .int .i64 x]) (by simp [results, Tryd.results21, go_sem, *]) rfl (rzPost.bad HE.out (six_below T4.out.b (by omega) _ _ _ _ _ _))
    · have HE : Hid (Pz.renew ⟨id, born, pa, pb, ser, l⟩ n u t = (Pz.zero, 0, q2)) := by
        show _ = _
        rw [HR.out, if_neg h2]
      have h21 : (q2 != 0) = true := by simpa using h2
      clear h2
      obtain ⟨-, z0, z1, z2, z3, z4, z5, g⟩ := T3.out.z
      have g0 := g 0
      have g1 := g 1
      have g2 := g 2
      have g3 := g 3
      have g4 := g 4
      have g5 := g 5
      clear g
      go_wp2
      exact bodyPost_ret (v := .tuple #[.agg #[.int .i64 0, .int .i64 0, .int .i64 0, .int .i64 0, .int .i64 0, .slice none 0 0], .int .i64 0, .int .i64 q2]) (by simp [results, Tryd.results21, go_sem, *]) rfl (rzPost.bad HE.out (six_below T3.out.b (by omega) _ _ _ _ _ _))
  · obtain rfl : E = F := by rw [← hFE, if_neg hEn]
    have hEn' : decide (E < n) = false := decide_eq_false hEn
    clear hFE
    go_wp2_with (first
      | (go_at_call 33; refine (znoDay _ _ _ HD.out.2).mono ?_; rintro e w1' ⟨rfl, rfl⟩)
      | (go_at_call 23; have hpe := passEnd_any ⟨id, born, pa, pb, ser, l⟩ a N c w1 HN.out.1 HN.out.2.1 (R.out.below T1.out.b); rw [HPE.out] at hpe; refine hpe.mono ?_; rintro e w2 ⟨rfl, hb⟩; have T2 : Hid (Thr w w2 ⟨id, born, pa, pb, ser, l⟩ a N c u t) := T1.out.below hb; have s0' := T2.out.t0; have s1' := T2.out.t1; clear hb hpe)
      | fail)
    refine (HT.out _).mono ?_
    rintro e w3 ⟨rfl, hb⟩
    have T3 : Hid (Thr w w3 ⟨id, born, pa, pb, ser, l⟩ a N c u t) := T2.out.below hb
    clear hb e0 e1 e2 e3 e4 e5 s0 s1 s0' s1'
    obtain ⟨-, e0, e1, e2, e3, e4, e5⟩ := T3.out.h
    (try simp only at e0 e1 e2 e3 e4 e5)
    by_cases h2 : q2 = 0
    · subst h2
      obtain ⟨x, hx⟩ : ∃ x, Spn.code 0 l [(E, q1)] = x := ⟨_, rfl⟩
      have HX : Hid (Spn.code 0 l [(E, q1)] = x) := hx
      clear hx
      go_wp2_with fail
      refine (zboth l [(E, q1)] a (some ⟨w3.heap.size, 0, none⟩) N c 1 1 x _ HN.out.1 rfl (by unfold maxLen; omega) (by unfold maxLen; omega) HN.out.2.2 (fun h => by cases h) HX.out ((R.out.below T3.out.b).below (below_box _ _)) (lit_row w3 [(E, q1)] #[.int .i64 E, .int .i64 q1] rfl (by simp [maxLen]))).mono ?_
      rintro e w4 ⟨va, vn, vc, rfl, hvn, hvc, hv64, hvz, hvr, hvb, hb⟩
      have T4 : Hid (Thr w w4 ⟨id, born, pa, pb, ser, l⟩ a N c u t) := T3.out.below (below_on (below_box w3 _) (Nat.le_refl _) hb)
      have HB : Hid (∀ b off, va = some ⟨b, off, none⟩ → b ≠ w.heap.size + 2) := fun b off e => by have h9 := hvb b off e; have h8 := T3.out.z.lt; rw [World.size_alloc] at h9; omega
      have HV : Hid ((Spn.ans 0 l [(E, q1)]).length = vn ∧ vn ≤ vc ∧ vn ≤ 64 ∧ (va = none → vc = 0 ∧ Spn.ans 0 l [(E, q1)] = []) ∧ Row2 w4 va (Spn.ans 0 l [(E, q1)])) := ⟨hvn, hvc, hv64, hvz, hvr⟩
      clear hb hvn hvc hv64 hvz hvr hvb e0 e1 e2 e3 e4 e5
      obtain ⟨-, e0, e1, e2, e3, e4, e5⟩ := T4.out.h
      (try simp only at e0 e1 e2 e3 e4 e5)
      by_cases x0 : x = 0
      · subst x0
        obtain ⟨d, hd⟩ : ∃ d, Pz.chk ⟨id, born, pa, pb, ser, Spn.ans 0 l [(E, q1)]⟩ = d := ⟨_, rfl⟩
        have HK : Hid (Pz.chk ⟨id, born, pa, pb, ser, Spn.ans 0 l [(E, q1)]⟩ = d) := hd
        have hf := ((Spn.chk_zero _).1 (Spn.code_zero 0 l _ HX.out).2.1).2.1 (E, q1) (by simp)
        have hf1 := Spn.far_bd _ hf.1
        have hf2 := Spn.far_bd _ hf.2
        simp only at hf1 hf2
        have hw : IntKind.i64.wrap (q1 - E) = q1 - E := by rw [IntKind.wrap_i64]; omega
        clear hd hf hf1 hf2
        go_wp2_with fail
        have hck := passCheck_any ⟨id, born, pa, pb, ser, Spn.ans 0 l [(E, q1)]⟩ va vc vn (w4.alloc (.cells #[.int .i64 id, .int .i64 born, .int .i64 pa, .int .i64 pb, .int .i64 ser, .slice va vn vc] 24)) HV.out.1 (by have := HV.out.2.2.1; unfold maxLen; omega) (HV.out.2.2.2.2.below (below_box _ _))
        rw [HK.out] at hck
        refine hck.mono ?_
        rintro e w5 ⟨rfl, hb⟩
        have T5 : Hid (Thr w w5 ⟨id, born, pa, pb, ser, l⟩ a N c u t) := T4.out.below (below_on (below_box w4 _) (Nat.le_refl _) hb)
        have H5 : Hid (Has6 w5 w4.heap.size ⟨id, born, pa, pb, ser, Spn.ans 0 l [(E, q1)]⟩ va vn vc) := (Has6.new w4 ⟨id, born, pa, pb, ser, Spn.ans 0 l [(E, q1)]⟩ va vn vc 24).below hb
        have R5 : Hid (Row2 w5 va (Spn.ans 0 l [(E, q1)])) := (HV.out.2.2.2.2.below (below_box w4 _)).below hb
        clear hb hck e0 e1 e2 e3 e4 e5
        obtain ⟨-, z0, z1, z2, z3, z4, z5, g⟩ := T5.out.z
        have g0 := g 0
        have g1 := g 1
        have g2 := g 2
        have g3 := g 3
        have g4 := g 4
        have g5 := g 5
        clear g
        by_cases d0 : d = 0
        · subst d0
          obtain ⟨-, e0, e1, e2, e3, e4, e5⟩ := H5.out
          (try simp only at e0 e1 e2 e3 e4 e5)
          have HE : Hid (Pz.renew ⟨id, born, pa, pb, ser, l⟩ n u t = (⟨id, born, pa, pb, ser, Spn.ans 0 l [(E, q1)]⟩, q1 - E, 0)) := by
            show _ = _
            rw [HR.out, if_pos trivial, if_pos HX.out]
            exact if_pos HK.out
          go_wp2
          refine bodyPost_ret (v := .tuple #[pv ⟨id, born, pa, pb, ser, Spn.ans 0 l [(E, q1)]⟩ va vn vc, .int .i64 (q1 - E), .int .i64 0]) (by simp [results, Tryd.results21, go_sem, *]) rfl ?_
          rw [HE.out]
          exact ⟨va, vn, vc, rfl, HV.out.1, HV.out.2.1, HV.out.2.2.1, HV.out.2.2.2.1, six_row R5.out HB.out _ _ _ _ _ _, six_below T5.out.b (by omega) _ _ _ _ _ _⟩
        · have HE : Hid (Pz.renew ⟨id, born, pa, pb, ser, l⟩ n u t = (Pz.zero, 0, d)) := by
            show _ = _
            rw [HR.out, if_pos trivial, if_pos HX.out]
            exact (if_neg (by show ¬ Pz.chk ⟨id, born, pa, pb, ser, Spn.ans 0 l [(E, q1)]⟩ = 0; rw [HK.out]; exact d0)).trans (by show (Pz.zero, (0 : Int), Pz.chk ⟨id, born, pa, pb, ser, Spn.ans 0 l [(E, q1)]⟩) = _; rw [HK.out])
          have d1 : (d != 0) = true := by simpa using d0
          clear d0
          go_wp2
          exact bodyPost_ret (v := .tuple #[.agg #[.int .i64 0, .int .i64 0, .int .i64 0, .int .i64 0, .int .i64 0, .slice none 0 0], .int .i64 0, .int .i64 d]) (by simp [results, Tryd.results21, go_sem, *]) rfl (rzPost.bad HE.out (six_below T5.out.b (by omega) _ _ _ _ _ _))
      · have HE : Hid (Pz.renew ⟨id, born, pa, pb, ser, l⟩ n u t = (Pz.zero, 0, x)) := by
          show _ = _
          rw [HR.out, if_pos trivial, if_neg (by rw [HX.out]; exact x0), HX.out]
        have x1 : (x != 0) = true := by simpa using x0
        clear x0
        obtain ⟨-, z0, z1, z2, z3, z4, z5, g⟩ := T4.out.z
        have g0 := g 0
        have g1 := g 1
        have g2 := g 2
        have g3 := g 3
        have g4 := g 4
        have g5 := g 5
        clear g
        go_wp2
        exact bodyPost_ret (v := .tuple #[.agg #[.int .i64 0, .int .i64 0, .int .i64 0, .int .i64 0, .int .i64 0, .slice none 0 0], .int .i64 0, .int .i64 x]) (by simp [results, Tryd.results21, go_sem, *]) rfl (rzPost.bad HE.out (six_below T4.out.b (by omega) _ _ _ _ _ _))
    · have HE : Hid (Pz.renew ⟨id, born, pa, pb, ser, l⟩ n u t = (Pz.zero, 0, q2)) := by
        show _ = _
        rw [HR.out, if_neg h2]
      have h21 : (q2 != 0) = true := by simpa using h2
      clear h2
      obtain ⟨-, z0, z1, z2, z3, z4, z5, g⟩ := T3.out.z
      have g0 := g 0
      have g1 := g 1
      have g2 := g 2
      have g3 := g 3
      have g4 := g 4
      have g5 := g 5
      clear g
      go_wp2
      exact bodyPost_ret (v := .tuple #[.agg #[.int .i64 0, .int .i64 0, .int .i64 0, .int .i64 0, .int .i64 0, .slice none 0 0], .int .i64 0, .int .i64 q2]) (by simp [results, Tryd.results21, go_sem, *]) rfl (rzPost.bad HE.out (six_below T3.out.b (by omega) _ _ _ _ _ _))
theorem passRenew_any (p : Pz.Pq) (a : Option Addr) (N c : Nat) (n u t : Int) (w : World) (hN : p.days.length = N) (hl : N ≤ maxLen) (hn : a = none → c = 0 ∧ p.days = []) (hr : Row2 w a p.days) :
    Calls Tryd.prog 21 #[pv p a N c, .int .i64 n, .agg #[.int .i64 u, .int .i64 t]] w (rzPost w (Pz.renew p n u t)) := by
  by_cases h0 : Pz.chk p = 0
  · by_cases hd : Pz.noD n
    · exact passRenew_no p a N c n u t w hN hl hr h0 hd
    · exact passRenew_ok p a N c n u t w hN hn hr h0 hd
  · exact passRenew_bad p a N c n u t _ w hN hl hr rfl h0
end Go.Proofs.YtandlmnbnjkklaaDoor
