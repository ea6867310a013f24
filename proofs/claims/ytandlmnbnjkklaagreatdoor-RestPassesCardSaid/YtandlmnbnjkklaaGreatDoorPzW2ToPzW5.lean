/- The program's new pass; a pass and a day; the end of a pass's days. The program's new pass. Has a pass a day. -/
import Derived.Test.YtandlmnbnjkklaaGreatDoorPzW1
namespace Go.Proofs.YtandlmnbnjkklaaGreatDoor
open Go.RowKit Go.BigFrame

/-- a pass that is answered, its days made by the call -/
def nzOwn (w : World) (r : Pz.Pq × Int) (e : Ending) (w' : World) : Prop := ∃ a n c, e = .returned (.tuple #[pv r.1 a n c, .int .i64 r.2]) ∧ r.1.days.length = n ∧ n ≤ c ∧ n ≤ 64 ∧ (a = none → c = 0 ∧ r.1.days = []) ∧ OwnS w' w.heap.size (.slice a n c) r.1.days ∧ Below w.heap.size w w'
/-- .. with a number of days -/
def rzOwn (w : World) (r : Pz.Pq × Int × Int) (e : Ending) (w' : World) : Prop := ∃ a n c, e = .returned (.tuple #[pv r.1 a n c, .int .i64 r.2.1, .int .i64 r.2.2]) ∧ r.1.days.length = n ∧ n ≤ c ∧ n ≤ 64 ∧ (a = none → c = 0 ∧ r.1.days = []) ∧ OwnS w' w.heap.size (.slice a n c) r.1.days ∧ Below w.heap.size w w'
theorem OwnS.row' {w : World} {B n c : Nat} {a : Option Addr} {xs : List Spn.Sp} (h : OwnS w B (.slice a n c) xs) : Row2 w a xs := by
  obtain ⟨a', c', e, _, hr⟩ := h.row
  cases e
  exact hr
theorem nzOwn.weak {w w' : World} {r : Pz.Pq × Int} {e : Ending} (h : nzOwn w r e w') : nzPost w r e w' := by
  obtain ⟨a, n, c, h1, h2, h3, h4, h5, h6, h7⟩ := h
  exact ⟨a, n, c, h1, h2, h3, h4, h5, h6.row', h7⟩
theorem rzOwn.weak {w w' : World} {r : Pz.Pq × Int × Int} {e : Ending} (h : rzOwn w r e w') : rzPost w r e w' := by
  obtain ⟨a, n, c, h1, h2, h3, h4, h5, h6, h7⟩ := h
  exact ⟨a, n, c, h1, h2, h3, h4, h5, h6.row', h7⟩
theorem nzOwn.bad {w w' : World} {r : Pz.Pq × Int} {c : Int} (h : r = (Pz.zero, c)) (hb : Below w.heap.size w w') : nzOwn w r (.returned (.tuple #[.agg #[.int .i64 0, .int .i64 0, .int .i64 0, .int .i64 0, .int .i64 0, .slice none 0 0], .int .i64 c])) w' := by
  subst h
  exact ⟨none, 0, 0, rfl, rfl, Nat.le_refl _, by omega, fun _ => ⟨rfl, rfl⟩, OwnS.nil _ _, hb⟩
theorem rzOwn.bad {w w' : World} {r : Pz.Pq × Int × Int} {c : Int} (h : r = (Pz.zero, 0, c)) (hb : Below w.heap.size w w') : rzOwn w r (.returned (.tuple #[.agg #[.int .i64 0, .int .i64 0, .int .i64 0, .int .i64 0, .int .i64 0, .slice none 0 0], .int .i64 0, .int .i64 c])) w' := by
  subst h
  exact ⟨none, 0, 0, rfl, rfl, Nat.le_refl _, by omega, fun _ => ⟨rfl, rfl⟩, OwnS.nil _ _, hb⟩
set_option maxRecDepth 100000 in
set_option maxHeartbeats 1000000 in
theorem zqFirst (s u n q1 q2 : Int) (w : World) (hw : Laid w) (h1 : (Trm.nthF s u n 1).1 = q1) (h2 : (Trm.nthF s u n 1).2 = q2) :
    Calls Tryz.prog 19 #[.int .i64 s, .agg #[.int .i64 u, .int .i64 n]] w fun e w' => e = .returned (.tuple #[.agg #[.int .i64 (if q2 = 0 then s else 0), .int .i64 (if q2 = 0 then q1 else 0)], .int .i64 q2]) ∧ Below w.heap.size w w' := by
  have HN : Hid (∀ W, Laid W → Calls Tryz.prog 49 #[.int .i64 s, .agg #[.int .i64 u, .int .i64 n], .int .i64 1] W fun e w' => e = .returned (.tuple #[.int .i64 q1, .int .i64 q2]) ∧ Below W.heap.size W w') := fun W hW => by have := pNthF s u n 1 W hW; rw [h1, h2] at this; exact this
  have HL : Hid (Laid w) := hw
  clear hw h1 h2
  have HB : Hid (Below w.heap.size w ((w.alloc (.cells #[.int .i64 u, .int .i64 n] 26)).alloc (.cells #[.int .i64 0, .int .i64 0] 49))) := (below_box w _).alloc (by simp) _
  have HZ : Hid (((w.alloc (.cells #[.int .i64 u, .int .i64 n] 26)).alloc (.cells #[.int .i64 0, .int .i64 0] 49)).cell? ⟨w.heap.size + 1, 0, none⟩ = some (.int .i64 0) ∧ ((w.alloc (.cells #[.int .i64 u, .int .i64 n] 26)).alloc (.cells #[.int .i64 0, .int .i64 0] 49)).cell? ⟨w.heap.size + 1, 1, none⟩ = some (.int .i64 0) ∧ ((w.alloc (.cells #[.int .i64 u, .int .i64 n] 26)).alloc (.cells #[.int .i64 0, .int .i64 0] 49)).frozen? ⟨w.heap.size + 1, 0, none⟩ = false ∧ ((w.alloc (.cells #[.int .i64 u, .int .i64 n] 26)).alloc (.cells #[.int .i64 0, .int .i64 0] 49)).frozen? ⟨w.heap.size + 1, 1, none⟩ = false) := by
    show _ ∧ _
    have e : (w.alloc (.cells #[.int .i64 u, .int .i64 n] 26)).heap.size = w.heap.size + 1 := by simp
    rw [← e]
    exact ⟨by simp, by simp, by simp, by simp⟩
  by_cases h0 : q2 = 0
  · subst h0
    rw [if_pos rfl, if_pos rfl]
    go_enter Tryz.func19, Tryz.ntmps19
    go_wp2_with fail
    refine (HN.out _ (HL.out.below HB.out)).mono ?_
    rintro e w1 ⟨rfl, hb⟩
    have B1 : Hid (Below w.heap.size w w1) := below_on HB.out (Nat.le_refl _) hb
    obtain ⟨k, f⟩ := bcell hb
    have lt1 : w.heap.size + 1 < w1.heap.size := Nat.lt_of_lt_of_le (by simp) hb.size
    have z0 : w1.cell? ⟨w.heap.size + 1, 0, none⟩ = some (.int .i64 0) := (k _ _ (by simp)).trans HZ.out.1
    have z1 : w1.cell? ⟨w.heap.size + 1, 1, none⟩ = some (.int .i64 0) := (k _ _ (by simp)).trans HZ.out.2.1
    have g0 : w1.frozen? ⟨w.heap.size + 1, 0, none⟩ = false := (f _ _ (by simp)).trans HZ.out.2.2.1
    have g1 : w1.frozen? ⟨w.heap.size + 1, 1, none⟩ = false := (f _ _ (by simp)).trans HZ.out.2.2.2
    clear k f hb
    go_wp2
    refine bodyPost_ret (v := .tuple #[.agg #[.int .i64 s, .int .i64 q1], .int .i64 0]) (by simp [results, Tryz.results19, go_sem, *]) rfl ?_
    exact ⟨rfl, (B1.out.setCell (p := ⟨w.heap.size + 1, 0, none⟩) (by simp) _).setCell (p := ⟨w.heap.size + 1, 1, none⟩) (by simp) _⟩
  · rw [if_neg h0, if_neg h0]
    have hne : (q2 != 0) = true := by simpa using h0
    clear h0
    go_enter Tryz.func19, Tryz.ntmps19
    go_wp2_with fail
    refine (HN.out _ (HL.out.below HB.out)).mono ?_
    rintro e w1 ⟨rfl, hb⟩
    have B1 : Hid (Below w.heap.size w w1) := below_on HB.out (Nat.le_refl _) hb
    obtain ⟨k, f⟩ := bcell hb
    have lt1 : w.heap.size + 1 < w1.heap.size := Nat.lt_of_lt_of_le (by simp) hb.size
    have z0 : w1.cell? ⟨w.heap.size + 1, 0, none⟩ = some (.int .i64 0) := (k _ _ (by simp)).trans HZ.out.1
    have z1 : w1.cell? ⟨w.heap.size + 1, 1, none⟩ = some (.int .i64 0) := (k _ _ (by simp)).trans HZ.out.2.1
    have g0 : w1.frozen? ⟨w.heap.size + 1, 0, none⟩ = false := (f _ _ (by simp)).trans HZ.out.2.2.1
    have g1 : w1.frozen? ⟨w.heap.size + 1, 1, none⟩ = false := (f _ _ (by simp)).trans HZ.out.2.2.2
    clear k f hb
    go_wp2
    refine bodyPost_ret (v := .tuple #[.agg #[.int .i64 0, .int .i64 0], .int .i64 q2]) (by simp [results, Tryz.results19, go_sem, *]) rfl ?_
    exact ⟨rfl, (B1.out.setCell (p := ⟨w.heap.size + 1, 0, none⟩) (by simp) _).setCell (p := ⟨w.heap.size + 1, 1, none⟩) (by simp) _⟩
set_option maxRecDepth 100000 in
set_option maxHeartbeats 1000000 in
theorem zqOn (p : Pz.Pq) (a : Option Addr) (N c : Nat) (n d : Int) (w : World) (hN : p.days.length = N) (hl : N ≤ maxLen) (hc : N ≤ c) (hn : a = none → c = 0 ∧ p.days = []) (hr : Row2 w a p.days) (hd : (if Pz.chk p = 0 then (if Pz.noD n then 3 else 0) else Pz.chk p) = d) :
    Calls Tryz.prog 18 #[pv p a N c, .int .i64 n] w fun e w' => e = .returned (.int .i64 d) ∧ Below w.heap.size w w' := by
  have HB : Hid (Below w.heap.size w (w.alloc (.cells #[.int .i64 p.id, .int .i64 p.born, .int .i64 p.a, .int .i64 p.b, .int .i64 p.ser, .slice a N c] 24))) := below_box w _
  have HC := pZCheck_any p a N c _ hN hl hc hn (hr.below HB.out)
  obtain ⟨x, hx⟩ : ∃ x, Pz.chk p = x := ⟨_, rfl⟩
  rw [hx] at HC hd
  have HC : Hid (Calls _ _ _ _ _) := HC
  clear hx hr hn hc hl hN
  obtain ⟨id, born, pa, pb, ser, l⟩ := p
  simp only at HB HC
  by_cases h0 : x = 0
  · subst h0
    rw [if_pos rfl] at hd
    by_cases hn : 1 ≤ n ∧ n ≤ 3652059
    · have e1 : decide (1 ≤ n ∧ n ≤ 3652059) = true := decide_eq_true hn
      rw [if_neg (by omega)] at hd
      subst hd
      clear hn
      go_enter Tryz.func18, Tryz.ntmps18
      go_wp2_with fail
      refine HC.out.mono ?_
      rintro e w1 ⟨rfl, hb⟩
      have B1 : Hid (Below w.heap.size w w1) := below_on HB.out (Nat.le_refl _) hb
      clear hb
      go_wp2_with (go_at_call 48; refine (zqDay _ _).mono ?_; rintro e w2 ⟨rfl, rfl⟩; rw [e1])
      go_ret
      exact ⟨rfl, B1.out⟩
    · have e1 : decide (1 ≤ n ∧ n ≤ 3652059) = false := decide_eq_false hn
      rw [if_pos (by unfold Pz.noD; omega)] at hd
      subst hd
      clear hn
      go_enter Tryz.func18, Tryz.ntmps18
      go_wp2_with fail
      refine HC.out.mono ?_
      rintro e w1 ⟨rfl, hb⟩
      have B1 : Hid (Below w.heap.size w w1) := below_on HB.out (Nat.le_refl _) hb
      clear hb
      go_wp2_with (go_at_call 48; refine (zqDay _ _).mono ?_; rintro e w2 ⟨rfl, rfl⟩; rw [e1])
      go_ret
      exact ⟨rfl, B1.out⟩
  · rw [if_neg h0] at hd
    subst hd
    have hne : (x != 0) = true := by simpa using h0
    clear h0
    go_enter Tryz.func18, Tryz.ntmps18
    go_wp2_with fail
    refine HC.out.mono ?_
    rintro e w1 ⟨rfl, hb⟩
    have B1 : Hid (Below w.heap.size w w1) := below_on HB.out (Nat.le_refl _) hb
    clear hb
    go_wp2
    go_ret
    exact ⟨rfl, B1.out⟩
set_option maxRecDepth 100000 in
set_option maxHeartbeats 1000000 in
theorem zqEnd (p : Pz.Pq) (a : Option Addr) (N c : Nat) (x : Int) (w : World) (hN : p.days.length = N) (hl : N ≤ 64) (hr : Row2 w a p.days) (hx : Pz.pend p.days = x) :
    Calls Tryz.prog 20 #[pv p a N c] w fun e w' => e = .returned (.int .i64 x) ∧ Below w.heap.size w w' := by
  obtain ⟨id, born, pa, pb, ser, l⟩ := p
  have HN : Hid (l.length = N) := hN
  have HB : Hid (Below w.heap.size w (w.alloc (.cells #[.int .i64 id, .int .i64 born, .int .i64 pa, .int .i64 pb, .int .i64 ser, .slice a N c] 24))) := below_box w _
  have R : Hid (Row2 (w.alloc (.cells #[.int .i64 id, .int .i64 born, .int .i64 pa, .int .i64 pb, .int .i64 ser, .slice a N c] 24)) a l) := hr.below HB.out
  have HX : Hid (Pz.pend l = x) := hx
  clear hr hN hx
  by_cases hz : N = 0
  · subst hz
    obtain rfl : x = 0 := by
      rw [← HX.out, List.eq_nil_of_length_eq_zero HN.out]; rfl
    go_enter Tryz.func20, Tryz.ntmps20
    go_wp2
    go_ret
    exact ⟨rfl, HB.out⟩
  · obtain ⟨n, rfl⟩ : ∃ n, N = n + 1 := ⟨N - 1, by omega⟩
    obtain ⟨b, off, x1, y, rfl, hx, -, c2⟩ := R.out.at (k := n) (by rw [HN.out]; omega)
    obtain rfl : y = x := by
      rw [← HX.out]
      have h9 := Pz.lastTo_succ l n _ hx
      unfold Pz.pend
      exact h9.symm.trans (congrArg (Pz.lastTo l) HN.out).symm
    have en : ((n + 1 : Nat) : Int) - 1 = (n : Int) := by omega
    have hnn : (n : Int) < ((n + 1 : Nat) : Int) := by omega
    have hn0 : (((n + 1 : Nat) : Int) == 0) = false := by rw [beq_eq_false_iff_ne]; omega
    clear hx hz
    go_enter Tryz.func20, Tryz.ntmps20
    go_wp2
    go_ret
    exact ⟨rfl, HB.out⟩
end Go.Proofs.YtandlmnbnjkklaaGreatDoor
namespace Go.Proofs.YtandlmnbnjkklaaGreatDoor
open Go.RowKit Go.BigFrame

theorem six_own {W : World} {r B : Nat} {v : Value} {xs : List Spn.Sp} (h : OwnS W B v xs) (hr : r < B) (v0 v1 v2 v3 v4 v5 : Value) : OwnS (six W r v0 v1 v2 v3 v4 v5) B v xs :=
  (((((h.aside ⟨r, 0, none⟩ hr _).aside ⟨r, 1, none⟩ hr _).aside ⟨r, 2, none⟩ hr _).aside ⟨r, 3, none⟩ hr _).aside ⟨r, 4, none⟩ hr _).aside ⟨r, 5, none⟩ hr _
theorem one_own (w : World) (x y : Int) : OwnS (w.alloc (.cells #[.int .i64 x, .int .i64 y] 49)) w.heap.size (.slice (some ⟨w.heap.size, 0, none⟩) 1 1) [(x, y)] := by
  have := World.ownsRow_lit (base := w.heap.size) (e := 49) (size := 2) w #[.int .i64 x, .int .i64 y] 1 (Nat.le_refl _) (by decide) rfl
  exact this
set_option maxRecDepth 100000 in
set_option maxHeartbeats 4000000 in
theorem pZNew_own (id born pa pb s u n : Int) (w : World) (hw : Laid w) :
    Calls Tryz.prog 35 #[.int .i64 id, .int .i64 born, .int .i64 pa, .int .i64 pb, .int .i64 s, .agg #[.int .i64 u, .int .i64 n]] w (nzOwn w (Pz.new id born pa pb s u n)) := by
  obtain ⟨q1, hq1⟩ : ∃ q, (Trm.nthF s u n 1).1 = q := ⟨_, rfl⟩
  obtain ⟨q2, hq2⟩ : ∃ q, (Trm.nthF s u n 1).2 = q := ⟨_, rfl⟩
  have HQ : Hid ((Trm.nthF s u n 1).1 = q1 ∧ (Trm.nthF s u n 1).2 = q2) := ⟨hq1, hq2⟩
  have HL : Hid (Laid w) := hw
  have hz := Z6.new (w.alloc (.cells #[.int .i64 u, .int .i64 n] 26)) 24
  rw [World.size_alloc] at hz
  have HZ : Hid (Z6 _ (w.heap.size + 1)) := hz
  have HB0 : Hid (Below w.heap.size w ((w.alloc (.cells #[.int .i64 u, .int .i64 n] 26)).alloc (.cells #[.int .i64 0, .int .i64 0, .int .i64 0, .int .i64 0, .int .i64 0, .slice none 0 0] 24))) := (below_box w _).alloc (by simp) _
  clear hq1 hq2 hz hw
  by_cases h2 : q2 = 0
  · subst h2
    obtain ⟨c, hc⟩ : ∃ c, Pz.chk ⟨id, born, pa, pb, 1, [(s, q1)]⟩ = c := ⟨_, rfl⟩
    have HC : Hid (Pz.chk ⟨id, born, pa, pb, 1, [(s, q1)]⟩ = c) := hc
    clear hc
    go_enter Tryz.func35, Tryz.ntmps35
    go_wp2_with fail
    refine (zqFirst s u n q1 0 _ (HL.out.below HB0.out) HQ.out.1 HQ.out.2).mono ?_
    rw [if_pos rfl, if_pos rfl]
    rintro e w1 ⟨rfl, hb⟩
    have Z1 : Hid (Z6 w1 (w.heap.size + 1)) := HZ.out.below hb
    have B1 : Hid (Below w.heap.size w w1) := below_on HB0.out (Nat.le_refl _) hb
    clear hb
    go_wp2_with fail
    have BW : Hid (Below w1.heap.size w1 (((w1.alloc (.cells #[.int .i64 s, .int .i64 q1] 49)).alloc (.cells #[.int .i64 s, .int .i64 q1] 49)).alloc (.cells #[.int .i64 id, .int .i64 born, .int .i64 pa, .int .i64 pb, .int .i64 1, .slice (some ⟨w1.heap.size + 1, 0, none⟩) 1 1] 24))) := ((below_box w1 _).alloc (by simp) _).alloc (by simp; omega) _
    have O1 : Hid (OwnS (((w1.alloc (.cells #[.int .i64 s, .int .i64 q1] 49)).alloc (.cells #[.int .i64 s, .int .i64 q1] 49)).alloc (.cells #[.int .i64 id, .int .i64 born, .int .i64 pa, .int .i64 pb, .int .i64 1, .slice (some ⟨w1.heap.size + 1, 0, none⟩) 1 1] 24)) (w1.heap.size + 1) (.slice (some ⟨w1.heap.size + 1, 0, none⟩) 1 1) [(s, q1)]) := by
      have h := one_own (w1.alloc (.cells #[.int .i64 s, .int .i64 q1] 49)) s q1
      rw [World.size_alloc] at h
      exact h.still (below_box _ _)
    have H1 : Hid (Has6 (((w1.alloc (.cells #[.int .i64 s, .int .i64 q1] 49)).alloc (.cells #[.int .i64 s, .int .i64 q1] 49)).alloc (.cells #[.int .i64 id, .int .i64 born, .int .i64 pa, .int .i64 pb, .int .i64 1, .slice (some ⟨w1.heap.size + 1, 0, none⟩) 1 1] 24)) (w1.heap.size + 2) ⟨id, born, pa, pb, 1, [(s, q1)]⟩ (some ⟨w1.heap.size + 1, 0, none⟩) 1 1) := by
      have := Has6.new ((w1.alloc (.cells #[.int .i64 s, .int .i64 q1] 49)).alloc (.cells #[.int .i64 s, .int .i64 q1] 49)) ⟨id, born, pa, pb, 1, [(s, q1)]⟩ (some ⟨w1.heap.size + 1, 0, none⟩) 1 1 24
      rw [World.size_alloc, World.size_alloc] at this
      exact this
    have hck := pZCheck_any ⟨id, born, pa, pb, 1, [(s, q1)]⟩ (some ⟨w1.heap.size + 1, 0, none⟩) 1 1 _ rfl (by unfold maxLen; omega) (Nat.le_refl _) (fun e => by cases e) O1.out.row'
    rw [HC.out] at hck
    refine hck.mono ?_
    rintro e w2 ⟨rfl, hb⟩
    have B21 : Hid (Below w1.heap.size w1 w2) := below_on BW.out (Nat.le_refl _) hb
    have Z2 : Hid (Z6 w2 (w.heap.size + 1)) := Z1.out.below B21.out
    have B2 : Hid (Below w.heap.size w w2) := below_on B1.out (Nat.le_refl _) B21.out
    have O2 : Hid (OwnS w2 (w1.heap.size + 1) (.slice (some ⟨w1.heap.size + 1, 0, none⟩) 1 1) [(s, q1)]) := O1.out.still hb
    have H2 : Hid (Has6 w2 (w1.heap.size + 2) ⟨id, born, pa, pb, 1, [(s, q1)]⟩ (some ⟨w1.heap.size + 1, 0, none⟩) 1 1) := H1.out.below hb
    clear hb hck
    obtain ⟨-, z0, z1, z2, z3, z4, z5, g⟩ := Z2.out
    have g0 := g 0
    have g1 := g 1
    have g2 := g 2
    have g3 := g 3
    have g4 := g 4
    have g5 := g 5
    clear g
    by_cases c0 : c = 0
    · subst c0
      have HE : Hid (Pz.new id born pa pb s u n = (⟨id, born, pa, pb, 1, [(s, q1)]⟩, 0)) := by
        show _ = _
        unfold Pz.new
        rw [HQ.out.2, if_pos rfl, HQ.out.1, if_pos HC.out]
      have hlt1 : w.heap.size + 1 < w1.heap.size + 1 := by have := Z1.out.lt; omega
      obtain ⟨-, e0, e1, e2, e3, e4, e5⟩ := H2.out
      simp only at e0 e1 e2 e3 e4 e5
      go_wp2
      refine bodyPost_ret (v := .tuple #[pv ⟨id, born, pa, pb, 1, [(s, q1)]⟩ (some ⟨w1.heap.size + 1, 0, none⟩) 1 1, .int .i64 0]) (by simp [results, Tryz.results35, go_sem, *]) rfl ?_
      rw [HE.out]
      exact ⟨_, 1, 1, rfl, rfl, Nat.le_refl _, by omega, (fun h => by cases h), (six_own O2.out hlt1 _ _ _ _ _ _).weak (by omega), six_below B2.out (by omega) _ _ _ _ _ _⟩
    · have HE : Hid (Pz.new id born pa pb s u n = (Pz.zero, c)) := by
        show _ = _
        unfold Pz.new
        rw [HQ.out.2, if_pos rfl, HQ.out.1, HC.out, if_neg c0]
      have c1 : (c != 0) = true := by simpa using c0
      clear c0
      go_wp2
      exact bodyPost_ret (v := .tuple #[.agg #[.int .i64 0, .int .i64 0, .int .i64 0, .int .i64 0, .int .i64 0, .slice none 0 0], .int .i64 c]) (by simp [results, Tryz.results35, go_sem, *]) rfl (nzOwn.bad HE.out (six_below B2.out (by omega) _ _ _ _ _ _))
  · have HE : Hid (Pz.new id born pa pb s u n = (Pz.zero, q2)) := by
      show _ = _
      unfold Pz.new
      rw [HQ.out.2, if_neg h2]
    have h21 : (q2 != 0) = true := by simpa using h2
    go_enter Tryz.func35, Tryz.ntmps35
    go_wp2_with fail
    refine (zqFirst s u n q1 q2 _ (HL.out.below HB0.out) HQ.out.1 HQ.out.2).mono ?_
    rw [if_neg h2, if_neg h2]
    rintro e w1 ⟨rfl, hb⟩
    have Z1 : Hid (Z6 w1 (w.heap.size + 1)) := HZ.out.below hb
    have B1 : Hid (Below w.heap.size w w1) := below_on HB0.out (Nat.le_refl _) hb
    obtain ⟨-, z0, z1, z2, z3, z4, z5, g⟩ := Z1.out
    have g0 := g 0
    have g1 := g 1
    have g2 := g 2
    have g3 := g 3
    have g4 := g 4
    have g5 := g 5
    clear hb g h2
    have gl := Z1.out.lt
    go_wp2
    refine bodyPost_ret (v := .tuple #[.agg #[.int .i64 0, .int .i64 0, .int .i64 0, .int .i64 0, .int .i64 0, .slice none 0 0], .int .i64 q2]) (by simp [results, Tryz.results35, go_sem, *]) rfl ?_
    have B6 := six_below B1.out (by omega : w.heap.size ≤ w.heap.size + 1) (.int .i64 0) (.int .i64 0) (.int .i64 0) (.int .i64 0) (.int .i64 0) (.slice none 0 0)
    exact nzOwn.bad HE.out (below_on B6 (Nat.le_refl _) (below_box (six w1 (w.heap.size + 1) (.int .i64 0) (.int .i64 0) (.int .i64 0) (.int .i64 0) (.int .i64 0) (.slice none 0 0)) (.cells #[.int .i64 0, .int .i64 0] 49)))
end Go.Proofs.YtandlmnbnjkklaaGreatDoor
namespace Go.Proofs.YtandlmnbnjkklaaGreatDoor
open Go.RowKit Go.BigFrame

theorem zqHas (l : List Spn.Sp) (x : Bool) (d : Int) (a : Option Addr) (N cap : Nat) (n : Int) (w : World) (hn : l.length = N) (hl : N ≤ maxLen) (hx : (decide (Spn.chk l = 0) && Spn.memB l n) = x) (hd : Spn.chk l = d) (hr : Row2 w a l) :
    Calls Tryz.prog 61 #[.slice a N cap, .int .i64 n] w fun e w' => e = .returned (.tuple #[.bool x, .int .i64 d]) ∧ Below w.heap.size w w' := by
  subst hn hx hd
  exact pHas l a cap n w hl hr
set_option maxRecDepth 100000 in
set_option maxHeartbeats 4000000 in
theorem pZHas_any (p : Pz.Pq) (a : Option Addr) (N c : Nat) (n z : Int) (w : World) (hN : p.days.length = N) (hl : N ≤ maxLen) (hc : N ≤ c) (hn : a = none → c = 0 ∧ p.days = []) (hr : Row2 w a p.days) :
    Calls Tryz.prog 36 #[pv p a N c, .int .i64 n, .int .i64 z] w fun e w' => e = .returned (.tuple #[.bool (Pz.hasB p n z), .int .i64 (Pz.chk p)]) ∧ Below w.heap.size w w' := by
  obtain ⟨d, hd⟩ : ∃ d, Pz.chk p = d := ⟨_, rfl⟩
  have HD : Hid (Pz.chk p = d) := hd
  have HB : Hid (Below w.heap.size w (w.alloc (.cells #[.int .i64 p.id, .int .i64 p.born, .int .i64 p.a, .int .i64 p.b, .int .i64 p.ser, .slice a N c] 24))) := below_box w _
  have H0 : Hid (Has6 (w.alloc (.cells #[.int .i64 p.id, .int .i64 p.born, .int .i64 p.a, .int .i64 p.b, .int .i64 p.ser, .slice a N c] 24)) w.heap.size p a N c) := Has6.new w p a N c _
  have R : Hid (Row2 (w.alloc (.cells #[.int .i64 p.id, .int .i64 p.born, .int .i64 p.a, .int .i64 p.b, .int .i64 p.ser, .slice a N c] 24)) a p.days) := hr.below HB.out
  have HN : Hid (p.days.length = N ∧ N ≤ maxLen) := ⟨hN, hl⟩
  have hck := pZCheck_any p a N c _ hN hl hc hn R.out
  rw [hd] at hck
  have HCK : Hid (Calls _ _ _ _ _) := hck
  clear hck hr hN hc hn hl
  obtain ⟨id, born, pa, pb, ser, l⟩ := p
  simp only at R HN HB HCK H0
  by_cases h0 : d = 0
  · subst h0
    have ok := (Pz.chk_ok _).1 hd
    have HSP : Hid (Spn.chk l = 0) := ok.sp
    obtain ⟨m, hm⟩ : ∃ m, Spn.memB l n = m := ⟨_, rfl⟩
    have HM : Hid (Spn.memB l n = m) := hm
    have HE : Hid (Pz.hasB ⟨id, born, pa, pb, ser, l⟩ n z = (decide (pa ≤ z ∧ z ≤ pb) && m)) := by
      show _ = _
      unfold Pz.hasB
      rw [hd, hm]; rfl
    rw [HE.out, HD.out]
    clear ok hd hm
    cases m with
    | true =>
      go_enter Tryz.func36, Tryz.ntmps36
      go_wp2_with fail
      refine HCK.out.mono ?_
      rintro e w1 ⟨rfl, hb⟩
      have B1 : Hid (Below w.heap.size w w1) := below_on HB.out (Nat.le_refl _) hb
      have H1 : Hid (Has6 w1 w.heap.size ⟨id, born, pa, pb, ser, l⟩ a N c) := H0.out.below hb
      have R1 : Hid (Row2 w1 a l) := R.out.below hb
      have e5 := H1.out.c5
      clear hb
      go_wp2_with fail
      refine (zqHas l true 0 a N c n _ HN.out.1 HN.out.2 (by rw [HSP.out, HM.out]; rfl) HSP.out R1.out).mono ?_
      rintro e w2 ⟨rfl, hb⟩
      have B2 : Hid (Below w.heap.size w w2) := below_on B1.out (Nat.le_refl _) hb
      have H2 : Hid (Has6 w2 w.heap.size ⟨id, born, pa, pb, ser, l⟩ a N c) := H1.out.below hb
      have k2 := H2.out.c2
      have k3 := H2.out.c3
      simp only at k2 k3
      clear hb e5
      go_wp2_with (go_at_call 56; refine (zqWithin _ _ _ _).mono ?_; rintro e w3 ⟨rfl, rfl⟩)
      go_ret2
      refine ⟨?_, B2.out⟩
      show Ending.returned (.tuple #[.bool (decide (pa ≤ z) && decide (z ≤ pb)), .int .i64 0]) = _
      rw [Bool.and_true, Bool.decide_and]
    | false =>
      go_enter Tryz.func36, Tryz.ntmps36
      go_wp2_with fail
      refine HCK.out.mono ?_
      rintro e w1 ⟨rfl, hb⟩
      have B1 : Hid (Below w.heap.size w w1) := below_on HB.out (Nat.le_refl _) hb
      have H1 : Hid (Has6 w1 w.heap.size ⟨id, born, pa, pb, ser, l⟩ a N c) := H0.out.below hb
      have R1 : Hid (Row2 w1 a l) := R.out.below hb
      have e5 := H1.out.c5
      clear hb
      go_wp2_with fail
      refine (zqHas l false 0 a N c n _ HN.out.1 HN.out.2 (by rw [HSP.out, HM.out]; rfl) HSP.out R1.out).mono ?_
      rintro e w2 ⟨rfl, hb⟩
      have B2 : Hid (Below w.heap.size w w2) := below_on B1.out (Nat.le_refl _) hb
      clear hb e5
      go_wp2
      go_ret2
      exact ⟨by rw [Bool.and_false]; rfl, B2.out⟩
  · have HE : Hid (Pz.hasB ⟨id, born, pa, pb, ser, l⟩ n z = false) := by
      show _ = _
      unfold Pz.hasB
      rw [hd, decide_eq_false h0]; rfl
    rw [HE.out, HD.out]
    have d2 : (d != 0) = true := by simpa using h0
    clear hd h0
    go_enter Tryz.func36, Tryz.ntmps36
    go_wp2_with fail
    refine HCK.out.mono ?_
    rintro e w1 ⟨rfl, hb⟩
    have B1 : Hid (Below w.heap.size w w1) := below_on HB.out (Nat.le_refl _) hb
    clear hb
    go_wp2
    go_ret2
    exact ⟨rfl, B1.out⟩
end Go.Proofs.YtandlmnbnjkklaaGreatDoor
