/- The document's words on passes, further: one cut. -/
import Derived.Test.YtandlmnbnjkklaaDoorPzRef3
namespace Go.Proofs.YtandlmnbnjkklaaDoor
open Go.RowKit Go.BigFrame

/-- a row that was made isn't touched by a store below it -/
theorem OwnS.aside {W : World} {B : Nat} {v : Value} {xs : List Spn.Sp} (h : OwnS W B v xs) (p : Addr) (hp : p.block < B) (u : Value) : OwnS (W.setCell p u) B v xs := by
  obtain ⟨k1, k2⟩ := h
  refine ⟨k1, ?_⟩
  rcases k2 with k2 | ⟨g, cap', cur, e, hb, hc, hd⟩
  · exact .inl k2
  · exact .inr ⟨g, cap', cur, e, hb, by rw [Deep.blk_setCell_other _ _ _ _ (show g ≠ p.block by omega)]; exact hc, hd⟩
theorem own_slice {W : World} {B n : Nat} {v : Value} {vs : List Value} (h : W.ownsRow B 47 2 v (n + 1) vs) : ∃ g c, v = .slice (some ⟨g, 0, none⟩) (n + 1) c := by
  rcases h.2 with ⟨_, h2⟩ | ⟨g, cap, cur, h1, _⟩
  · omega
  · exact ⟨g, cap, h1⟩
/-- a pass in work: its box, and the days that it has got so far -/
structure CI (w1 wr : World) (g : Nat) (p : Pz.Pq) (v : Value) (xs : List Spn.Sp) : Prop where
  b : Below g w1 wr
  lt : g < wr.heap.size
  c0 : wr.cell? ⟨g, 0, none⟩ = some (.int .i64 p.id)
  c1 : wr.cell? ⟨g, 1, none⟩ = some (.int .i64 p.born)
  c2 : wr.cell? ⟨g, 2, none⟩ = some (.int .i64 p.a)
  c3 : wr.cell? ⟨g, 3, none⟩ = some (.int .i64 p.b)
  c4 : wr.cell? ⟨g, 4, none⟩ = some (.int .i64 p.ser)
  c5 : wr.cell? ⟨g, 5, none⟩ = some v
  f : ∀ i, wr.frozen? ⟨g, i, none⟩ = false
  own : OwnS wr (g + 1) v xs
theorem CI.new (w1 : World) (p : Pz.Pq) : CI w1 (w1.alloc (.cells #[.int .i64 p.id, .int .i64 p.born, .int .i64 p.a, .int .i64 p.b, .int .i64 p.ser, .slice none 0 0] 24)) w1.heap.size p (.slice none 0 0) [] :=
  ⟨below_box _ _, by simp, by simp, by simp, by simp, by simp, by simp, by simp, fun i => by simp, OwnS.nil _ _⟩
theorem CI.on {w1 wr W : World} {g : Nat} {p : Pz.Pq} {v : Value} {xs : List Spn.Sp} (h : CI w1 wr g p v xs) (hg : g ≤ w1.heap.size) (hb : Below wr.heap.size wr W) : CI w1 W g p v xs := by
  obtain ⟨k, f⟩ := bcell hb
  exact ⟨below_on h.b hg hb, Nat.lt_of_lt_of_le h.lt hb.size, (k _ _ h.lt).trans h.c0, (k _ _ h.lt).trans h.c1, (k _ _ h.lt).trans h.c2, (k _ _ h.lt).trans h.c3, (k _ _ h.lt).trans h.c4, (k _ _ h.lt).trans h.c5, fun i => (f _ _ h.lt).trans (h.f i), h.own.still hb⟩
theorem CI.step {w1 wr W w3 : World} {g : Nat} {p : Pz.Pq} {v v' : Value} {xs : List Spn.Sp} {x y : Int} {o : Obj} (h : CI w1 wr g p v xs) (hg : g ≤ w1.heap.size) (hb : Below wr.heap.size wr W)
    (hown' : w3.ownsRow (g + 1) 47 2 v' (xs.length + 1) (flat xs ++ [.int .i64 x, .int .i64 y])) (hgrow : (W.alloc o).grownBy w3 v.ownBlock) :
    CI w1 (w3.setCell ⟨g, 5, none⟩ v') g p v' (xs ++ [(x, y)]) ∧ w3.cell? ⟨g, 5, none⟩ = some v ∧ w3.frozen? ⟨g, 5, none⟩ = false := by
  have hW := h.on hg hb
  obtain ⟨o1, b1⟩ := OwnS.snoc (w := W) (B := g + 1) (by have := hW.lt; omega) hW.own (Below.refl _ _) hown' hgrow
  have k := fun o => b1.cell (p := ⟨g, o, none⟩) (Nat.lt_succ_self g)
  have f := fun o => b1.frozen (p := ⟨g, o, none⟩) (Nat.lt_succ_self g)
  have hne : ∀ i, i ≠ 5 → (⟨g, 5, none⟩ : Addr) ≠ ⟨g, i, none⟩ := fun i hi e => hi (by cases e; rfl)
  have c5 := (k 5).trans hW.c5
  refine ⟨⟨(hW.b.trans (b1.mono (by omega))).setCell (Nat.le_refl _) _, by rw [Deep.nblk_setCell]; exact Nat.lt_of_lt_of_le hW.lt b1.size, ?_, ?_, ?_, ?_, ?_, World.cell?_setCell_same _ _ _ c5, fun i => by rw [World.frozen?_setCell]; exact (f i).trans (hW.f i), o1.aside _ (Nat.lt_succ_self g) _⟩, c5, (f 5).trans (hW.f 5)⟩
  · exact (World.cell?_setCell_other _ _ _ _ (hne 0 (by omega))).trans ((k 0).trans hW.c0)
  · exact (World.cell?_setCell_other _ _ _ _ (hne 1 (by omega))).trans ((k 1).trans hW.c1)
  · exact (World.cell?_setCell_other _ _ _ _ (hne 2 (by omega))).trans ((k 2).trans hW.c2)
  · exact (World.cell?_setCell_other _ _ _ _ (hne 3 (by omega))).trans ((k 3).trans hW.c3)
  · exact (World.cell?_setCell_other _ _ _ _ (hne 4 (by omega))).trans ((k 4).trans hW.c4)
theorem OwnS.parts {w : World} {B : Nat} {v : Value} {xs : List Spn.Sp} (h : OwnS w B v xs) : ∃ a cap, v = .slice a xs.length cap ∧ xs.length ≤ cap ∧ (a = none → cap = 0 ∧ xs = []) ∧ Row2 w a xs ∧ ∀ b off, a = some ⟨b, off, none⟩ → B ≤ b := by
  obtain ⟨a, cap, rfl, hn, hr⟩ := h.row
  refine ⟨a, cap, rfl, ?_, hn, hr, ?_⟩
  · rcases h.2 with ⟨h1, h2⟩ | ⟨g, cap', cur, h1, _, _, h4, _⟩
    · rw [h2]; exact Nat.zero_le _
    · cases h1; exact h4
  · rintro b off rfl
    rcases h.2 with ⟨h1, _⟩ | ⟨g, cap', cur, h1, h2, _⟩
    · cases h1
    · cases h1; exact h2
/-- what the last words of a cut read -/
structure CS (w W : World) (g : Nat) (p : Pz.Pq) (a : Option Addr) (N c : Nat) (va : Option Addr) (vn vc : Nat) (cs : List Spn.Sp) : Prop where
  b : Below w.heap.size w W
  ltg : g < W.heap.size
  ltw : w.heap.size + 1 < W.heap.size
  p5 : W.cell? ⟨w.heap.size, 5, none⟩ = some (.slice a N c)
  q0 : W.cell? ⟨g, 0, none⟩ = some (.int .i64 p.id)
  q1 : W.cell? ⟨g, 1, none⟩ = some (.int .i64 p.born)
  q2 : W.cell? ⟨g, 2, none⟩ = some (.int .i64 p.a)
  q3 : W.cell? ⟨g, 3, none⟩ = some (.int .i64 p.b)
  q4 : W.cell? ⟨g, 4, none⟩ = some (.int .i64 p.ser)
  q5 : W.cell? ⟨g, 5, none⟩ = some (.slice va vn vc)
  z : ∀ i, i < 6 → (W.cell? ⟨w.heap.size + 1, i, none⟩).isSome = true
  f : ∀ i, W.frozen? ⟨w.heap.size + 1, i, none⟩ = false
  rp : Row2 W a p.days
  rq : Row2 W va cs
  ap : p.days = [] ∨ ∀ b off, a = some ⟨b, off, none⟩ → b ≠ w.heap.size + 1
  aq : ∀ b off, va = some ⟨b, off, none⟩ → b ≠ w.heap.size + 1
  ne : g ≠ w.heap.size + 1
theorem CS.on {w W W' : World} {g N c vn vc : Nat} {p : Pz.Pq} {a va : Option Addr} {cs : List Spn.Sp} (h : CS w W g p a N c va vn vc cs) (hb : Below W.heap.size W W') : CS w W' g p a N c va vn vc cs := by
  obtain ⟨k, f⟩ := bcell hb
  have hl : w.heap.size < W.heap.size := Nat.lt_trans (Nat.lt_succ_self _) h.ltw
  exact ⟨below_on h.b (Nat.le_refl _) hb, Nat.lt_of_lt_of_le h.ltg hb.size, Nat.lt_of_lt_of_le h.ltw hb.size, (k _ _ hl).trans h.p5, (k _ _ h.ltg).trans h.q0, (k _ _ h.ltg).trans h.q1, (k _ _ h.ltg).trans h.q2, (k _ _ h.ltg).trans h.q3, (k _ _ h.ltg).trans h.q4, (k _ _ h.ltg).trans h.q5, fun i hi => by rw [k _ _ h.ltw]; exact h.z i hi, fun i => (f _ _ h.ltw).trans (h.f i), h.rp.below hb, h.rq.below hb, h.ap, h.aq, h.ne⟩
theorem CS.drew {w W : World} {g N c vn vc : Nat} {p : Pz.Pq} {a va : Option Addr} {cs : List Spn.Sp} (h : Hid (CS w W g p a N c va vn vc cs)) : Hid (CS w W.drew g p a N c va vn vc cs) := h.out.on (below_drewN (Below.refl _ _) 1)
theorem isSome_set {W : World} {p q : Addr} {v : Value} (h : (W.cell? q).isSome = true) (hp : (W.cell? p).isSome = true) : ((W.setCell p v).cell? q).isSome = true := by
  by_cases e : p = q
  · subst e
    obtain ⟨u, hu⟩ := Option.isSome_iff_exists.1 hp
    rw [World.cell?_setCell_same _ _ _ hu]; rfl
  · rw [World.cell?_setCell_other _ _ _ _ e]; exact h
theorem CS.set {w W : World} {g N c vn vc : Nat} {p : Pz.Pq} {a va : Option Addr} {cs : List Spn.Sp} (h : CS w W g p a N c va vn vc cs) (i : Nat) (hi : i < 6) (v : Value) : CS w (W.setCell ⟨w.heap.size + 1, i, none⟩ v) g p a N c va vn vc cs := by
  have o : ∀ q : Addr, q.block ≠ w.heap.size + 1 → (W.setCell ⟨w.heap.size + 1, i, none⟩ v).cell? q = W.cell? q := fun q hq => World.cell?_setCell_other _ _ _ _ (fun e => hq (by rw [← e]))
  have hs : (W.setCell ⟨w.heap.size + 1, i, none⟩ v).heap.size = W.heap.size := Deep.nblk_setCell _ _ _
  exact ⟨h.b.setCell (show w.heap.size ≤ w.heap.size + 1 by omega) _, by rw [hs]; exact h.ltg, by rw [hs]; exact h.ltw, (o _ (show w.heap.size ≠ _ by omega)).trans h.p5, (o _ h.ne).trans h.q0, (o _ h.ne).trans h.q1, (o _ h.ne).trans h.q2, (o _ h.ne).trans h.q3, (o _ h.ne).trans h.q4, (o _ h.ne).trans h.q5,
    fun j hj => isSome_set (h.z j hj) (h.z i hi), fun j => by rw [World.frozen?_setCell]; exact h.f j, h.ap.elim (fun e => .inl e) (fun q => h.rp.apart q _), h.rq.apart h.aq _, h.ap, h.aq, h.ne⟩
theorem CS.six {w W : World} {g N c vn vc : Nat} {p : Pz.Pq} {a va : Option Addr} {cs : List Spn.Sp} (h : Hid (CS w W g p a N c va vn vc cs)) (v0 v1 v2 v3 v4 v5 : Value) : Hid (CS w (six W (w.heap.size + 1) v0 v1 v2 v3 v4 v5) g p a N c va vn vc cs) :=
  (((((h.out.set 0 (by omega) v0).set 1 (by omega) v1).set 2 (by omega) v2).set 3 (by omega) v3).set 4 (by omega) v4).set 5 (by omega) v5
def cellOr (W : World) (p : Addr) : Value := (W.cell? p).getD undef
theorem cellOr_is {W : World} {p : Addr} (h : (W.cell? p).isSome = true) : W.cell? p = some (cellOr W p) := by
  obtain ⟨u, hu⟩ := Option.isSome_iff_exists.1 h
  unfold cellOr; rw [hu]; rfl
theorem CS.S {w W : World} {g N c vn vc : Nat} {p : Pz.Pq} {a va : Option Addr} {cs : List Spn.Sp} (h : Hid (CS w W g p a N c va vn vc cs)) : W.cell? ⟨w.heap.size, 5, none⟩ = some (.slice a N c) ∧ W.cell? ⟨g, 0, none⟩ = some (.int .i64 p.id) ∧ W.cell? ⟨g, 1, none⟩ = some (.int .i64 p.born) ∧ W.cell? ⟨g, 2, none⟩ = some (.int .i64 p.a) ∧ W.cell? ⟨g, 3, none⟩ = some (.int .i64 p.b) ∧ W.cell? ⟨g, 4, none⟩ = some (.int .i64 p.ser) ∧ W.cell? ⟨g, 5, none⟩ = some (.slice va vn vc) ∧ W.cell? ⟨w.heap.size + 1, 0, none⟩ = some (cellOr W ⟨w.heap.size + 1, 0, none⟩) ∧ W.cell? ⟨w.heap.size + 1, 1, none⟩ = some (cellOr W ⟨w.heap.size + 1, 1, none⟩) ∧ W.cell? ⟨w.heap.size + 1, 2, none⟩ = some (cellOr W ⟨w.heap.size + 1, 2, none⟩) ∧ W.cell? ⟨w.heap.size + 1, 3, none⟩ = some (cellOr W ⟨w.heap.size + 1, 3, none⟩) ∧ W.cell? ⟨w.heap.size + 1, 4, none⟩ = some (cellOr W ⟨w.heap.size + 1, 4, none⟩) ∧ W.cell? ⟨w.heap.size + 1, 5, none⟩ = some (cellOr W ⟨w.heap.size + 1, 5, none⟩) ∧ W.frozen? ⟨w.heap.size + 1, 0, none⟩ = false ∧ W.frozen? ⟨w.heap.size + 1, 1, none⟩ = false ∧ W.frozen? ⟨w.heap.size + 1, 2, none⟩ = false ∧ W.frozen? ⟨w.heap.size + 1, 3, none⟩ = false ∧ W.frozen? ⟨w.heap.size + 1, 4, none⟩ = false ∧ W.frozen? ⟨w.heap.size + 1, 5, none⟩ = false ∧ Hid (CS w W g p a N c va vn vc cs) :=
  ⟨h.out.p5, h.out.q0, h.out.q1, h.out.q2, h.out.q3, h.out.q4, h.out.q5, cellOr_is (h.out.z 0 (by omega)), cellOr_is (h.out.z 1 (by omega)), cellOr_is (h.out.z 2 (by omega)), cellOr_is (h.out.z 3 (by omega)), cellOr_is (h.out.z 4 (by omega)), cellOr_is (h.out.z 5 (by omega)), h.out.f 0, h.out.f 1, h.out.f 2, h.out.f 3, h.out.f 4, h.out.f 5, h⟩
theorem days_p {w W : World} {g N c vn vc : Nat} {p : Pz.Pq} {a va : Option Addr} {cs : List Spn.Sp} (h : Hid (CS w W g p a N c va vn vc cs)) (x : Int) (hn : p.days.length = N) (hc : Spn.chk p.days = 0) (hx : Spn.size p.days = x) :
    Calls Tryd.prog 22 #[.slice a N c] W fun e w' => e = .returned (.int .i64 x) ∧ Hid (CS w w' g p a N c va vn vc cs) :=
  (zdays p.days x a N c W hn hc hx h.out.rp).mono fun _ _ k => ⟨k.1, h.out.on k.2⟩
theorem days_q {w W : World} {g N c vn vc : Nat} {p : Pz.Pq} {a va : Option Addr} {cs : List Spn.Sp} (h : Hid (CS w W g p a N c va vn vc cs)) (x : Int) (hn : cs.length = vn) (hc : Spn.chk cs = 0) (hx : Spn.size cs = x) :
    Calls Tryd.prog 22 #[.slice va vn vc] W fun e w' => e = .returned (.int .i64 x) ∧ Hid (CS w w' g p a N c va vn vc cs) :=
  (zdays cs x va vn vc W hn hc hx h.out.rq).mono fun _ _ k => ⟨k.1, h.out.on k.2⟩
set_option maxRecDepth 100000 in
set_option maxHeartbeats 4000000 in
theorem passCut_ok (p : Pz.Pq) (a : Option Addr) (N c : Nat) (n : Int) (w : World) (hN : p.days.length = N) (hc : N ≤ c) (hn : a = none → c = 0 ∧ p.days = []) (hr : Row2 w a p.days)
    (h0 : Pz.chk p = 0) (hd : ¬ Pz.noD n) :
    Calls Tryd.prog 13 #[pv p a N c, .int .i64 n] w (rzPost w (Pz.cut p n)) := by
  have ok := (Pz.chk_ok _).1 h0
  have h64 := ((Spn.chk_zero _).1 ok.sp).1
  have HD : Hid (Pz.chk p = 0 ∧ decide (n < 1 ∨ 3652059 < n) = false) := ⟨h0, decide_eq_false hd⟩
  have T0 : Hid (Two w _ p a N c) := Two.new w p a N c
  have R : Hid (Row2 w a p.days) := hr
  have HN : Hid (p.days.length = N ∧ N ≤ c ∧ (a = none → c = 0 ∧ p.days = []) ∧ N ≤ 64) := ⟨hN, hc, hn, by omega⟩
  have h64' : N ≤ 64 := by omega
  clear hr hN hn hc hd h0 ok h64
  obtain ⟨id, born, pa, pb, ser, l⟩ := p
  simp only at R HN HD
  go_enter Tryd.func13, Tryd.ntmps13
  go_wp2_with fail
  have hck := passCheck_any ⟨id, born, pa, pb, ser, l⟩ a c N _ HN.out.1 (by unfold maxLen; omega) (R.out.below T0.out.b)
  rw [HD.out.1] at hck
  refine hck.mono ?_
  rintro e w1 ⟨rfl, hb⟩
  have T1 : Hid (Two w w1 ⟨id, born, pa, pb, ser, l⟩ a N c) := T0.out.below hb
  clear hb hck T0
  obtain ⟨-, e0, e1, e2, e3, e4, e5⟩ := T1.out.h
  simp only at e0 e1 e2 e3 e4 e5
  go_wp2_with (go_at_call 33; refine (znoDay _ _ _ HD.out.2).mono ?_; rintro e w1' ⟨rfl, rfl⟩)
  have I0 : Hid (CI w1 _ w1.heap.size ⟨id, born, pa, pb, ser, l⟩ (.slice none 0 0) (Pz.cutL (l.take 0) n)) := CI.new w1 ⟨id, born, pa, pb, ser, l⟩
  obtain ⟨g, hg⟩ : ∃ g, w1.heap.size = g := ⟨_, rfl⟩
  have HG : Hid (w.heap.size + 2 ≤ g ∧ g ≤ w1.heap.size) := ⟨by have := T1.out.z.lt; omega, by omega⟩
  have hgw : w.heap.size + 2 ≤ g := HG.out.1
  obtain ⟨i0, hi0, hz0, hz1, hz2⟩ := info_parts infoSpan
  have HI : Hid (Tryd.prog.info? 47 = some i0 ∧ i0.zero = some (.agg #[.int .i64 0, .int .i64 0]) ∧ i0.size = 2 ∧ i0.bytes = 16) := ⟨hi0, hz0, hz1, hz2⟩
  clear hi0 hz0 hz1 hz2 e0 e1 e2 e3 e4 e5
  simp only [hg] at I0
  (try rw [hg])
  (try simp only [hg])
  go_loopw [9] (fun iv wr => ∃ (k : Nat) (v : Value), k ≤ N ∧ iv = .int .i64 k ∧ Hid (CI w1 wr g ⟨id, born, pa, pb, ser, l⟩ v (Pz.cutL (l.take k) n))) (fun iv _ => N - (intOf iv).toNat)
  case atStart => exact ⟨0, _, Nat.zero_le _, rfl, I0⟩
  case round =>
    obtain ⟨k, v, hk, rfl, HJ⟩ := hrel
    clear I0
    have T2 : Hid (Two w wr ⟨id, born, pa, pb, ser, l⟩ a N c) := T1.out.below (by have := HJ.out.b; rwa [← hg] at this)
    have e5 := T2.out.h.c5
    have q5 := HJ.out.c5
    (try simp only at e5 q5)
    have gl := HJ.out.lt
    by_cases hlt : k < N
    · have hlt' : (k : Int) < (N : Int) := by omega
      obtain ⟨b, off, x, y, rfl, hx, c1, c2⟩ := (R.out.below T2.out.b).at (k := k) (by rw [HN.out.1]; exact hlt)
      have HX : Hid (l[k]? = some (x, y)) := hx
      clear hx
      by_cases hy : n < y
      · by_cases hxm : x < n
        · have HS : Hid (Pz.cutL (l.take (k + 1)) n = Pz.cutL (l.take k) n ++ [(x, n)]) := by
            show _ = _
            rw [Pz.cutL_take l k _ HX.out]
            unfold Pz.cutS
            simp only [hy, if_true, hxm]
          have hlen : (Pz.cutL (l.take k) n).length ≤ k := by have := Pz.cut_len n (l.take k); rw [List.length_take] at this; omega
          have hW := HJ.out.on HG.out.2 (below_box wr (.cells #[.int .i64 x, .int .i64 n] 47))
          have q7 := hW.c5
          have q8 := hW.lt
          have hown := hW.own
          have hsz : g + 1 ≤ (wr.alloc (.cells #[.int .i64 x, .int .i64 n] 47)).heap.size := hW.lt
          clear hW
          go_wp2_with (at_builtin; refine wpList_append_own _ rfl (.tmp 49) (.tmp 51) 22 rfl (g + 1) 47 i0 _ 2 16 Tryd.underlying22 HI.out.1 HI.out.2.1 HI.out.2.2.1 HI.out.2.2.2 rfl (by decide) _ _ _ rfl (World.ownsRow.alloc hown _) ⟨wr.heap.size + 1, 0, none⟩ 1 1 [.int .i64 x, .int .i64 n] rfl rfl (cell2_at _ _ (by simp) _ _ _) (one2 _ _) (by unfold maxLen; omega) (by omega) (by first | omega | (simp; omega)) ?_; intro v1 w3 own1 grow1 _; obtain ⟨g1, k1, rfl⟩ := own_slice own1; have ST := HJ.out.step HG.out.2 (below_box wr (.cells #[.int .i64 x, .int .i64 n] 47)) own1 grow1; have p5 := ST.2.1; have pf := ST.2.2; have HST : Hid _ := ST.1; clear own1 grow1 ST)
          go_roundw
          case rel => exact ⟨k + 1, _, by omega, by go_num, by rw [HS.out]; exact HST⟩
          case measure => simp [intOf]; omega
        · have HS : Hid (Pz.cutL (l.take (k + 1)) n = Pz.cutL (l.take k) n) := by
            show _ = _
            rw [Pz.cutL_take l k _ HX.out]
            unfold Pz.cutS
            simp only [hy, if_true, hxm, if_false, List.append_nil]
          go_wp2_with fail
          go_roundw
          case rel => exact ⟨k + 1, v, by omega, by go_num, by rw [HS.out]; exact HJ.out.on HG.out.2 (below_box wr _)⟩
          case measure => simp [intOf]; omega
      · by_cases hxm : x < y
        · have HS : Hid (Pz.cutL (l.take (k + 1)) n = Pz.cutL (l.take k) n ++ [(x, y)]) := by
            show _ = _
            rw [Pz.cutL_take l k _ HX.out]
            unfold Pz.cutS
            simp only [hy, if_false, hxm, if_true]
          have hlen : (Pz.cutL (l.take k) n).length ≤ k := by have := Pz.cut_len n (l.take k); rw [List.length_take] at this; omega
          have hW := HJ.out.on HG.out.2 (below_box wr (.cells #[.int .i64 x, .int .i64 y] 47))
          have q7 := hW.c5
          have q8 := hW.lt
          have hown := hW.own
          have hsz : g + 1 ≤ (wr.alloc (.cells #[.int .i64 x, .int .i64 y] 47)).heap.size := hW.lt
          clear hW
          go_wp2_with (at_builtin; refine wpList_append_own _ rfl (.tmp 49) (.tmp 51) 22 rfl (g + 1) 47 i0 _ 2 16 Tryd.underlying22 HI.out.1 HI.out.2.1 HI.out.2.2.1 HI.out.2.2.2 rfl (by decide) _ _ _ rfl (World.ownsRow.alloc hown _) ⟨wr.heap.size + 1, 0, none⟩ 1 1 [.int .i64 x, .int .i64 y] rfl rfl (cell2_at _ _ (by simp) _ _ _) (one2 _ _) (by unfold maxLen; omega) (by omega) (by first | omega | (simp; omega)) ?_; intro v1 w3 own1 grow1 _; obtain ⟨g1, k1, rfl⟩ := own_slice own1; have ST := HJ.out.step HG.out.2 (below_box wr (.cells #[.int .i64 x, .int .i64 y] 47)) own1 grow1; have p5 := ST.2.1; have pf := ST.2.2; have HST : Hid _ := ST.1; clear own1 grow1 ST)
          go_roundw
          case rel => exact ⟨k + 1, _, by omega, by go_num, by rw [HS.out]; exact HST⟩
          case measure => simp [intOf]; omega
        · have HS : Hid (Pz.cutL (l.take (k + 1)) n = Pz.cutL (l.take k) n) := by
            show _ = _
            rw [Pz.cutL_take l k _ HX.out]
            unfold Pz.cutS
            simp only [hy, if_false, hxm, if_false, List.append_nil]
          go_wp2_with fail
          go_roundw
          case rel => exact ⟨k + 1, v, by omega, by go_num, by rw [HS.out]; exact HJ.out.on HG.out.2 (below_box wr _)⟩
          case measure => simp [intOf]; omega
    · obtain rfl : k = N := by omega
      have HTK : Hid (l.take k = l) := by show _ = _; rw [List.take_of_length_le (by rw [HN.out.1]; exact Nat.le_refl _)]
      rw [HTK.out] at HJ
      obtain ⟨va, vc, hvv, hvl, hvn, hvr, hvb⟩ := HJ.out.own.parts
      subst hvv
      have ok := (Pz.chk_ok _).1 HD.out.1
      have okc := Pz.cut_ok ok n
      have hA := Spn.size_chk l ok.sp
      have hB := Spn.size_chk (Pz.cutL l n) okc.sp
      obtain ⟨A, hAe⟩ : ∃ A, Spn.size l = A := ⟨_, rfl⟩
      obtain ⟨B, hBe⟩ : ∃ B, Spn.size (Pz.cutL l n) = B := ⟨_, rfl⟩
      have HE : Hid (Pz.cut ⟨id, born, pa, pb, ser, l⟩ n = (⟨id, born, pa, pb, ser, Pz.cutL l n⟩, A - B, 0)) := by
        show _ = _
        unfold Pz.cut
        have hd : ¬ Pz.noD n := by have := HD.out.2; simp only [decide_eq_false_iff_not] at this; exact this
        rw [if_pos HD.out.1, if_neg hd]
        show (Pz.cutP ⟨id, born, pa, pb, ser, l⟩ n, Spn.size l - Spn.size (Pz.cutL l n), (0 : Int)) = _
        rw [hAe, hBe]; rfl
      have HP : Hid (Spn.chk l = 0 ∧ Spn.size l = A ∧ Spn.chk (Pz.cutL l n) = 0 ∧ Spn.size (Pz.cutL l n) = B) := ⟨ok.sp, hAe, okc.sp, hBe⟩
      obtain ⟨cs, hcs⟩ : ∃ cs, Pz.cutL l n = cs := ⟨_, rfl⟩
      obtain ⟨vn, hvn2⟩ : ∃ vn, (Pz.cutL l n).length = vn := ⟨_, rfl⟩
      have HL : Hid (cs.length = vn ∧ vn ≤ k ∧ vn ≤ 64) := by
        have h1 := Pz.cut_len n l
        have h2 := HN.out.1
        rw [hcs] at h1 hvn2
        exact ⟨hvn2, by omega, by omega⟩
      rw [hAe] at hA
      rw [hBe] at hB
      rw [hvn2] at q5
      rw [hcs] at hvr
      have HC0 : Hid (CS w wr g ⟨id, born, pa, pb, ser, l⟩ a k c va vn vc cs) :=
        ⟨T2.out.b, gl, by have := T2.out.z.lt; omega, e5, HJ.out.c0, HJ.out.c1, HJ.out.c2, HJ.out.c3, HJ.out.c4, q5, fun i hi => by
          obtain ⟨-, z0, z1, z2, z3, z4, z5, -⟩ := T2.out.z
          match i, hi with
          | 0, _ => rw [z0]; rfl
          | 1, _ => rw [z1]; rfl
          | 2, _ => rw [z2]; rfl
          | 3, _ => rw [z3]; rfl
          | 4, _ => rw [z4]; rfl
          | 5, _ => rw [z5]; rfl, T2.out.z.g, R.out.below T2.out.b, hvr, by
            rcases R.out with h | ⟨b', off', e', hlt', -⟩
            · exact .inl h
            · refine .inr fun b off e => ?_
              rw [e'] at e; cases e; omega, fun b off e => by have := hvb b off e; omega, by omega⟩
      have HV : Hid (vn ≤ vc ∧ (va = none → vc = 0 ∧ cs = [])) := by rw [hvn2] at hvl; rw [hcs] at hvn; exact ⟨hvl, hvn⟩
      rw [hcs] at HP HE
      have hvo : ((vn : Nat) : Int) = vn := rfl
      have hw : IntKind.i64.wrap (A - B) = A - B := by rw [IntKind.wrap_i64]; omega
      have HCd := CS.drew HC0
      clear hvr hvn hvl hvb HJ q5 ok okc hA hB hAe hBe hvn2 hvo hcs
      go_wp2_with fail
      clear e5 gl
      go_region_held3 (fun W => W.cell? ⟨w.heap.size, 5, none⟩ = some (.slice a k c) ∧ W.cell? ⟨g, 0, none⟩ = some (.int .i64 id) ∧ W.cell? ⟨g, 1, none⟩ = some (.int .i64 born) ∧ W.cell? ⟨g, 2, none⟩ = some (.int .i64 pa) ∧ W.cell? ⟨g, 3, none⟩ = some (.int .i64 pb) ∧ W.cell? ⟨g, 4, none⟩ = some (.int .i64 ser) ∧ W.cell? ⟨g, 5, none⟩ = some (.slice va vn vc) ∧ W.cell? ⟨w.heap.size + 1, 0, none⟩ = some (cellOr W ⟨w.heap.size + 1, 0, none⟩) ∧ W.cell? ⟨w.heap.size + 1, 1, none⟩ = some (cellOr W ⟨w.heap.size + 1, 1, none⟩) ∧ W.cell? ⟨w.heap.size + 1, 2, none⟩ = some (cellOr W ⟨w.heap.size + 1, 2, none⟩) ∧ W.cell? ⟨w.heap.size + 1, 3, none⟩ = some (cellOr W ⟨w.heap.size + 1, 3, none⟩) ∧ W.cell? ⟨w.heap.size + 1, 4, none⟩ = some (cellOr W ⟨w.heap.size + 1, 4, none⟩) ∧ W.cell? ⟨w.heap.size + 1, 5, none⟩ = some (cellOr W ⟨w.heap.size + 1, 5, none⟩) ∧ W.frozen? ⟨w.heap.size + 1, 0, none⟩ = false ∧ W.frozen? ⟨w.heap.size + 1, 1, none⟩ = false ∧ W.frozen? ⟨w.heap.size + 1, 2, none⟩ = false ∧ W.frozen? ⟨w.heap.size + 1, 3, none⟩ = false ∧ W.frozen? ⟨w.heap.size + 1, 4, none⟩ = false ∧ W.frozen? ⟨w.heap.size + 1, 5, none⟩ = false ∧ Hid (CS w W g ⟨id, born, pa, pb, ser, l⟩ a k c va vn vc cs)) (with_reducible (first | exact CS.S (by assumption) | exact CS.S (CS.drew (by assumption)) | exact CS.S (CS.six (by assumption) _ _ _ _ _ _)))
        ((go_at_call 22; first
          | (refine (days_p (by assumption) A HN.out.1 HP.out.1 HP.out.2.1).mono ?_; rintro e w2 ⟨rfl, H2⟩)
          | (refine (days_q (by assumption) B HL.out.1 HP.out.2.2.1 HP.out.2.2.2).mono ?_; rintro e w3 ⟨rfl, H3⟩)))
      have z0 := cellOr_is (H3.out.z 0 (by omega))
      have z1 := cellOr_is (H3.out.z 1 (by omega))
      have z2 := cellOr_is (H3.out.z 2 (by omega))
      have z3 := cellOr_is (H3.out.z 3 (by omega))
      have z4 := cellOr_is (H3.out.z 4 (by omega))
      have z5 := cellOr_is (H3.out.z 5 (by omega))
      have H6 := CS.six H3 (.int .i64 id) (.int .i64 born) (.int .i64 pa) (.int .i64 pb) (.int .i64 ser) (.slice va vn vc)
      rename_i hS
      clear hS
      go_wp2
      refine bodyPost_ret (v := .tuple #[pv ⟨id, born, pa, pb, ser, cs⟩ va vn vc, .int .i64 (A - B), .int .i64 0]) (by simp [results, Tryd.results13, go_sem, z0, z1, z2, z3, z4, z5]) rfl ?_
      rw [HE.out]
      exact ⟨va, vn, vc, rfl, HL.out.1, HV.out.1, HL.out.2.2, HV.out.2, H6.out.rq, H6.out.b⟩
set_option maxRecDepth 100000 in
set_option maxHeartbeats 4000000 in
theorem passCut_bad (p : Pz.Pq) (a : Option Addr) (N c : Nat) (n d : Int) (w : World) (hN : p.days.length = N) (hl : N ≤ maxLen) (hr : Row2 w a p.days) (h0 : Pz.chk p = d) (hd : d ≠ 0) :
    Calls Tryd.prog 13 #[pv p a N c, .int .i64 n] w (rzPost w (Pz.cut p n)) := by
  have T0 : Hid (Two w _ p a N c) := Two.new w p a N c
  have R : Hid (Row2 w a p.days) := hr
  have HN : Hid (p.days.length = N) := hN
  have HE : Hid (Pz.cut p n = (Pz.zero, 0, d)) := by
    show _ = _
    unfold Pz.cut
    rw [h0, if_neg hd]
  have HD : Hid (Pz.chk p = d) := h0
  have d1 : (d == 0) = false := by simpa using hd
  have d2 : (d != 0) = true := by simpa using hd
  clear hr hN hd h0
  obtain ⟨id, born, pa, pb, ser, l⟩ := p
  simp only at R HN HD
  go_enter Tryd.func13, Tryd.ntmps13
  go_wp2_with fail
  have hck := passCheck_any ⟨id, born, pa, pb, ser, l⟩ a c N _ HN.out hl (R.out.below T0.out.b)
  rw [HD.out] at hck
  refine hck.mono ?_
  rintro e w1 ⟨rfl, hb⟩
  have T1 : Hid (Two w w1 ⟨id, born, pa, pb, ser, l⟩ a N c) := T0.out.below hb
  clear hb hck T0
  obtain ⟨-, z0, z1, z2, z3, z4, z5, g⟩ := T1.out.z
  have g0 := g 0
  have g1 := g 1
  have g2 := g 2
  have g3 := g 3
  have g4 := g 4
  have g5 := g 5
  clear g
  go_wp2
  exact bodyPost_ret (v := .tuple #[.agg #[.int .i64 0, .int .i64 0, .int .i64 0, .int .i64 0, .int .i64 0, .slice none 0 0], .int .i64 0, .int .i64 d]) (by simp [results, Tryd.results13, go_sem, *]) rfl (rzPost.bad HE.out (six_below T1.out.b (by omega) _ _ _ _ _ _))
set_option maxRecDepth 100000 in
set_option maxHeartbeats 4000000 in
theorem passCut_no (p : Pz.Pq) (a : Option Addr) (N c : Nat) (n : Int) (w : World) (hN : p.days.length = N) (hl : N ≤ maxLen) (hr : Row2 w a p.days) (h0 : Pz.chk p = 0) (hd : Pz.noD n) :
    Calls Tryd.prog 13 #[pv p a N c, .int .i64 n] w (rzPost w (Pz.cut p n)) := by
  have T0 : Hid (Two w _ p a N c) := Two.new w p a N c
  have R : Hid (Row2 w a p.days) := hr
  have HN : Hid (p.days.length = N) := hN
  have HE : Hid (Pz.cut p n = (Pz.zero, 0, 3)) := by
    show _ = _
    unfold Pz.cut
    rw [h0, if_pos rfl, if_pos hd]
  have HD : Hid (Pz.chk p = 0 ∧ decide (n < 1 ∨ 3652059 < n) = true) := ⟨h0, decide_eq_true hd⟩
  clear hr hN hd h0
  obtain ⟨id, born, pa, pb, ser, l⟩ := p
  simp only at R HN HD
  go_enter Tryd.func13, Tryd.ntmps13
  go_wp2_with fail
  have hck := passCheck_any ⟨id, born, pa, pb, ser, l⟩ a c N _ HN.out hl (R.out.below T0.out.b)
  rw [HD.out.1] at hck
  refine hck.mono ?_
  rintro e w1 ⟨rfl, hb⟩
  have T1 : Hid (Two w w1 ⟨id, born, pa, pb, ser, l⟩ a N c) := T0.out.below hb
  clear hb hck T0
  obtain ⟨-, z0, z1, z2, z3, z4, z5, g⟩ := T1.out.z
  have g0 := g 0
  have g1 := g 1
  have g2 := g 2
  have g3 := g 3
  have g4 := g 4
  have g5 := g 5
  clear g
  go_wp2_with (go_at_call 33; refine (znoDay _ _ _ HD.out.2).mono ?_; rintro e w1' ⟨rfl, rfl⟩)
  exact bodyPost_ret (v := .tuple #[.agg #[.int .i64 0, .int .i64 0, .int .i64 0, .int .i64 0, .int .i64 0, .slice none 0 0], .int .i64 0, .int .i64 3]) (by simp [results, Tryd.results13, go_sem, *]) rfl (rzPost.bad HE.out (six_below T1.out.b (by omega) _ _ _ _ _ _))
theorem passCut_any (p : Pz.Pq) (a : Option Addr) (N c : Nat) (n : Int) (w : World) (hN : p.days.length = N) (hl : N ≤ maxLen) (hc : N ≤ c) (hn : a = none → c = 0 ∧ p.days = []) (hr : Row2 w a p.days) :
    Calls Tryd.prog 13 #[pv p a N c, .int .i64 n] w (rzPost w (Pz.cut p n)) := by
  by_cases h0 : Pz.chk p = 0
  · by_cases hd : Pz.noD n
    · exact passCut_no p a N c n w hN hl hr h0 hd
    · exact passCut_ok p a N c n w hN hc hn hr h0 hd
  · exact passCut_bad p a N c n _ w hN hl hr rfl h0
end Go.Proofs.YtandlmnbnjkklaaDoor
