/- The program's pass replaced; has a pass a day. -/
import Derived.Test.YtandlmnbnjkklaaDoorPzW3
import Derived.Lib.SliceRun
namespace Go.Proofs.YtandlmnbnjkklaaDoor
open Go.RowKit Go.BigFrame

theorem infoS : ∃ i : TypeInfo, Tryd.prog.info? 47 = some i ∧ i.zero = some (.agg #[.int .i64 0, .int .i64 0]) ∧ i.size = 2 ∧ i.bytes = 16 := by
  have h := infoSpan
  cases hq : Tryd.prog.info? 47 with
  | none => simp [hq] at h
  | some i => simp [hq] at h; exact ⟨i, rfl, h.1, h.2.1, h.2.2⟩
set_option maxRecDepth 100000 in
set_option maxHeartbeats 1000000 in
theorem sClone_any (l : List Spn.Sp) (a : Option Addr) (n cap : Nat) (w : World) (hln : l.length = n) (hl : n ≤ 1000000) (hn : a = none → l = []) (hr : Row2 w a l) :
    Calls Tryd.prog 29 #[.slice a n cap] w fun e w' => ∃ g c, e = .returned (.slice g n c) ∧ OwnS w' w.heap.size (.slice g n c) l ∧ Below w.heap.size w w' := by
  subst hln
  have q22 : ∀ (w : World) (a : Option Addr) (n c n' c' : Nat), (binOp .eql 22 (.slice a n c) (.slice none n' c')).run Tryd.prog w = .ok (.bool a.isNone) w := fun w a n c n' c' => Lib.run_eql_slice_nil w _ _ a n c n' c' Tryd.underlying22
  obtain ⟨i0, hi, hz0, hz1, hz2⟩ := infoS
  cases a with
  | none =>
    obtain rfl := hn rfl
    go_enter Tryd.func29, Tryd.ntmps29
    go_wp2
    go_ret
    exact ⟨none, 0, rfl, OwnS.nil _ _, Below.refl _ _⟩
  | some ad =>
    have HN := (hr.below (below_box w (.cells #[] 47))).news ad rfl
    have HR : Hid (_) := HN
    clear hr hn HN
    go_enter Tryd.func29, Tryd.ntmps29
    go_wp2_with (at_builtin; refine wpList_append_own _ rfl _ _ 22 rfl w.heap.size 47 i0 _ 2 16 Tryd.underlying22 hi hz0 hz1 hz2 rfl (by omega) _ _ _ rfl (World.ownsRow_made w #[] 0 (Nat.le_refl _) (Nat.zero_le _) (by simp)) ad l.length cap (flat l) rfl ?qc1 ?qc2 ?qc3 ?qc4 ?qc5 ?qc6 ?_)
    case qc1 => exact flat_len l
    case qc2 => exact HR.out
    case qc3 => exact flat_one l
    case qc4 => unfold maxLen; omega
    case qc5 => omega
    case qc6 => simp
    intro v' w1 hown hgrow hnil
    go_wp2
    go_ret
    have ho : OwnS w1 w.heap.size v' l := by unfold OwnS; simpa using hown
    have hb := ((Below.refl _ w).alloc (Nat.le_refl _) (.cells #[] 47)).grown hgrow (by simp) (by intro k hk; simp [Value.ownBlock] at hk; omega)
    obtain ⟨a', c', rfl, -⟩ := ho.parts
    exact ⟨a', c', rfl, ho, hb⟩
/-- a pass's box, its serial or its days stored -/
theorem Has6.ser {w : World} {b : Nat} {p : Pz.Pq} {a : Option Addr} {n c : Nat} (h : Has6 w b p a n c) (x : Int) : Has6 (w.setCell ⟨b, 4, none⟩ (.int .i64 x)) b { p with ser := x } a n c :=
  ⟨by rw [Deep.nblk_setCell]; exact h.lt, (World.cell?_setCell_other _ _ _ _ (by simp)).trans h.c0, (World.cell?_setCell_other _ _ _ _ (by simp)).trans h.c1, (World.cell?_setCell_other _ _ _ _ (by simp)).trans h.c2, (World.cell?_setCell_other _ _ _ _ (by simp)).trans h.c3, World.cell?_setCell_same _ _ _ h.c4, (World.cell?_setCell_other _ _ _ _ (by simp)).trans h.c5⟩
theorem Has6.dys {w : World} {b : Nat} {p : Pz.Pq} {a : Option Addr} {n c : Nat} (h : Has6 w b p a n c) (xs : List Spn.Sp) (a' : Option Addr) (n' c' : Nat) : Has6 (w.setCell ⟨b, 5, none⟩ (.slice a' n' c')) b { p with days := xs } a' n' c' :=
  ⟨by rw [Deep.nblk_setCell]; exact h.lt, (World.cell?_setCell_other _ _ _ _ (by simp)).trans h.c0, (World.cell?_setCell_other _ _ _ _ (by simp)).trans h.c1, (World.cell?_setCell_other _ _ _ _ (by simp)).trans h.c2, (World.cell?_setCell_other _ _ _ _ (by simp)).trans h.c3, (World.cell?_setCell_other _ _ _ _ (by simp)).trans h.c4, World.cell?_setCell_same _ _ _ h.c5⟩
theorem Z6.past {W : World} {r : Nat} (h : Z6 W r) (p : Addr) (hp : p.block ≠ r) (v : Value) : Z6 (W.setCell p v) r :=
  ⟨by rw [Deep.nblk_setCell]; exact h.lt, (World.cell?_setCell_far _ _ _ _ hp).trans h.z0, (World.cell?_setCell_far _ _ _ _ hp).trans h.z1, (World.cell?_setCell_far _ _ _ _ hp).trans h.z2, (World.cell?_setCell_far _ _ _ _ hp).trans h.z3, (World.cell?_setCell_far _ _ _ _ hp).trans h.z4, (World.cell?_setCell_far _ _ _ _ hp).trans h.z5, fun i => by rw [World.frozen?_setCell]; exact h.g i⟩
theorem Two.ser {w W : World} {p : Pz.Pq} {a : Option Addr} {N c : Nat} (h : Two w W p a N c) (x : Int) : Two w (W.setCell ⟨w.heap.size, 4, none⟩ (.int .i64 x)) { p with ser := x } a N c :=
  ⟨h.b.setCell (p := ⟨w.heap.size, 4, none⟩) (Nat.le_refl _) _, h.h.ser x, h.z.past _ (by simp) _, fun i => by rw [World.frozen?_setCell]; exact h.f i⟩
theorem Two.dys {w W : World} {p : Pz.Pq} {a : Option Addr} {N c : Nat} (h : Two w W p a N c) (xs : List Spn.Sp) (a' : Option Addr) (n' c' : Nat) : Two w (W.setCell ⟨w.heap.size, 5, none⟩ (.slice a' n' c')) { p with days := xs } a' n' c' :=
  ⟨h.b.setCell (p := ⟨w.heap.size, 5, none⟩) (Nat.le_refl _) _, h.h.dys xs a' n' c', h.z.past _ (by simp) _, fun i => by rw [World.frozen?_setCell]; exact h.f i⟩
set_option maxRecDepth 100000 in
set_option maxHeartbeats 4000000 in
theorem pZReplace_own (p : Pz.Pq) (a : Option Addr) (N c : Nat) (w : World) (hN : p.days.length = N) (hl : N ≤ maxLen) (hc : N ≤ c) (hn : a = none → c = 0 ∧ p.days = []) (hr : Row2 w a p.days) :
    Calls Tryd.prog 10 #[pv p a N c] w (nzOwn w (Pz.repl p)) := by
  obtain ⟨d, hd⟩ : ∃ d, Pz.chk p = d := ⟨_, rfl⟩
  have HD : Hid (Pz.chk p = d) := hd
  have T0 : Hid (Two w _ p a N c) := Two.new w p a N c
  have R : Hid (Row2 w a p.days) := hr
  have HN : Hid (p.days.length = N ∧ N ≤ c ∧ (a = none → c = 0 ∧ p.days = [])) := ⟨hN, hc, hn⟩
  clear hd hr hN hn hc
  obtain ⟨id, born, pa, pb, ser, l⟩ := p
  simp only at R HN HD
  go_enter Tryd.func10, Tryd.ntmps10
  go_wp2_with fail
  have hck := pZCheck_any ⟨id, born, pa, pb, ser, l⟩ a N c _ HN.out.1 hl HN.out.2.1 HN.out.2.2 (R.out.below T0.out.b)
  rw [HD.out] at hck
  refine hck.mono ?_
  rintro e w1 ⟨rfl, hb⟩
  have T1 : Hid (Two w w1 ⟨id, born, pa, pb, ser, l⟩ a N c) := T0.out.below hb
  clear hb hck T0
  by_cases d0 : d = 0
  · subst d0
    obtain ⟨-, e0, e1, e2, e3, e4, e5⟩ := T1.out.h
    simp only at e0 e1 e2 e3 e4 e5
    by_cases s9 : ser = 999
    · subst s9
      have HE : Hid (Pz.repl ⟨id, born, pa, pb, 999, l⟩ = (Pz.zero, 2)) := by
        show _ = _
        unfold Pz.repl
        rw [if_pos HD.out, if_pos rfl]
      obtain ⟨-, z0, z1, z2, z3, z4, z5, g⟩ := T1.out.z
      have g0 := g 0
      have g1 := g 1
      have g2 := g 2
      have g3 := g 3
      have g4 := g 4
      have g5 := g 5
      clear g
      go_wp2
      exact bodyPost_ret (v := .tuple #[.agg #[.int .i64 0, .int .i64 0, .int .i64 0, .int .i64 0, .int .i64 0, .slice none 0 0], .int .i64 2]) (by simp [results, Tryd.results10, go_sem, *]) rfl (nzOwn.bad HE.out (six_below T1.out.b (by omega) _ _ _ _ _ _))
    · have HE : Hid (Pz.repl ⟨id, born, pa, pb, ser, l⟩ = (⟨id, born, pa, pb, ser + 1, l⟩, 0)) := by
        show _ = _
        unfold Pz.repl
        rw [if_pos HD.out, if_neg s9]
      have ok := (Pz.chk_ok _).1 HD.out
      have hs := ok.nums
      have h64 := ((Spn.chk_zero _).1 ok.sp).1
      unfold Pz.nb at hs
      simp only at hs h64
      have f4 := T1.out.f 4
      have f5 := T1.out.f 5
      have s9' : (ser == 999) = false := by simpa using s9
      have HS : Hid ((1 ≤ ser ∧ ser ≤ 999) ∧ l.length ≤ 64) := ⟨by omega, h64⟩
      have hs1 : 1 ≤ ser := by omega
      have hs2 : ser ≤ 999 := by omega
      clear hs ok h64 s9
      go_wp2_with fail
      have T2 : Hid (Two w (w1.setCell ⟨w.heap.size, 4, none⟩ (.int .i64 (ser + 1))) ⟨id, born, pa, pb, ser + 1, l⟩ a N c) := T1.out.ser (ser + 1)
      refine (sClone_any l a N c _ HN.out.1 (by have := HS.out.2; have := HN.out.1; omega) (fun e => (HN.out.2.2 e).2) (R.out.below T2.out.b)).mono ?_
      rintro e w2 ⟨ga, gc, rfl, ho, hb⟩
      have hz0 : w.heap.size + 1 < (w1.setCell ⟨w.heap.size, 4, none⟩ (.int .i64 (ser + 1))).heap.size := T2.out.z.lt
      have T3 : Hid (Two w w2 ⟨id, born, pa, pb, ser + 1, l⟩ a N c) := T2.out.below hb
      have O3 : Hid (OwnS w2 (w.heap.size + 2) (.slice ga N gc) l) := ho.weak hz0
      have T4 : Hid (Two w (w2.setCell ⟨w.heap.size, 5, none⟩ (.slice ga N gc)) ⟨id, born, pa, pb, ser + 1, l⟩ ga N gc) := T3.out.dys l ga N gc
      clear hb ho hz0 e0 e1 e2 e3 e4 e5 f4 f5
      obtain ⟨-, e0, e1, e2, e3, e4, e5⟩ := T3.out.h
      simp only at e0 e1 e2 e3 e4 e5
      have f5 := T3.out.f 5
      obtain ⟨-, z0, z1, z2, z3, z4, z5, g⟩ := T3.out.z
      have g0 := g 0
      have g1 := g 1
      have g2 := g 2
      have g3 := g 3
      have g4 := g 4
      have g5 := g 5
      clear g
      go_wp2
      obtain ⟨a9, c9, hv, hle, hno, -, -⟩ := O3.out.parts
      obtain ⟨rfl, -, rfl⟩ : ga = a9 ∧ N = l.length ∧ gc = c9 := by simpa using hv
      have OW := ((O3.out.aside ⟨w.heap.size, 5, none⟩ (show w.heap.size < w.heap.size + 2 by omega) (.slice ga N gc)))
      have OW6 := (six_own OW (show w.heap.size + 1 < w.heap.size + 2 by omega) (.int .i64 id) (.int .i64 born) (.int .i64 pa) (.int .i64 pb) (.int .i64 (ser + 1)) (.slice ga N gc)).weak (show w.heap.size ≤ w.heap.size + 2 by omega)
      have B6 := six_below T4.out.b (show w.heap.size ≤ w.heap.size + 1 by omega) (.int .i64 id) (.int .i64 born) (.int .i64 pa) (.int .i64 pb) (.int .i64 (ser + 1)) (.slice ga N gc)
      have HF : nzOwn w (⟨id, born, pa, pb, ser + 1, l⟩, 0) (.returned (.tuple #[pv ⟨id, born, pa, pb, ser + 1, l⟩ ga N gc, .int .i64 0])) (six (w2.setCell ⟨w.heap.size, 5, none⟩ (.slice ga N gc)) (w.heap.size + 1) (.int .i64 id) (.int .i64 born) (.int .i64 pa) (.int .i64 pb) (.int .i64 (ser + 1)) (.slice ga N gc)) :=
        ⟨ga, N, gc, rfl, HN.out.1, by have := HN.out.1; omega, by have := HS.out.2; have := HN.out.1; omega, hno, OW6, B6⟩
      rw [← HE.out] at HF
      have HFF : Hid (nzOwn _ _ _ _) := HF
      clear HF OW OW6 B6 hv hle hno T1 T2 T3 T4 O3 HE HN HS HD R e0 e1 e2 e3 e4 e5 f5
      refine bodyPost_ret (v := .tuple #[pv ⟨id, born, pa, pb, ser + 1, l⟩ ga N gc, .int .i64 0]) ?_ rfl HFF.out
      clear HFF
      simp [results, Tryd.results10, go_sem, z0, z1, z2, z3, z4, z5]
  · have HE : Hid (Pz.repl ⟨id, born, pa, pb, ser, l⟩ = (Pz.zero, d)) := by
      show _ = _
      unfold Pz.repl
      rw [HD.out, if_neg d0]
    have d2 : (d != 0) = true := by simpa using d0
    obtain ⟨-, z0, z1, z2, z3, z4, z5, g⟩ := T1.out.z
    have g0 := g 0
    have g1 := g 1
    have g2 := g 2
    have g3 := g 3
    have g4 := g 4
    have g5 := g 5
    clear g d0
    go_wp2
    exact bodyPost_ret (v := .tuple #[.agg #[.int .i64 0, .int .i64 0, .int .i64 0, .int .i64 0, .int .i64 0, .slice none 0 0], .int .i64 d]) (by simp [results, Tryd.results10, go_sem, *]) rfl (nzOwn.bad HE.out (six_below T1.out.b (by omega) _ _ _ _ _ _))
end Go.Proofs.YtandlmnbnjkklaaDoor
