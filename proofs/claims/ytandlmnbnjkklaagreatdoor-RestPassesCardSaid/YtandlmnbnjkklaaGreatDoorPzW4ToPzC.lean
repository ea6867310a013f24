/- The program's pass replaced; has a pass a day. A region that draws its order, walked by hand: an operation taken first, the only one, either of two. Plain mathematics of passes: what a cut takes off. -/
import Derived.Test.YtandlmnbnjkklaaGreatDoorPzW2ToPzW5
import Derived.Lib.SliceRun
import Derived.Test.YtandlmnbnjkklaaGreatDoorBaseToAppAll
import Derived.Deep.RegionHeld3
import Derived.Deep.AppendLies
import Derived.Test.YtandlmnbnjkklaaGreatDoorPz
namespace Go.Proofs.YtandlmnbnjkklaaGreatDoor
open Go.RowKit Go.BigFrame

theorem infoS : ∃ i : TypeInfo, Tryz.prog.info? 49 = some i ∧ i.zero = some (.agg #[.int .i64 0, .int .i64 0]) ∧ i.size = 2 ∧ i.bytes = 16 := by
  have h := infoSpan
  cases hq : Tryz.prog.info? 49 with
  | none => simp [hq] at h
  | some i => simp [hq] at h; exact ⟨i, rfl, h.1, h.2.1, h.2.2⟩
set_option maxRecDepth 100000 in
set_option maxHeartbeats 1000000 in
theorem sClone_any (l : List Spn.Sp) (a : Option Addr) (n cap : Nat) (w : World) (hln : l.length = n) (hl : n ≤ 1000000) (hn : a = none → l = []) (hr : Row2 w a l) :
    Calls Tryz.prog 26 #[.slice a n cap] w fun e w' => ∃ g c, e = .returned (.slice g n c) ∧ OwnS w' w.heap.size (.slice g n c) l ∧ Below w.heap.size w w' := by
  subst hln
  have q22 : ∀ (w : World) (a : Option Addr) (n c n' c' : Nat), (binOp .eql 22 (.slice a n c) (.slice none n' c')).run Tryz.prog w = .ok (.bool a.isNone) w := fun w a n c n' c' => Lib.run_eql_slice_nil w _ _ a n c n' c' Tryz.underlying22
  obtain ⟨i0, hi, hz0, hz1, hz2⟩ := infoS
  cases a with
  | none =>
    obtain rfl := hn rfl
    go_enter Tryz.func26, Tryz.ntmps26
    go_wp2
    go_ret
    exact ⟨none, 0, rfl, OwnS.nil _ _, Below.refl _ _⟩
  | some ad =>
    have HN := (hr.below (below_box w (.cells #[] 49))).news ad rfl
    have HR : Hid (_) := HN
    clear hr hn HN
    go_enter Tryz.func26, Tryz.ntmps26
    go_wp2_with (at_builtin; refine wpList_append_own _ rfl _ _ 22 rfl w.heap.size 49 i0 _ 2 16 Tryz.underlying22 hi hz0 hz1 hz2 rfl (by omega) _ _ _ rfl (World.ownsRow_made w #[] 0 (Nat.le_refl _) (Nat.zero_le _) (by simp)) ad l.length cap (flat l) rfl ?qc1 ?qc2 ?qc3 ?qc4 ?qc5 ?qc6 ?_)
    case qc1 => exact flat_len l
    case qc2 => exact HR.out
    case qc3 => exact flat_one l
    case qc4 => unfold maxLen; omega
    case qc5 => omega
    case qc6 => simp
    intro v' w1 hown hgrow hnil
    go_wp2
    go_ret
    have ho : OwnS w1 w.heap.size v' l := by unfold OwnS; simpa using hown
    have hb := ((Below.refl _ w).alloc (Nat.le_refl _) (.cells #[] 49)).grown hgrow (by simp) (by intro k hk; simp [Value.ownBlock] at hk; omega)
    obtain ⟨a', c', rfl, -⟩ := ho.parts
    exact ⟨a', c', rfl, ho, hb⟩
/-- a pass's box, its serial or its days stored -/
theorem Has6.ser {w : World} {b : Nat} {p : Pz.Pq} {a : Option Addr} {n c : Nat} (h : Has6 w b p a n c) (x : Int) : Has6 (w.setCell ⟨b, 4, none⟩ (.int .i64 x)) b { p with ser := x } a n c :=
  ⟨by rw [Deep.nblk_setCell]; exact h.lt, (World.cell?_setCell_other _ _ _ _ (by simp)).trans h.c0, (World.cell?_setCell_other _ _ _ _ (by simp)).trans h.c1, (World.cell?_setCell_other _ _ _ _ (by simp)).trans h.c2, (World.cell?_setCell_other _ _ _ _ (by simp)).trans h.c3, World.cell?_setCell_same _ _ _ h.c4, (World.cell?_setCell_other _ _ _ _ (by simp)).trans h.c5⟩
theorem Has6.dys {w : World} {b : Nat} {p : Pz.Pq} {a : Option Addr} {n c : Nat} (h : Has6 w b p a n c) (xs : List Spn.Sp) (a' : Option Addr) (n' c' : Nat) : Has6 (w.setCell ⟨b, 5, none⟩ (.slice a' n' c')) b { p with days := xs } a' n' c' :=
  ⟨by rw [Deep.nblk_setCell]; exact h.lt, (World.cell?_setCell_other _ _ _ _ (by simp)).trans h.c0, (World.cell?_setCell_other _ _ _ _ (by simp)).trans h.c1, (World.cell?_setCell_other _ _ _ _ (by simp)).trans h.c2, (World.cell?_setCell_other _ _ _ _ (by simp)).trans h.c3, (World.cell?_setCell_other _ _ _ _ (by simp)).trans h.c4, World.cell?_setCell_same _ _ _ h.c5⟩
theorem Z6.past {W : World} {r : Nat} (h : Z6 W r) (p : Addr) (hp : p.block ≠ r) (v : Value) : Z6 (W.setCell p v) r :=
  ⟨by rw [Deep.nblk_setCell]; exact h.lt, (World.cell?_setCell_far _ _ _ _ hp).trans h.z0, (World.cell?_setCell_far _ _ _ _ hp).trans h.z1, (World.cell?_setCell_far _ _ _ _ hp).trans h.z2, (World.cell?_setCell_far _ _ _ _ hp).trans h.z3, (World.cell?_setCell_far _ _ _ _ hp).trans h.z4, (World.cell?_setCell_far _ _ _ _ hp).trans h.z5, fun i => by rw [World.frozen?_setCell]; exact h.g i⟩
theorem Two.ser {w W : World} {p : Pz.Pq} {a : Option Addr} {N c : Nat} (h : Two w W p a N c) (x : Int) : Two w (W.setCell ⟨w.heap.size, 4, none⟩ (.int .i64 x)) { p with ser := x } a N c :=
  ⟨h.b.setCell (p := ⟨w.heap.size, 4, none⟩) (Nat.le_refl _) _, h.h.ser x, h.z.past _ (by simp) _, fun i => by rw [World.frozen?_setCell]; exact h.f i⟩
theorem Two.dys {w W : World} {p : Pz.Pq} {a : Option Addr} {N c : Nat} (h : Two w W p a N c) (xs : List Spn.Sp) (a' : Option Addr) (n' c' : Nat) : Two w (W.setCell ⟨w.heap.size, 5, none⟩ (.slice a' n' c')) { p with days := xs } a' n' c' :=
  ⟨h.b.setCell (p := ⟨w.heap.size, 5, none⟩) (Nat.le_refl _) _, h.h.dys xs a' n' c', h.z.past _ (by simp) _, fun i => by rw [World.frozen?_setCell]; exact h.f i⟩
set_option maxRecDepth 100000 in
set_option maxHeartbeats 4000000 in
theorem pZReplace_own (p : Pz.Pq) (a : Option Addr) (N c : Nat) (w : World) (hN : p.days.length = N) (hl : N ≤ maxLen) (hc : N ≤ c) (hn : a = none → c = 0 ∧ p.days = []) (hr : Row2 w a p.days) :
    Calls Tryz.prog 7 #[pv p a N c] w (nzOwn w (Pz.repl p)) := by
  obtain ⟨d, hd⟩ : ∃ d, Pz.chk p = d := ⟨_, rfl⟩
  have HD : Hid (Pz.chk p = d) := hd
  have T0 : Hid (Two w _ p a N c) := Two.new w p a N c
  have R : Hid (Row2 w a p.days) := hr
  have HN : Hid (p.days.length = N ∧ N ≤ c ∧ (a = none → c = 0 ∧ p.days = [])) := ⟨hN, hc, hn⟩
  clear hd hr hN hn hc
  obtain ⟨id, born, pa, pb, ser, l⟩ := p
  simp only at R HN HD
  go_enter Tryz.func7, Tryz.ntmps7
  go_wp2_with fail
  have hck := pZCheck_any ⟨id, born, pa, pb, ser, l⟩ a N c _ HN.out.1 hl HN.out.2.1 HN.out.2.2 (R.out.below T0.out.b)
  rw [HD.out] at hck
  refine hck.mono ?_
  rintro e w1 ⟨rfl, hb⟩
  have T1 : Hid (Two w w1 ⟨id, born, pa, pb, ser, l⟩ a N c) := T0.out.below hb
  clear hb hck T0
  by_cases d0 : d = 0
  · subst d0
    obtain ⟨-, e0, e1, e2, e3, e4, e5⟩ := T1.out.h
    simp only at e0 e1 e2 e3 e4 e5
    by_cases s9 : ser = 999
    · subst s9
      have HE : Hid (Pz.repl ⟨id, born, pa, pb, 999, l⟩ = (Pz.zero, 2)) := by
        show _ = _
        unfold Pz.repl
        rw [if_pos HD.out, if_pos rfl]
      obtain ⟨-, z0, z1, z2, z3, z4, z5, g⟩ := T1.out.z
      have g0 := g 0
      have g1 := g 1
      have g2 := g 2
      have g3 := g 3
      have g4 := g 4
      have g5 := g 5
      clear g
      go_wp2
      exact bodyPost_ret (v := .tuple #[.agg #[.int .i64 0, .int .i64 0, .int .i64 0, .int .i64 0, .int .i64 0, .slice none 0 0], .int .i64 2]) (by simp [results, Tryz.results7, go_sem, *]) rfl (nzOwn.bad HE.out (six_below T1.out.b (by omega) _ _ _ _ _ _))
    · have HE : Hid (Pz.repl ⟨id, born, pa, pb, ser, l⟩ = (⟨id, born, pa, pb, ser + 1, l⟩, 0)) := by
        show _ = _
        unfold Pz.repl
        rw [if_pos HD.out, if_neg s9]
      have ok := (Pz.chk_ok _).1 HD.out
      have hs := ok.nums
      have h64 := ((Spn.chk_zero _).1 ok.sp).1
      unfold Pz.nb at hs
      simp only at hs h64
      have f4 := T1.out.f 4
      have f5 := T1.out.f 5
      have s9' : (ser == 999) = false := by simpa using s9
      have HS : Hid ((1 ≤ ser ∧ ser ≤ 999) ∧ l.length ≤ 64) := ⟨by omega, h64⟩
      have hs1 : 1 ≤ ser := by omega
      have hs2 : ser ≤ 999 := by omega
      clear hs ok h64 s9
      go_wp2_with fail
      have T2 : Hid (Two w (w1.setCell ⟨w.heap.size, 4, none⟩ (.int .i64 (ser + 1))) ⟨id, born, pa, pb, ser + 1, l⟩ a N c) := T1.out.ser (ser + 1)
      refine (sClone_any l a N c _ HN.out.1 (by have := HS.out.2; have := HN.out.1; omega) (fun e => (HN.out.2.2 e).2) (R.out.below T2.out.b)).mono ?_
      rintro e w2 ⟨ga, gc, rfl, ho, hb⟩
      have hz0 : w.heap.size + 1 < (w1.setCell ⟨w.heap.size, 4, none⟩ (.int .i64 (ser + 1))).heap.size := T2.out.z.lt
      have T3 : Hid (Two w w2 ⟨id, born, pa, pb, ser + 1, l⟩ a N c) := T2.out.below hb
      have O3 : Hid (OwnS w2 (w.heap.size + 2) (.slice ga N gc) l) := ho.weak hz0
      have T4 : Hid (Two w (w2.setCell ⟨w.heap.size, 5, none⟩ (.slice ga N gc)) ⟨id, born, pa, pb, ser + 1, l⟩ ga N gc) := T3.out.dys l ga N gc
      clear hb ho hz0 e0 e1 e2 e3 e4 e5 f4 f5
      obtain ⟨-, e0, e1, e2, e3, e4, e5⟩ := T3.out.h
      simp only at e0 e1 e2 e3 e4 e5
      have f5 := T3.out.f 5
      obtain ⟨-, z0, z1, z2, z3, z4, z5, g⟩ := T3.out.z
      have g0 := g 0
      have g1 := g 1
      have g2 := g 2
      have g3 := g 3
      have g4 := g 4
      have g5 := g 5
      clear g
      go_wp2
      obtain ⟨a9, c9, hv, hle, hno, -, -⟩ := O3.out.parts
      obtain ⟨rfl, -, rfl⟩ : ga = a9 ∧ N = l.length ∧ gc = c9 := by simpa using hv
      have OW := ((O3.out.aside ⟨w.heap.size, 5, none⟩ (show w.heap.size < w.heap.size + 2 by omega) (.slice ga N gc)))
      have OW6 := (six_own OW (show w.heap.size + 1 < w.heap.size + 2 by omega) (.int .i64 id) (.int .i64 born) (.int .i64 pa) (.int .i64 pb) (.int .i64 (ser + 1)) (.slice ga N gc)).weak (show w.heap.size ≤ w.heap.size + 2 by omega)
      have B6 := six_below T4.out.b (show w.heap.size ≤ w.heap.size + 1 by omega) (.int .i64 id) (.int .i64 born) (.int .i64 pa) (.int .i64 pb) (.int .i64 (ser + 1)) (.slice ga N gc)
      have HF : nzOwn w (⟨id, born, pa, pb, ser + 1, l⟩, 0) (.returned (.tuple #[pv ⟨id, born, pa, pb, ser + 1, l⟩ ga N gc, .int .i64 0])) (six (w2.setCell ⟨w.heap.size, 5, none⟩ (.slice ga N gc)) (w.heap.size + 1) (.int .i64 id) (.int .i64 born) (.int .i64 pa) (.int .i64 pb) (.int .i64 (ser + 1)) (.slice ga N gc)) :=
        ⟨ga, N, gc, rfl, HN.out.1, by have := HN.out.1; omega, by have := HS.out.2; have := HN.out.1; omega, hno, OW6, B6⟩
      rw [← HE.out] at HF
      have HFF : Hid (nzOwn _ _ _ _) := HF
      clear HF OW OW6 B6 hv hle hno T1 T2 T3 T4 O3 HE HN HS HD R e0 e1 e2 e3 e4 e5 f5
      refine bodyPost_ret (v := .tuple #[pv ⟨id, born, pa, pb, ser + 1, l⟩ ga N gc, .int .i64 0]) ?_ rfl HFF.out
      clear HFF
      simp [results, Tryz.results7, go_sem, z0, z1, z2, z3, z4, z5]
  · have HE : Hid (Pz.repl ⟨id, born, pa, pb, ser, l⟩ = (Pz.zero, d)) := by
      show _ = _
      unfold Pz.repl
      rw [HD.out, if_neg d0]
    have d2 : (d != 0) = true := by simpa using d0
    obtain ⟨-, z0, z1, z2, z3, z4, z5, g⟩ := T1.out.z
    have g0 := g 0
    have g1 := g 1
    have g2 := g 2
    have g3 := g 3
    have g4 := g 4
    have g5 := g 5
    clear g d0
    go_wp2
    exact bodyPost_ret (v := .tuple #[.agg #[.int .i64 0, .int .i64 0, .int .i64 0, .int .i64 0, .int .i64 0, .slice none 0 0], .int .i64 d]) (by simp [results, Tryz.results7, go_sem, *]) rfl (nzOwn.bad HE.out (six_below T1.out.b (by omega) _ _ _ _ _ _))
end Go.Proofs.YtandlmnbnjkklaaGreatDoor
namespace Go.Proofs.YtandlmnbnjkklaaGreatDoor
open Go.RowKit
section
variable {P : Program} {ops : Array Oper} {Q : Exit → Act → World → Prop} {S : World → Prop} {md : Region.Mode}
theorem ord_region {id : Nat} {a : Act} {w : World} (hm : P.follows .mixedOrders = true) (hS : S w.drew)
    (h : S w.drew → wpAnyH P .any ops Q S ops.size (Array.replicate ops.size false) a w.drew) : (Code.region id ops true).wp P Q a w := wp_region_held hm (h hS)
/-- take number i first, its slot written out -/
theorem ord_take {i : Nat} {d : Option Tmp} {oi : Oper} {v : Value} {fuel : Nat} {listed : Array Bool} {a : Act} {w : World} (hi : ops[i]? = some oi) (hd : oi.dst = d)
    (hs : Region.noSelect ops = true) (hf : Region.free md ops listed i = true) (hr : (Region.ready md ops listed).contains i = true)
    (hQ : ∀ c a w, Q (.panic c) (a.put d v) w → Q (.panic c) a w) (hw : Region.wanted oi (yielded ops a.tmps) = true) (hy : ∀ w, S w → (execOp a.eval oi).run P w = .ok (.value v) w) (hS : S w)
    (h : wpAnyH P md ops Q S fuel (listed.setIfInBounds i true) (a.put d v) w) : wpAnyH P md ops Q S (fuel + 1) listed a w := by
  subst hd
  exact wpAnyH_take hi hs hf hr hQ (.inl ⟨hw, hy⟩) hS h
/-- take number i first, which its guard doesn't want -/
theorem ord_untake {i : Nat} {d : Option Tmp} {oi : Oper} {fuel : Nat} {listed : Array Bool} {a : Act} {w : World} (hi : ops[i]? = some oi) (hd : oi.dst = d)
    (hs : Region.noSelect ops = true) (hf : Region.free md ops listed i = true) (hr : (Region.ready md ops listed).contains i = true)
    (hQ : ∀ c a w, Q (.panic c) (a.put d undef) w → Q (.panic c) a w) (hw : Region.wanted oi (yielded ops a.tmps) = false) (hS : S w)
    (h : wpAnyH P md ops Q S fuel (listed.setIfInBounds i true) (a.put d undef) w) : wpAnyH P md ops Q S (fuel + 1) listed a w := by
  subst hd
  exact wpAnyH_take hi hs hf hr hQ (.inr ⟨hw, rfl⟩) hS h
/-- number i is the only one that may come up; its slot written out -/
theorem ord_only {i : Nat} {oi : Oper} {fuel : Nat} {listed : Array Bool} {a : Act} {w : World} (hi : ops[i]? = some oi) (hr : Region.ready md ops listed = [i]) (hw : Region.wanted oi (yielded ops a.tmps) = true)
    (h : Oper.wp P oi a w (fun a' w' => S w' ∧ wpAnyH P md ops Q S fuel (listed.setIfInBounds i true) a' w') Q) : wpAnyH P md ops Q S (fuel + 1) listed a w :=
  wpAnyH_all hr (by simp) (fun j hj => by
    obtain rfl : j = i := by simpa using hj
    unfold wpOp
    simp only [hi, hw, if_true]
    exact .inl h)
/-- either of two may come up -/
theorem ord_two {i j : Nat} {oi oj : Oper} {fuel : Nat} {listed : Array Bool} {a : Act} {w : World} (hi : ops[i]? = some oi) (hj : ops[j]? = some oj) (hr : Region.ready md ops listed = [i, j]) (hwi : Region.wanted oi (yielded ops a.tmps) = true) (hwj : Region.wanted oj (yielded ops a.tmps) = true)
    (h : Oper.wp P oi a w (fun a' w' => S w' ∧ wpAnyH P md ops Q S fuel (listed.setIfInBounds i true) a' w') Q) (h' : Oper.wp P oj a w (fun a' w' => S w' ∧ wpAnyH P md ops Q S fuel (listed.setIfInBounds j true) a' w') Q) : wpAnyH P md ops Q S (fuel + 1) listed a w :=
  wpAnyH_all hr (by simp) (fun k hk => by
    unfold wpOp
    rcases (by simpa using hk : k = i ∨ k = j) with rfl | rfl
    · simp only [hi, hwi, if_true]
      exact .inl h
    · simp only [hj, hwj, if_true]
      exact .inl h')
/-- a call of a Go function at a step -/
theorem ord_call {o : Oper} {a : Act} {w : World} {K : Act → World → Prop} {f : Nat} {args : Array Value} {d : Option Tmp} (hd : o.dst = d) (hrun : (execOp a.eval o).run P w = .ok (.enter f args) w) {R : Ending → World → Prop} (hc : Calls P f args w R)
    (h : ∀ e w', R e w' → ∃ v, e = .returned v ∧ K (a.put d v) w') : Oper.wp P o a w K Q := by
  subst hd
  unfold Oper.wp
  rw [hrun]
  refine Calls.mono hc fun e w' hr => ?_
  obtain ⟨v, rfl, hk⟩ := h e w' hr
  exact hk
/-- an operation that only does something (a store) at a step -/
theorem ord_skip {o : Oper} {a : Act} {w w' : World} {K : Act → World → Prop} {d : Option Tmp} (hd : o.dst = d) (hrun : (execOp a.eval o).run P w = .ok .skip w') (h : K (a.put d undef) w') : Oper.wp P o a w K Q := by
  subst hd
  unfold Oper.wp
  rw [hrun]
  exact h
/-- an operation that yields a value at a step -/
theorem ord_value {o : Oper} {a : Act} {w w' : World} {K : Act → World → Prop} {v : Value} {d : Option Tmp} (hd : o.dst = d) (hrun : (execOp a.eval o).run P w = .ok (.value v) w') (h : K (a.put d v) w') : Oper.wp P o a w K Q := by
  subst hd
  unfold Oper.wp
  rw [hrun]
  exact h
end
end Go.Proofs.YtandlmnbnjkklaaGreatDoor
namespace Go.Proofs.YtandlmnbnjkklaaGreatDoor
namespace Pz
def lowS (n : Int) (s : Spn.Sp) : Int := if n < s.1 then s.1 else n
def restS (n : Int) (s : Spn.Sp) : List Spn.Sp := if lowS n s < s.2 then [(lowS n s, s.2)] else []
def restL (l : List Spn.Sp) (n : Int) : List Spn.Sp := l.flatMap (restS n)
theorem rest_cons (s : Spn.Sp) (l : List Spn.Sp) (n : Int) : restL (s :: l) n = restS n s ++ restL l n := by unfold restL; rw [List.flatMap_cons]
theorem low_is (n : Int) (s : Spn.Sp) : (n < s.1 ∧ lowS n s = s.1) ∨ (s.1 ≤ n ∧ lowS n s = n) := by
  unfold lowS
  by_cases c : n < s.1
  · rw [if_pos c]; exact .inl ⟨c, rfl⟩
  · rw [if_neg c]; exact .inr ⟨by omega, rfl⟩
theorem rest_mem (l : List Spn.Sp) (n k : Int) : Spn.memB (restL l n) k = (Spn.memB l k && decide (n ≤ k)) := by
  induction l with
  | nil => rfl
  | cons s l ih =>
    have e2 : Spn.memB (restS n s ++ restL l n) k = (Spn.memB (restS n s) k || Spn.memB (restL l n) k) := by unfold Spn.memB; rw [List.any_append]
    rw [rest_cons, e2, ih, Spn.memB_cons, Bool.and_or_distrib_right]
    congr 1
    unfold restS
    by_cases c : lowS n s < s.2
    · rw [if_pos c]
      show ((decide (lowS n s ≤ k) && decide (k < s.2)) || false) = _
      rw [Bool.or_false, Bool.eq_iff_iff]
      simp
      rcases low_is n s with h | h <;> omega
    · rw [if_neg c]
      show false = _
      symm
      rw [Bool.eq_false_iff]
      simp
      rcases low_is n s with h | h <;> omega
theorem rest_len (n : Int) : ∀ l : List Spn.Sp, (restL l n).length ≤ l.length
  | [] => Nat.le_refl _
  | s :: l => by
    have h1 := rest_len n l
    have h2 : (restS n s).length ≤ 1 := by
      unfold restS
      split
      · exact Nat.le_refl _
      · exact Nat.zero_le _
    rw [rest_cons, List.length_append, List.length_cons]; omega
theorem rest_from (n : Int) : ∀ (l : List Spn.Sp) (lo : Int), Spn.canonFrom lo l → Spn.canonFrom lo (restL l n)
  | [], _, _ => trivial
  | s :: l, lo, h => by
    obtain ⟨h1, h2, h3⟩ := h
    have ih := rest_from n l s.2 h3
    rw [rest_cons]
    unfold restS
    by_cases c : lowS n s < s.2
    · rw [if_pos c]
      exact ⟨by show lo < lowS n s; rcases low_is n s with h | h <;> omega, c, ih⟩
    · rw [if_neg c]
      exact Spn.canonFrom_mono _ _ _ (by omega) ih
theorem rest_canon (l : List Spn.Sp) (n : Int) (h : Spn.canon l) : Spn.canon (restL l n) := by
  obtain ⟨lo, h⟩ := (Spn.canon_iff l).1 h
  exact (Spn.canon_iff _).2 ⟨lo, rest_from n l lo h⟩
theorem rest_in {l : List Spn.Sp} {n : Int} {s : Spn.Sp} (h : s ∈ restL l n) : ∃ t ∈ l, t.1 ≤ s.1 ∧ s.1 < s.2 ∧ s.2 = t.2 := by
  unfold restL at h
  rw [List.mem_flatMap] at h
  obtain ⟨t, ht, hs⟩ := h
  refine ⟨t, ht, ?_⟩
  unfold restS at hs
  by_cases c : lowS n t < t.2
  · rw [if_pos c, List.mem_singleton] at hs
    subst hs
    exact ⟨by show t.1 ≤ lowS n t; rcases low_is n t with h | h <;> omega, c, rfl⟩
  · rw [if_neg c] at hs; cases hs
theorem rest_chk {p : Pq} (h : Ok p) (n : Int) : Spn.chk (restL p.days n) = 0 := by
  obtain ⟨h1, _, h3⟩ := (Spn.chk_zero _).1 h.sp
  refine (Spn.chk_zero _).2 ⟨Nat.le_trans (rest_len n _) h1, fun s hs => ?_, rest_canon _ n h3⟩
  obtain ⟨t, ht, a, b, c⟩ := rest_in hs
  have := h.ins t ht
  exact ⟨far_no _ (by omega) (by omega), far_no _ (by omega) (by omega)⟩
theorem mem_in {p : Pq} (h : Ok p) {k : Int} (hk : Spn.memB p.days k = true) : 1 ≤ k ∧ k < 3652059 := by
  obtain ⟨s, hs, h1, h2⟩ := (Spn.memB_iff _ _).1 hk
  have := h.ins s hs
  omega
theorem off_chk {n : Int} (h1 : 1 ≤ n) (h2 : n ≤ 3652059) : Spn.chk [(n, 3652060)] = 0 :=
  (Spn.chk_zero _).2 ⟨by simp, fun s hs => by rw [List.mem_singleton] at hs; subst hs; exact ⟨far_no _ (by simp only; omega) (by simp only; omega), far_no _ (by simp only; omega) (by simp only; omega)⟩, show n < 3652060 by omega, trivial⟩
theorem off_mem (n k : Int) : Spn.memB [(n, 3652060)] k = (decide (n ≤ k) && decide (k < 3652060)) := by unfold Spn.memB; simp
theorem cut_parts {p : Pq} (h : Ok p) {n : Int} (h1 : 1 ≤ n) (h2 : n ≤ 3652059) :
    (Spn.code 1 p.days [(n, 3652060)] = 0 ∧ Spn.ans 1 p.days [(n, 3652060)] = restL p.days n) ∧ (Spn.code 2 p.days [(n, 3652060)] = 0 ∧ Spn.ans 2 p.days [(n, 3652060)] = cutL p.days n) ∧
    Spn.chk (restL p.days n) = 0 ∧ Spn.size (restL p.days n) = Spn.size p.days - Spn.size (cutL p.days n) := by
  obtain ⟨k1, _, k3⟩ := (Spn.chk_zero _).1 h.sp
  have u1 : restL p.days n = Spn.both 1 p.days [(n, 3652060)] := Spn.both_unique 1 _ _ _ (rest_canon _ n k3) (fun k => by
    rw [rest_mem, off_mem]
    have e : Spn.opB 1 (Spn.memB p.days k) (decide (n ≤ k) && decide (k < 3652060)) = (Spn.memB p.days k && (decide (n ≤ k) && decide (k < 3652060))) := by unfold Spn.opB; simp
    rw [e]
    cases hm : Spn.memB p.days k with
    | false => rfl
    | true =>
      have := mem_in h hm
      rw [decide_eq_true (show k < 3652060 by omega), Bool.and_true])
  have u2 : cutL p.days n = Spn.both 2 p.days [(n, 3652060)] := Spn.both_unique 2 _ _ _ (cut_canon _ n k3) (fun k => by
    rw [cut_mem, off_mem]
    have e : Spn.opB 2 (Spn.memB p.days k) (decide (n ≤ k) && decide (k < 3652060)) = (Spn.memB p.days k && !(decide (n ≤ k) && decide (k < 3652060))) := by unfold Spn.opB; simp
    rw [e]
    cases hm : Spn.memB p.days k with
    | false => rfl
    | true =>
      have := mem_in h hm
      rw [decide_eq_true (show k < 3652060 by omega), Bool.and_true, Bool.true_and, Bool.true_and, Bool.eq_iff_iff]
      simp)
  have c1 : Spn.code 1 p.days [(n, 3652060)] = 0 := by
    unfold Spn.code
    rw [if_pos h.sp, if_pos (off_chk h1 h2), ← u1, if_neg (by have := rest_len n p.days; omega)]
  have c2 : Spn.code 2 p.days [(n, 3652060)] = 0 := by
    unfold Spn.code
    rw [if_pos h.sp, if_pos (off_chk h1 h2), ← u2, if_neg (by have := cut_len n p.days; omega)]
  refine ⟨⟨c1, ?_⟩, ⟨c2, ?_⟩, rest_chk h n, ?_⟩
  · unfold Spn.ans; rw [if_pos c1, u1]
  · unfold Spn.ans; rw [if_pos c2, u2]
  · have := Spn.size_pair (restL p.days n) (cutL p.days n) p.days [] (rest_chk h n) (cut_ok h n).sp h.sp (by decide) (fun k => by
      rw [rest_mem, cut_mem]
      have e0 : Spn.memB [] k = false := rfl
      rw [e0]
      cases hm : Spn.memB p.days k with
      | false => rfl
      | true =>
        by_cases c : n ≤ k
        · have : ¬ k < n := by omega
          simp [c, this]
        · have : k < n := by omega
          simp [c, this])
    have e1 : Spn.size [] = 0 := rfl
    rw [e1] at this
    omega
end Pz
end Go.Proofs.YtandlmnbnjkklaaGreatDoor
