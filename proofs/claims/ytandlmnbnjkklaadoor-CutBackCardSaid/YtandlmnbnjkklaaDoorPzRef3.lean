/- The document's words on passes, further: one replaced; has a pass a day. -/
import Derived.Test.YtandlmnbnjkklaaDoorPzRef2
namespace Go.Proofs.YtandlmnbnjkklaaDoor
open Go.RowKit Go.BigFrame

theorem Z6.new2 (w : World) (p : Pz.Pq) (a : Option Addr) (N c : Nat) : Z6 ((w.alloc (.cells #[.int .i64 p.id, .int .i64 p.born, .int .i64 p.a, .int .i64 p.b, .int .i64 p.ser, .slice a N c] 24)).alloc (.cells #[.int .i64 0, .int .i64 0, .int .i64 0, .int .i64 0, .int .i64 0, .slice none 0 0] 24)) (w.heap.size + 1) := by
  have := Z6.new (w.alloc (.cells #[.int .i64 p.id, .int .i64 p.born, .int .i64 p.a, .int .i64 p.b, .int .i64 p.ser, .slice a N c] 24)) 24
  rwa [World.size_alloc] at this
/-- a parameter's box and an answer's, side by side -/
structure Two (w W : World) (p : Pz.Pq) (a : Option Addr) (N c : Nat) : Prop where
  b : Below w.heap.size w W
  h : Has6 W w.heap.size p a N c
  z : Z6 W (w.heap.size + 1)
  f : ∀ i, W.frozen? ⟨w.heap.size, i, none⟩ = false
theorem Two.new (w : World) (p : Pz.Pq) (a : Option Addr) (N c : Nat) : Two w ((w.alloc (.cells #[.int .i64 p.id, .int .i64 p.born, .int .i64 p.a, .int .i64 p.b, .int .i64 p.ser, .slice a N c] 24)).alloc (.cells #[.int .i64 0, .int .i64 0, .int .i64 0, .int .i64 0, .int .i64 0, .slice none 0 0] 24)) p a N c :=
  ⟨(below_box w _).alloc (by simp) _, (Has6.new w p a N c _).below (below_box _ _), Z6.new2 w p a N c, fun i => by simp⟩
theorem Two.below {w W W' : World} {p : Pz.Pq} {a : Option Addr} {N c : Nat} (h : Two w W p a N c) (hb : Below W.heap.size W W') : Two w W' p a N c :=
  ⟨below_on h.b (Nat.le_refl _) hb, h.h.below hb, h.z.below hb, fun i => by
    obtain ⟨_, f⟩ := bcell hb
    exact (f _ _ h.h.lt).trans (h.f i)⟩
set_option maxRecDepth 100000 in
set_option maxHeartbeats 4000000 in
theorem passReplace_any (p : Pz.Pq) (a : Option Addr) (N c : Nat) (w : World) (hN : p.days.length = N) (hl : N ≤ maxLen) (hc : N ≤ c) (hn : a = none → c = 0 ∧ p.days = []) (hr : Row2 w a p.days) :
    Calls Tryd.prog 14 #[pv p a N c] w (nzPost w (Pz.repl p)) := by
  obtain ⟨d, hd⟩ : ∃ d, Pz.chk p = d := ⟨_, rfl⟩
  have HD : Hid (Pz.chk p = d) := hd
  have T0 : Hid (Two w _ p a N c) := Two.new w p a N c
  have R : Hid (Row2 w a p.days) := hr
  have HN : Hid (p.days.length = N ∧ N ≤ c ∧ (a = none → c = 0 ∧ p.days = [])) := ⟨hN, hc, hn⟩
  clear hd hr hN hn hc
  obtain ⟨id, born, pa, pb, ser, l⟩ := p
  simp only at R HN HD
  go_enter Tryd.func14, Tryd.ntmps14
  go_wp2_with fail
  have hck := passCheck_any ⟨id, born, pa, pb, ser, l⟩ a c N _ HN.out.1 hl (R.out.below T0.out.b)
  rw [HD.out] at hck
  refine hck.mono ?_
  rintro e w1 ⟨rfl, hb⟩
  have T1 : Hid (Two w w1 ⟨id, born, pa, pb, ser, l⟩ a N c) := T0.out.below hb
  clear hb hck T0
  obtain ⟨-, z0, z1, z2, z3, z4, z5, g⟩ := T1.out.z
  have g0 := g 0
  have g1 := g 1
  have g2 := g 2
  have g3 := g 3
  have g4 := g 4
  have g5 := g 5
  clear g
  by_cases d0 : d = 0
  · subst d0
    obtain ⟨-, e0, e1, e2, e3, e4, e5⟩ := T1.out.h
    simp only at e0 e1 e2 e3 e4 e5
    by_cases s9 : ser = 999
    · subst s9
      have HE : Hid (Pz.repl ⟨id, born, pa, pb, 999, l⟩ = (Pz.zero, 2)) := by
        show _ = _
        unfold Pz.repl
        rw [if_pos HD.out, if_pos rfl]
      go_wp2
      exact bodyPost_ret (v := .tuple #[.agg #[.int .i64 0, .int .i64 0, .int .i64 0, .int .i64 0, .int .i64 0, .slice none 0 0], .int .i64 2]) (by simp [results, Tryd.results14, go_sem, *]) rfl (nzPost.bad HE.out (six_below T1.out.b (by omega) _ _ _ _ _ _))
    · have HE : Hid (Pz.repl ⟨id, born, pa, pb, ser, l⟩ = (⟨id, born, pa, pb, ser + 1, l⟩, 0)) := by
        show _ = _
        unfold Pz.repl
        rw [if_pos HD.out, if_neg s9]
      have ok := (Pz.chk_ok _).1 HD.out
      have hs := ok.nums
      have h64 := ((Spn.chk_zero _).1 ok.sp).1
      unfold Pz.nb at hs
      simp only at hs h64
      have f4 := T1.out.f 4
      have s9' : (ser == 999) = false := by simpa using s9
      have HS : Hid ((1 ≤ ser ∧ ser ≤ 999) ∧ l.length ≤ 64) := ⟨by omega, h64⟩
      have hs1 : 1 ≤ ser := by omega
      have hs2 : ser ≤ 999 := by omega
      clear hs ok h64 s9
      go_wp2
      refine bodyPost_ret (v := .tuple #[pv ⟨id, born, pa, pb, ser + 1, l⟩ a N c, .int .i64 0]) (by simp [results, Tryd.results14, go_sem, *]) rfl ?_
      rw [HE.out]
      have B9 := six_below (r := w.heap.size + 1) (T1.out.b.setCell (p := ⟨w.heap.size, 4, none⟩) (Nat.le_refl _) (.int .i64 (ser + 1))) (by omega) (.int .i64 id) (.int .i64 born) (.int .i64 pa) (.int .i64 pb) (.int .i64 (ser + 1)) (.slice a N c)
      exact ⟨a, N, c, rfl, HN.out.1, HN.out.2.1, by have := HS.out.2; have := HN.out.1; omega, HN.out.2.2, R.out.below B9, B9⟩
  · have HE : Hid (Pz.repl ⟨id, born, pa, pb, ser, l⟩ = (Pz.zero, d)) := by
      show _ = _
      unfold Pz.repl
      rw [HD.out, if_neg d0]
    have d1 : (d == 0) = false := by simpa using d0
    have d2 : (d != 0) = true := by simpa using d0
    clear d0
    go_wp2
    exact bodyPost_ret (v := .tuple #[.agg #[.int .i64 0, .int .i64 0, .int .i64 0, .int .i64 0, .int .i64 0, .slice none 0 0], .int .i64 d]) (by simp [results, Tryd.results14, go_sem, *]) rfl (nzPost.bad HE.out (six_below T1.out.b (by omega) _ _ _ _ _ _))
theorem passHas_any (p : Pz.Pq) (a : Option Addr) (N c : Nat) (n z : Int) (x : Bool) (w : World) (hN : p.days.length = N) (hl : N ≤ maxLen) (hx : (decide (p.a ≤ z ∧ z ≤ p.b) && Spn.memB p.days n) = x) (hr : Row2 w a p.days) :
    Calls Tryd.prog 19 #[pv p a N c, .int .i64 n, .int .i64 z] w fun e w' => e = .returned (.bool x) ∧ Below w.heap.size w w' := by
  obtain ⟨id, born, pa, pb, ser, l⟩ := p
  have HN : Hid (l.length = N) := hN
  have HB : Hid (Below w.heap.size w (w.alloc (.cells #[.int .i64 id, .int .i64 born, .int .i64 pa, .int .i64 pb, .int .i64 ser, .slice a N c] 24))) := below_box w _
  have R : Hid (Row2 w a l) := hr
  simp only at hx
  clear hr hN
  by_cases h1 : z < pa
  · have e : x = false := by rw [← hx, decide_eq_false (by omega)]; rfl
    subst e
    have h1' : decide (pa ≤ z) = false := decide_eq_false (by omega)
    clear hx
    go_enter Tryd.func19, Tryd.ntmps19
    go_wp2
    go_ret
    exact ⟨rfl, HB.out⟩
  · have h1' : decide (pa ≤ z) = true := decide_eq_true (by omega)
    by_cases h2 : pb < z
    · have e : x = false := by rw [← hx, decide_eq_false (by omega)]; rfl
      subst e
      have h2' : decide (z ≤ pb) = false := decide_eq_false (by omega)
      clear hx
      go_enter Tryd.func19, Tryd.ntmps19
      go_wp2
      go_ret
      exact ⟨rfl, HB.out⟩
    · have h2' : decide (z ≤ pb) = true := decide_eq_true (by omega)
      have HX : Hid (Spn.memB l n = x) := by show _ = _; rw [← hx, decide_eq_true (by omega)]; rfl
      clear hx h1 h2
      go_enter Tryd.func19, Tryd.ntmps19
      go_wp2_with fail
      refine (zhas l x a N c n _ HN.out hl HX.out (R.out.below HB.out)).mono ?_
      rintro e w2 ⟨rfl, rfl⟩
      go_wp2
      go_ret
      exact ⟨rfl, HB.out⟩
end Go.Proofs.YtandlmnbnjkklaaDoor
