/- The program's new pass. -/
import Derived.Test.YtandlmnbnjkklaaDoorPzW2
namespace Go.Proofs.YtandlmnbnjkklaaDoor
open Go.RowKit Go.BigFrame

theorem six_own {W : World} {r B : Nat} {v : Value} {xs : List Spn.Sp} (h : OwnS W B v xs) (hr : r < B) (v0 v1 v2 v3 v4 v5 : Value) : OwnS (six W r v0 v1 v2 v3 v4 v5) B v xs :=
  (((((h.aside ⟨r, 0, none⟩ hr _).aside ⟨r, 1, none⟩ hr _).aside ⟨r, 2, none⟩ hr _).aside ⟨r, 3, none⟩ hr _).aside ⟨r, 4, none⟩ hr _).aside ⟨r, 5, none⟩ hr _
theorem one_own (w : World) (x y : Int) : OwnS (w.alloc (.cells #[.int .i64 x, .int .i64 y] 47)) w.heap.size (.slice (some ⟨w.heap.size, 0, none⟩) 1 1) [(x, y)] := by
  have := World.ownsRow_lit (base := w.heap.size) (e := 47) (size := 2) w #[.int .i64 x, .int .i64 y] 1 (Nat.le_refl _) (by decide) rfl
  exact this
set_option maxRecDepth 100000 in
set_option maxHeartbeats 4000000 in
theorem pZNew_own (id born pa pb s u n : Int) (w : World) (hw : Laid w) :
    Calls Tryd.prog 8 #[.int .i64 id, .int .i64 born, .int .i64 pa, .int .i64 pb, .int .i64 s, .agg #[.int .i64 u, .int .i64 n]] w (nzOwn w (Pz.new id born pa pb s u n)) := by
  obtain ⟨q1, hq1⟩ : ∃ q, (Trm.nthF s u n 1).1 = q := ⟨_, rfl⟩
  obtain ⟨q2, hq2⟩ : ∃ q, (Trm.nthF s u n 1).2 = q := ⟨_, rfl⟩
  have HQ : Hid ((Trm.nthF s u n 1).1 = q1 ∧ (Trm.nthF s u n 1).2 = q2) := ⟨hq1, hq2⟩
  have HL : Hid (Laid w) := hw
  have hz := Z6.new (w.alloc (.cells #[.int .i64 u, .int .i64 n] 26)) 24
  rw [World.size_alloc] at hz
  have HZ : Hid (Z6 _ (w.heap.size + 1)) := hz
  have HB0 : Hid (Below w.heap.size w ((w.alloc (.cells #[.int .i64 u, .int .i64 n] 26)).alloc (.cells #[.int .i64 0, .int .i64 0, .int .i64 0, .int .i64 0, .int .i64 0, .slice none 0 0] 24))) := (below_box w _).alloc (by simp) _
  clear hq1 hq2 hz hw
  by_cases h2 : q2 = 0
  · subst h2
    obtain ⟨c, hc⟩ : ∃ c, Pz.chk ⟨id, born, pa, pb, 1, [(s, q1)]⟩ = c := ⟨_, rfl⟩
    have HC : Hid (Pz.chk ⟨id, born, pa, pb, 1, [(s, q1)]⟩ = c) := hc
    clear hc
    go_enter Tryd.func8, Tryd.ntmps8
    go_wp2_with fail
    refine (zqFirst s u n q1 0 _ (HL.out.below HB0.out) HQ.out.1 HQ.out.2).mono ?_
    rw [if_pos rfl, if_pos rfl]
    rintro e w1 ⟨rfl, hb⟩
    have Z1 : Hid (Z6 w1 (w.heap.size + 1)) := HZ.out.below hb
    have B1 : Hid (Below w.heap.size w w1) := below_on HB0.out (Nat.le_refl _) hb
    clear hb
    go_wp2_with fail
    have BW : Hid (Below w1.heap.size w1 (((w1.alloc (.cells #[.int .i64 s, .int .i64 q1] 47)).alloc (.cells #[.int .i64 s, .int .i64 q1] 47)).alloc (.cells #[.int .i64 id, .int .i64 born, .int .i64 pa, .int .i64 pb, .int .i64 1, .slice (some ⟨w1.heap.size + 1, 0, none⟩) 1 1] 24))) := ((below_box w1 _).alloc (by simp) _).alloc (by simp; omega) _
    have O1 : Hid (OwnS (((w1.alloc (.cells #[.int .i64 s, .int .i64 q1] 47)).alloc (.cells #[.int .i64 s, .int .i64 q1] 47)).alloc (.cells #[.int .i64 id, .int .i64 born, .int .i64 pa, .int .i64 pb, .int .i64 1, .slice (some ⟨w1.heap.size + 1, 0, none⟩) 1 1] 24)) (w1.heap.size + 1) (.slice (some ⟨w1.heap.size + 1, 0, none⟩) 1 1) [(s, q1)]) := by
      have h := one_own (w1.alloc (.cells #[.int .i64 s, .int .i64 q1] 47)) s q1
      rw [World.size_alloc] at h
      exact h.still (below_box _ _)
    have H1 : Hid (Has6 (((w1.alloc (.cells #[.int .i64 s, .int .i64 q1] 47)).alloc (.cells #[.int .i64 s, .int .i64 q1] 47)).alloc (.cells #[.int .i64 id, .int .i64 born, .int .i64 pa, .int .i64 pb, .int .i64 1, .slice (some ⟨w1.heap.size + 1, 0, none⟩) 1 1] 24)) (w1.heap.size + 2) ⟨id, born, pa, pb, 1, [(s, q1)]⟩ (some ⟨w1.heap.size + 1, 0, none⟩) 1 1) := by
      have := Has6.new ((w1.alloc (.cells #[.int .i64 s, .int .i64 q1] 47)).alloc (.cells #[.int .i64 s, .int .i64 q1] 47)) ⟨id, born, pa, pb, 1, [(s, q1)]⟩ (some ⟨w1.heap.size + 1, 0, none⟩) 1 1 24
      rw [World.size_alloc, World.size_alloc] at this
      exact this
    have hck := pZCheck_any ⟨id, born, pa, pb, 1, [(s, q1)]⟩ (some ⟨w1.heap.size + 1, 0, none⟩) 1 1 _ rfl (by unfold maxLen; omega) (Nat.le_refl _) (fun e => by cases e) O1.out.row'
    rw [HC.out] at hck
    refine hck.mono ?_
    rintro e w2 ⟨rfl, hb⟩
    have B21 : Hid (Below w1.heap.size w1 w2) := below_on BW.out (Nat.le_refl _) hb
    have Z2 : Hid (Z6 w2 (w.heap.size + 1)) := Z1.out.below B21.out
    have B2 : Hid (Below w.heap.size w w2) := below_on B1.out (Nat.le_refl _) B21.out
    have O2 : Hid (OwnS w2 (w1.heap.size + 1) (.slice (some ⟨w1.heap.size + 1, 0, none⟩) 1 1) [(s, q1)]) := O1.out.still hb
    have H2 : Hid (Has6 w2 (w1.heap.size + 2) ⟨id, born, pa, pb, 1, [(s, q1)]⟩ (some ⟨w1.heap.size + 1, 0, none⟩) 1 1) := H1.out.below hb
    clear hb hck
    obtain ⟨-, z0, z1, z2, z3, z4, z5, g⟩ := Z2.out
    have g0 := g 0
    have g1 := g 1
    have g2 := g 2
    have g3 := g 3
    have g4 := g 4
    have g5 := g 5
    clear g
    by_cases c0 : c = 0
    · subst c0
      have HE : Hid (Pz.new id born pa pb s u n = (⟨id, born, pa, pb, 1, [(s, q1)]⟩, 0)) := by
        show _ = _
        unfold Pz.new
        rw [HQ.out.2, if_pos rfl, HQ.out.1, if_pos HC.out]
      have hlt1 : w.heap.size + 1 < w1.heap.size + 1 := by have := Z1.out.lt; omega
      obtain ⟨-, e0, e1, e2, e3, e4, e5⟩ := H2.out
      simp only at e0 e1 e2 e3 e4 e5
      go_wp2
      refine bodyPost_ret (v := .tuple #[pv ⟨id, born, pa, pb, 1, [(s, q1)]⟩ (some ⟨w1.heap.size + 1, 0, none⟩) 1 1, .int .i64 0]) (by simp [results, Tryd.results8, go_sem, *]) rfl ?_
      rw [HE.out]
      exact ⟨_, 1, 1, rfl, rfl, Nat.le_refl _, by omega, (fun h => by cases h), (six_own O2.out hlt1 _ _ _ _ _ _).weak (by omega), six_below B2.out (by omega) _ _ _ _ _ _⟩
    · have HE : Hid (Pz.new id born pa pb s u n = (Pz.zero, c)) := by
        show _ = _
        unfold Pz.new
        rw [HQ.out.2, if_pos rfl, HQ.out.1, HC.out, if_neg c0]
      have c1 : (c != 0) = true := by simpa using c0
      clear c0
      go_wp2
      exact bodyPost_ret (v := .tuple #[.agg #[.int .i64 0, .int .i64 0, .int .i64 0, .int .i64 0, .int .i64 0, .slice none 0 0], .int .i64 c]) (by simp [results, Tryd.results8, go_sem, *]) rfl (nzOwn.bad HE.out (six_below B2.out (by omega) _ _ _ _ _ _))
  · have HE : Hid (Pz.new id born pa pb s u n = (Pz.zero, q2)) := by
      show _ = _
      unfold Pz.new
      rw [HQ.out.2, if_neg h2]
    have h21 : (q2 != 0) = true := by simpa using h2
    go_enter Tryd.func8, Tryd.ntmps8
    go_wp2_with fail
    refine (zqFirst s u n q1 q2 _ (HL.out.below HB0.out) HQ.out.1 HQ.out.2).mono ?_
    rw [if_neg h2, if_neg h2]
    rintro e w1 ⟨rfl, hb⟩
    have Z1 : Hid (Z6 w1 (w.heap.size + 1)) := HZ.out.below hb
    have B1 : Hid (Below w.heap.size w w1) := below_on HB0.out (Nat.le_refl _) hb
    obtain ⟨-, z0, z1, z2, z3, z4, z5, g⟩ := Z1.out
    have g0 := g 0
    have g1 := g 1
    have g2 := g 2
    have g3 := g 3
    have g4 := g 4
    have g5 := g 5
    clear hb g h2
    have gl := Z1.out.lt
    go_wp2
    refine bodyPost_ret (v := .tuple #[.agg #[.int .i64 0, .int .i64 0, .int .i64 0, .int .i64 0, .int .i64 0, .slice none 0 0], .int .i64 q2]) (by simp [results, Tryd.results8, go_sem, *]) rfl ?_
    have B6 := six_below B1.out (by omega : w.heap.size ≤ w.heap.size + 1) (.int .i64 0) (.int .i64 0) (.int .i64 0) (.int .i64 0) (.int .i64 0) (.slice none 0 0)
    exact nzOwn.bad HE.out (below_on B6 (Nat.le_refl _) (below_box (six w1 (w.heap.size + 1) (.int .i64 0) (.int .i64 0) (.int .i64 0) (.int .i64 0) (.int .i64 0) (.slice none 0 0)) (.cells #[.int .i64 0, .int .i64 0] 47)))
end Go.Proofs.YtandlmnbnjkklaaDoor
