/- The reference's persons: windows. -/
import Derived.Test.YtfncfbbkkpdhkaaDoorPnRef2
import Derived.Deep.RegionHeld3
namespace Go.Proofs.YtfncfbbkkpdhkaaDoor
open Go.RowKit

structure TI (W0 : World) (B : Nat) (W : World) : Prop where
  below : Below W0.heap.size W0 W
  lt : B < W0.heap.size
theorem TI.on {W0 W W' : World} {B : Nat} (h : TI W0 B W) (hb : Below W.heap.size W W') : TI W0 B W' := ⟨below_on h.below (Nat.le_refl _) hb, h.lt⟩
theorem TI.box {W0 W : World} {B : Nat} (h : Hid (TI W0 B W)) (o : Obj) : Hid (TI W0 B (W.alloc o)) := TI.on h.out (below_box _ _)
theorem TI.set {W0 W : World} {B b : Nat} (h : TI W0 B W) (hb : W0.heap.size ≤ b) (o : Nat) (u : Value) : TI W0 B (W.setCell ⟨b, o, none⟩ u) := ⟨h.below.setCell hb u, h.lt⟩
theorem TI.set2 {W0 W : World} {B b : Nat} {x y : Value} (h : Hid (TI W0 B W)) (hb : W0.heap.size ≤ b) : Hid (TI W0 B ((W.setCell ⟨b, 0, none⟩ x).setCell ⟨b, 1, none⟩ y)) := TI.set (TI.set h.out hb 0 x) hb 1 y
theorem TI.S {W0 W : World} {B : Nat} {u n : Value} (h : Hid (TI W0 B W)) (c : Hid (W0.cell? ⟨B, 0, none⟩ = some u ∧ W0.cell? ⟨B, 1, none⟩ = some n)) : W.cell? ⟨B, 0, none⟩ = some u ∧ W.cell? ⟨B, 1, none⟩ = some n ∧ Hid (TI W0 B W) :=
  ⟨by rw [(bcell h.out.below).1 B 0 h.out.lt]; exact c.out.1, by rw [(bcell h.out.below).1 B 1 h.out.lt]; exact c.out.2, h⟩
theorem TI.res {W0 W : World} {B b : Nat} {u n : Value} (h : Hid (TI W0 B W)) (c : Hid (W0.cell? ⟨b, 0, none⟩ = some u ∧ W0.cell? ⟨b, 1, none⟩ = some n ∧ W0.frozen? ⟨b, 0, none⟩ = false ∧ W0.frozen? ⟨b, 1, none⟩ = false ∧ b < W0.heap.size)) :
    W.cell? ⟨b, 0, none⟩ = some u ∧ W.cell? ⟨b, 1, none⟩ = some n ∧ W.frozen? ⟨b, 0, none⟩ = false ∧ W.frozen? ⟨b, 1, none⟩ = false := by
  obtain ⟨c0, c1, c2, c3, c4⟩ := c.out
  obtain ⟨k0, k1⟩ := bcell h.out.below
  exact ⟨(k0 b 0 c4).trans c0, (k0 b 1 c4).trans c1, (k1 b 0 c4).trans c2, (k1 b 1 c4).trans c3⟩
theorem turn_inv (s a v : Int) (u n : Value) (W0 W : World) (B : Nat) (hI : TI W0 B W) (hs : ¬ Prs.bad s) (ha : 0 ≤ a) (ha2 : a ≤ 10000) (ht : Prs.tns s a = v)
    (c0 : W0.cell? ⟨B, 0, none⟩ = some u) (c1 : W0.cell? ⟨B, 1, none⟩ = some n) :
    Calls Tryd.prog 24 #[.int .i64 s, .int .i64 a] W fun e w' => e = .returned (.int .i64 v) ∧ w'.cell? ⟨B, 0, none⟩ = some u ∧ w'.cell? ⟨B, 1, none⟩ = some n ∧ Hid (TI W0 B w') ∧
      (∀ b o, b < W.heap.size → w'.cell? ⟨b, o, none⟩ = W.cell? ⟨b, o, none⟩) ∧ (∀ b o, b < W.heap.size → w'.frozen? ⟨b, o, none⟩ = W.frozen? ⟨b, o, none⟩) ∧ W0.heap.size ≤ w'.heap.size ∧ W.heap.size ≤ w'.heap.size :=
  (turnDay_of s a v W hs ha ha2 ht).mono fun _ _ h => ⟨h.1, (TI.S (hI.on h.2) ⟨c0, c1⟩).1, (TI.S (hI.on h.2) ⟨c0, c1⟩).2.1, hI.on h.2, (bcell h.2).1, (bcell h.2).2, Nat.le_trans hI.below.size h.2.size, h.2.size⟩
set_option maxRecDepth 100000 in
set_option maxHeartbeats 4000000 in
theorem windowOf_any (s : Int) (c : Prs.Kl) (w : World) :
    Calls Tryd.prog 13 #[.int .i64 s, .agg #[.int .i64 c.f, .int .i64 c.t, .int .i64 c.p]] w fun e w' => e = .returned (.tuple #[.agg #[.int .i64 (Prs.winF s c), .int .i64 (Prs.winT s c)], .int .i64 (Prs.winE s c)]) ∧ Below w.heap.size w w' := by
  obtain ⟨f, t, p⟩ := c
  by_cases hb : Prs.bad s
  · have e0 : Prs.winE s ⟨f, t, p⟩ = 3 := by unfold Prs.winE; rw [if_pos (.inl hb)]
    have e1 : Prs.winF s ⟨f, t, p⟩ = 0 := by unfold Prs.winF; rw [if_neg (by rw [e0]; decide)]
    have e2 : Prs.winT s ⟨f, t, p⟩ = 0 := by unfold Prs.winT; rw [if_neg (by rw [e0]; decide)]
    rw [e0, e1, e2]
    have HB : Hid (decide (Prs.bad s) = true) := decide_eq_true hb
    clear hb e0 e1 e2
    go_enter Tryd.func13, Tryd.ntmps13
    go_wp2_with (go_at_call 22; refine (noDay_is _ true _ HB.out).mono ?_; rintro e w' ⟨rfl, rfl⟩)
    exact bodyPost_ret (v := .tuple #[.agg #[.int .i64 0, .int .i64 0], .int .i64 3]) (by simp [results, Tryd.results13, go_sem]) rfl ⟨rfl, (below_box _ _).alloc (by simp) _⟩
  have HB : Hid (decide (Prs.bad s) = false) := decide_eq_false hb
  by_cases hc : Prs.Kl.bad ⟨f, t, p⟩
  · have e0 : Prs.winE s ⟨f, t, p⟩ = 3 := by unfold Prs.winE; rw [if_pos (.inr hc)]
    have e1 : Prs.winF s ⟨f, t, p⟩ = 0 := by unfold Prs.winF; rw [if_neg (by rw [e0]; decide)]
    have e2 : Prs.winT s ⟨f, t, p⟩ = 0 := by unfold Prs.winT; rw [if_neg (by rw [e0]; decide)]
    rw [e0, e1, e2]
    unfold Prs.Kl.bad at hc
    simp only at hc ⊢
    clear hb e0 e1 e2
    have h5 : f < 0 ∨ (0 ≤ f ∧ t < f) ∨ (0 ≤ f ∧ f ≤ t ∧ 149 < t) ∨ (0 ≤ f ∧ f ≤ t ∧ t ≤ 149 ∧ p < 0) ∨ (0 ≤ f ∧ f ≤ t ∧ t ≤ 149 ∧ 0 ≤ p ∧ 100 < p) := by omega
    clear hc
    rcases h5 with h1 | ⟨h1, h2⟩ | ⟨h1, h2, h3⟩ | ⟨h1, h2, h3, h4⟩ | ⟨h1, h2, h3, h4, h5⟩
    all_goals
      go_enter Tryd.func13, Tryd.ntmps13
      go_wp2_with (go_at_call 22; refine (noDay_is _ false _ HB.out).mono ?_; rintro e w' ⟨rfl, rfl⟩)
      exact bodyPost_ret (v := .tuple #[.agg #[.int .i64 0, .int .i64 0], .int .i64 3]) (by simp [results, Tryd.results13, go_sem]) rfl ⟨rfl, (below_box _ _).alloc (by simp) _⟩
  have HN : Hid (¬ Prs.bad s) := hb
  have g : (0 ≤ f ∧ f ≤ t ∧ t ≤ 149) ∧ (0 ≤ p ∧ p ≤ 100) := by unfold Prs.Kl.bad at hc; simp only at hc; omega
  obtain ⟨⟨g1, g2, g3⟩, g4, g5⟩ := g
  obtain ⟨T, hT⟩ : ∃ T, Prs.tns s (t + 1) = T := ⟨_, rfl⟩
  obtain ⟨F, hF⟩ : ∃ F, Prs.tns s f = F := ⟨_, rfl⟩
  have HT : Hid (Prs.tns s (t + 1) = T) := hT
  have HF : Hid (Prs.tns s f = F) := hF
  have HE : Hid ((T = 0 ∧ Prs.winE s ⟨f, t, p⟩ = 8 ∧ Prs.winF s ⟨f, t, p⟩ = 0 ∧ Prs.winT s ⟨f, t, p⟩ = 0) ∨ (¬ T = 0 ∧ Prs.winE s ⟨f, t, p⟩ = 0 ∧ F = Prs.winF s ⟨f, t, p⟩ ∧ T = Prs.winT s ⟨f, t, p⟩)) := by
    by_cases h0 : T = 0
    · have e0 : Prs.winE s ⟨f, t, p⟩ = 8 := by unfold Prs.winE; rw [if_neg (fun e => e.elim hb hc), if_pos (hT.trans h0)]
      exact .inl ⟨h0, e0, by unfold Prs.winF; rw [if_neg (by rw [e0]; decide)], by unfold Prs.winT; rw [if_neg (by rw [e0]; decide)]⟩
    · have e0 : Prs.winE s ⟨f, t, p⟩ = 0 := by unfold Prs.winE; rw [if_neg (fun e => e.elim hb hc), if_neg (by rw [hT]; exact h0)]
      exact .inr ⟨h0, e0, by unfold Prs.winF; rw [if_pos e0, hF], by unfold Prs.winT; rw [if_pos e0, hT]⟩
  obtain ⟨E, hE⟩ : ∃ E, Prs.winE s ⟨f, t, p⟩ = E := ⟨_, rfl⟩
  obtain ⟨X, hX⟩ : ∃ X, Prs.winF s ⟨f, t, p⟩ = X := ⟨_, rfl⟩
  obtain ⟨Y, hY⟩ : ∃ Y, Prs.winT s ⟨f, t, p⟩ = Y := ⟨_, rfl⟩
  rw [hE, hX, hY] at HE ⊢
  simp only
  clear hb hc hT hF hE hX hY
  obtain ⟨W0, hW0⟩ : ∃ W0, W0 = (w.alloc (.cells #[.int .i64 f, .int .i64 t, .int .i64 p] 23)).alloc (.cells #[.int .i64 0, .int .i64 0] 29) := ⟨_, rfl⟩
  have hz : W0.heap.size = w.heap.size + 2 := by rw [hW0]; simp
  have BL : Hid (w.heap.size < W0.heap.size) := by unfold Hid; omega
  have CR : Hid (W0.cell? ⟨w.heap.size + 1, 0, none⟩ = some (.int .i64 0) ∧ W0.cell? ⟨w.heap.size + 1, 1, none⟩ = some (.int .i64 0) ∧ W0.frozen? ⟨w.heap.size + 1, 0, none⟩ = false ∧ W0.frozen? ⟨w.heap.size + 1, 1, none⟩ = false ∧ w.heap.size + 1 < W0.heap.size) := by unfold Hid; refine ⟨?_, ?_, ?_, ?_, by omega⟩ <;> rw [hW0] <;> simp
  have BW : Hid (Below w.heap.size w W0) := by unfold Hid; rw [hW0]; exact (below_box _ _).alloc (by simp) _
  have CW : Hid (W0.cell? ⟨w.heap.size, 0, none⟩ = some (.int .i64 f) ∧ W0.cell? ⟨w.heap.size, 1, none⟩ = some (.int .i64 t)) := by unfold Hid; rw [hW0]; exact ⟨by simp, by simp⟩
  have HZ : Hid (W0.heap.size = w.heap.size + 2) := hz
  clear hz
  have hw : IntKind.i64.wrap (t + 1) = t + 1 := by rw [IntKind.wrap_i64]; omega
  go_enter Tryd.func13, Tryd.ntmps13
  go_wp2_with (go_at_call 22; refine (noDay_is _ false _ HB.out).mono ?_; rintro e w' ⟨rfl, rfl⟩)
  have HW0 : Hid (((w.alloc (.cells #[.int .i64 f, .int .i64 t, .int .i64 p] 23)).alloc (.cells #[.int .i64 0, .int .i64 0] 29)) = W0) := hW0.symm
  rw [HW0.out]
  clear hW0
  have c0 := CW.out.1
  have c1 := CW.out.2
  have HO : Hid (TI W0 w.heap.size W0) := ⟨Below.refl _ _, BL.out⟩
  have HOd : Hid (TI W0 w.heap.size W0.drew) := TI.on HO.out (below_drewN (Below.refl _ _) 1)
  have hTle : W0.heap.size ≤ W0.heap.size := Nat.le_refl _
  go_region_held3 (fun w' => w'.cell? ⟨w.heap.size, 0, none⟩ = some (.int .i64 f) ∧ w'.cell? ⟨w.heap.size, 1, none⟩ = some (.int .i64 t) ∧ Hid (TI W0 w.heap.size w')) (first | exact TI.S (by assumption) CW | exact TI.S (TI.box (by assumption) _) CW | exact TI.S (TI.set2 (by assumption) (by first | assumption | (simp; omega))) CW)
    ((go_at_call 24; refine (turn_inv s _ _ _ _ W0 _ w.heap.size (Hid.out (by first | assumption | exact TI.box (by assumption) _)) HN.out (by omega) (by omega) rfl CW.out.1 CW.out.2).mono ?_; rintro e w2 ⟨rfl, q0, q1, HO2, hc2, hf2, hz2, hy2⟩; (try simp only [World.size_alloc, World.size_drew] at hy2); (try (have hlt2 : W0.heap.size < w2.heap.size := (by omega)))))
  all_goals
    obtain ⟨-, -, FI⟩ := ‹_ ∧ _ ∧ Hid (TI W0 w.heap.size _)›
    rw [HF.out, HT.out] at FI ⊢
    obtain ⟨r0, r1, r2, r3⟩ := TI.res FI CR
    have BF : Hid (Below w.heap.size w _) := below_on BW.out (Nat.le_refl _) FI.out.below
    obtain ⟨h0, rfl, rfl, rfl⟩ | ⟨h0, rfl, rfl, rfl⟩ := HE.out
    · subst h0
      go_wp2_with fail
      exact bodyPost_ret (v := .tuple #[.agg #[.int .i64 0, .int .i64 0], .int .i64 8]) (by simp [results, Tryd.results13, go_sem, *]) rfl ⟨rfl, by first | exact BF.out | exact (BF.out.setCell (by simp) _).setCell (by simp) _ | exact (BF.out.setCell (by simp) _)⟩
    · have h0' : (T == 0) = false := by simpa using h0
      go_wp2_with fail
      exact bodyPost_ret (v := .tuple #[.agg #[.int .i64 F, .int .i64 T], .int .i64 0]) (by simp [results, Tryd.results13, go_sem, *]) rfl ⟨rfl, by first | exact BF.out | exact (BF.out.setCell (by simp) _).setCell (by simp) _ | exact (BF.out.setCell (by simp) _)⟩
end Go.Proofs.YtfncfbbkkpdhkaaDoor
