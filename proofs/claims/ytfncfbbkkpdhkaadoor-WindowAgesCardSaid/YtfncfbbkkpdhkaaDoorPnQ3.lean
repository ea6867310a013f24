/- The program's persons: windows of classes. -/
import Derived.Test.YtfncfbbkkpdhkaaDoorPnQ2
namespace Go.Proofs.YtfncfbbkkpdhkaaDoor
open Go.RowKit

theorem Prs.tns_mono {s f g : Int} (hs : ¬ Prs.bad s) (h0 : 0 ≤ f) (hfg : f ≤ g) (hg : Prs.tns s g ≠ 0) : Prs.tns s f ≠ 0 ∧ Prs.tns s f ≤ Prs.tns s g ∧ 1 ≤ Prs.tns s f ∧ Prs.tns s g ≤ 3652059 := by
  obtain ⟨y, m, d, hd, hn⟩ := Prs.date_of hs
  rw [Prs.tns_is hd hn] at hg ⊢
  rw [Prs.tns_is hd hn]
  obtain ⟨h1, h2, -⟩ := Prs.tn_mono y m d f y m d g hd hd h0 hfg (Int.le_refl _) hg
  have h3 := Prs.tn_in y m d f hd h0
  have h4 := Prs.tn_in y m d g hd (by omega)
  exact ⟨h1, h2, by omega, by omega⟩
/-- what Window reads while it works: the class's box, the answer's box -/
structure WSt (w : World) (x y z : Value) (W : World) : Prop where
  c0 : W.cell? ⟨w.heap.size, 0, none⟩ = some x
  c1 : W.cell? ⟨w.heap.size, 1, none⟩ = some y
  c2 : W.cell? ⟨w.heap.size, 2, none⟩ = some z
  r0 : W.cell? ⟨w.heap.size + 1, 0, none⟩ = some (.int .i64 0)
  r1 : W.cell? ⟨w.heap.size + 1, 1, none⟩ = some (.int .i64 0)
  f0 : W.frozen? ⟨w.heap.size + 1, 0, none⟩ = false
  f1 : W.frozen? ⟨w.heap.size + 1, 1, none⟩ = false
  lt : w.heap.size + 1 < W.heap.size
  b : Below w.heap.size w W
theorem WSt.new (w : World) (x y z : Value) (t t' : TypeId) : WSt w x y z ((w.alloc (.cells #[x, y, z] t)).alloc (.cells #[.int .i64 0, .int .i64 0] t')) := by
  have h0 : ((w.alloc (.cells #[x, y, z] t)).alloc (.cells #[.int .i64 0, .int .i64 0] t')).cell? ⟨(w.alloc (.cells #[x, y, z] t)).heap.size, 0, none⟩ = some (.int .i64 0) := by simp
  have h1 : ((w.alloc (.cells #[x, y, z] t)).alloc (.cells #[.int .i64 0, .int .i64 0] t')).cell? ⟨(w.alloc (.cells #[x, y, z] t)).heap.size, 1, none⟩ = some (.int .i64 0) := by simp
  have h2 : ((w.alloc (.cells #[x, y, z] t)).alloc (.cells #[.int .i64 0, .int .i64 0] t')).frozen? ⟨(w.alloc (.cells #[x, y, z] t)).heap.size, 0, none⟩ = false := by simp
  have h3 : ((w.alloc (.cells #[x, y, z] t)).alloc (.cells #[.int .i64 0, .int .i64 0] t')).frozen? ⟨(w.alloc (.cells #[x, y, z] t)).heap.size, 1, none⟩ = false := by simp
  rw [World.size_alloc] at h0 h1 h2 h3
  have hlt : w.heap.size < (w.alloc (.cells #[x, y, z] t)).heap.size := by simp
  refine ⟨(World.cell?_alloc_past _ _ _ hlt).trans (by simp), (World.cell?_alloc_past _ _ _ hlt).trans (by simp), (World.cell?_alloc_past _ _ _ hlt).trans (by simp), h0, h1, h2, h3, by simp, (below_box w _).alloc (by simp) _⟩
theorem WSt.on {w W W' : World} {x y z : Value} (h : WSt w x y z W) (hb : Below W.heap.size W W') : WSt w x y z W' := by
  have h1 := h.lt
  obtain ⟨k0, k1⟩ := bcell hb
  exact ⟨(k0 _ _ (by omega)).trans h.c0, (k0 _ _ (by omega)).trans h.c1, (k0 _ _ (by omega)).trans h.c2, (k0 _ _ h1).trans h.r0, (k0 _ _ h1).trans h.r1, (k1 _ _ h1).trans h.f0, (k1 _ _ h1).trans h.f1, Nat.lt_of_lt_of_le h1 hb.size, below_on h.b (Nat.le_refl _) hb⟩
theorem WSt.fin {w W : World} {x y z : Value} (h : WSt w x y z W) (u v : Value) :
    ((W.setCell ⟨w.heap.size + 1, 0, none⟩ u).setCell ⟨w.heap.size + 1, 1, none⟩ v).cell? ⟨w.heap.size + 1, 0, none⟩ = some u ∧ ((W.setCell ⟨w.heap.size + 1, 0, none⟩ u).setCell ⟨w.heap.size + 1, 1, none⟩ v).cell? ⟨w.heap.size + 1, 1, none⟩ = some v ∧
    Below w.heap.size w ((W.setCell ⟨w.heap.size + 1, 0, none⟩ u).setCell ⟨w.heap.size + 1, 1, none⟩ v) := by
  have e1 : (W.setCell ⟨w.heap.size + 1, 0, none⟩ u).cell? ⟨w.heap.size + 1, 1, none⟩ = some (.int .i64 0) := (World.cell?_setCell_other _ _ _ _ (fun e => by cases e)).trans h.r1
  refine ⟨?_, World.cell?_setCell_same _ _ _ e1, (h.b.setCell (show w.heap.size ≤ w.heap.size + 1 by omega) _).setCell (show w.heap.size ≤ w.heap.size + 1 by omega) _⟩
  exact (World.cell?_setCell_other _ _ _ _ (fun e => by cases e)).trans (World.cell?_setCell_same _ _ _ h.r0)
set_option maxRecDepth 100000 in
set_option maxHeartbeats 2000000 in
theorem pWindow_at (s f t p X Y E : Int) (w : World) (hw : Laid w) (hx : Prs.winF s ⟨f, t, p⟩ = X) (hy : Prs.winT s ⟨f, t, p⟩ = Y) (he : Prs.winE s ⟨f, t, p⟩ = E) :
    Calls Tryd.prog 9 #[.int .i64 s, .agg #[.int .i64 f, .int .i64 t, .int .i64 p]] w fun e w' => e = .returned (.tuple #[.agg #[.int .i64 X, .int .i64 Y], .int .i64 E]) ∧ Below w.heap.size w w' := by
  by_cases hb : Prs.bad s
  · have e0 : Prs.winE s ⟨f, t, p⟩ = 3 := by unfold Prs.winE; rw [if_pos (.inl hb)]
    have e1 : Prs.winF s ⟨f, t, p⟩ = 0 := by unfold Prs.winF; rw [if_neg (by rw [e0]; decide)]
    have e2 : Prs.winT s ⟨f, t, p⟩ = 0 := by unfold Prs.winT; rw [if_neg (by rw [e0]; decide)]
    obtain rfl : X = 0 := hx.symm.trans e1
    obtain rfl : Y = 0 := hy.symm.trans e2
    obtain rfl : E = 3 := he.symm.trans e0
    have HB : Hid (decide (¬ Prs.bad s) = false) := decide_eq_false (fun q => q hb)
    clear hb e0 e1 e2 hx hy he hw
    go_enter Tryd.func9, Tryd.ntmps9
    go_wp2_with fail
    refine (qday_is s _ _ HB.out).mono ?_; rintro e w1 ⟨rfl, rfl⟩
    have HW : Hid (WSt w _ _ _ _) := WSt.new w (.int .i64 f) (.int .i64 t) (.int .i64 p) 23 29
    go_wp2
    exact bodyPost_ret (v := .tuple #[.agg #[.int .i64 0, .int .i64 0], .int .i64 3]) (by simp [results, Tryd.results9, go_sem]) rfl ⟨rfl, HW.out.b⟩
  · have HB : Hid (decide (¬ Prs.bad s) = true) := decide_eq_true hb
    by_cases hc : Prs.Kl.bad ⟨f, t, p⟩
    · have e0 : Prs.winE s ⟨f, t, p⟩ = 3 := by unfold Prs.winE; rw [if_pos (.inr hc)]
      have e1 : Prs.winF s ⟨f, t, p⟩ = 0 := by unfold Prs.winF; rw [if_neg (by rw [e0]; decide)]
      have e2 : Prs.winT s ⟨f, t, p⟩ = 0 := by unfold Prs.winT; rw [if_neg (by rw [e0]; decide)]
      obtain rfl : X = 0 := hx.symm.trans e1
      obtain rfl : Y = 0 := hy.symm.trans e2
      obtain rfl : E = 3 := he.symm.trans e0
      have HK : Hid (decide (¬ Prs.Kl.bad ⟨f, t, p⟩) = false) := decide_eq_false (fun q => q hc)
      have HW : Hid (WSt w _ _ _ _) := WSt.new w (.int .i64 f) (.int .i64 t) (.int .i64 p) 23 29
      clear hb hc e0 e1 e2 hx hy he hw
      go_enter Tryd.func9, Tryd.ntmps9
      go_wp2_with fail
      refine (qday_is s _ _ HB.out).mono ?_; rintro e w1 ⟨rfl, rfl⟩
      go_wp2_with fail
      refine (isClass_is f t p _ _ HK.out).mono ?_; rintro e w1 ⟨rfl, hb⟩
      have W1 : Hid (WSt w _ _ _ w1) := HW.out.on hb
      have r0 := W1.out.r0
      have r1 := W1.out.r1
      have f0 := W1.out.f0
      have f1 := W1.out.f1
      have HF : Hid (_) := W1.out.fin (.int .i64 0) (.int .i64 0)
      have g0 := HF.out.1
      have g1 := HF.out.2.1
      have e1 : (w1.setCell ⟨w.heap.size + 1, 0, none⟩ (.int .i64 0)).cell? ⟨w.heap.size + 1, 1, none⟩ = some (.int .i64 0) := (World.cell?_setCell_other _ _ _ _ (fun e => by cases e)).trans r1
      have e2 : (w1.setCell ⟨w.heap.size + 1, 0, none⟩ (.int .i64 0)).frozen? ⟨w.heap.size + 1, 1, none⟩ = false := by rw [World.frozen?_setCell]; exact f1
      clear hb
      go_wp2
      exact bodyPost_ret (v := .tuple #[.agg #[.int .i64 0, .int .i64 0], .int .i64 3]) (by simp [results, Tryd.results9, go_sem, *]) rfl ⟨rfl, HF.out.2.2⟩
    · have HN : Hid (¬ Prs.bad s) := hb
      have HK : Hid (decide (¬ Prs.Kl.bad ⟨f, t, p⟩) = true) := decide_eq_true hc
      have g : 0 ≤ f ∧ f ≤ t ∧ t ≤ 149 := by unfold Prs.Kl.bad at hc; simp only at hc; omega
      obtain ⟨g1, g2, g3⟩ := g
      have HW : Hid (WSt w _ _ _ _) := WSt.new w (.int .i64 f) (.int .i64 t) (.int .i64 p) 23 29
      have HL : Hid (Laid w) := hw
      obtain ⟨F, hF⟩ : ∃ F, Prs.tns s f = F := ⟨_, rfl⟩
      obtain ⟨T, hT⟩ : ∃ T, Prs.tns s (t + 1) = T := ⟨_, rfl⟩
      have HFE : Hid (Prs.tns s f = F) := hF
      have HTE : Hid (Prs.tns s (t + 1) = T) := hT
      have ew : Prs.winE s ⟨f, t, p⟩ = if T = 0 then 8 else 0 := by
        unfold Prs.winE
        rw [if_neg (fun q => q.elim hb hc)]
        show (if Prs.tns s (t + 1) = 0 then (8 : Int) else 0) = _
        rw [hT]
      by_cases hT0 : T = 0
      · subst hT0
        rw [if_pos rfl] at ew
        have e1 : Prs.winF s ⟨f, t, p⟩ = 0 := by unfold Prs.winF; rw [if_neg (by rw [ew]; decide)]
        have e2 : Prs.winT s ⟨f, t, p⟩ = 0 := by unfold Prs.winT; rw [if_neg (by rw [ew]; decide)]
        obtain rfl : X = 0 := hx.symm.trans e1
        obtain rfl : Y = 0 := hy.symm.trans e2
        obtain rfl : E = 8 := he.symm.trans ew
        clear hb hc ew e1 e2 hx hy he hw hF hT
        by_cases hF0 : F = 0
        · subst hF0
          go_enter Tryd.func9, Tryd.ntmps9
          go_wp2_with fail
          refine (qday_is s _ _ HB.out).mono ?_; rintro e w1 ⟨rfl, rfl⟩
          go_wp2_with fail
          refine (isClass_is f t p _ _ HK.out).mono ?_; rintro e w1 ⟨rfl, hb⟩
          have W1 : Hid (WSt w _ _ _ w1) := HW.out.on hb
          have k0 := W1.out.c0
          clear hb
          go_wp2_with fail
          refine (turned_is s f 0 8 _ (HL.out.below W1.out.b) HN.out g1 (by omega) HFE.out rfl).mono ?_; rintro e w2 ⟨rfl, hb⟩
          have W2 : Hid (WSt w _ _ _ w2) := W1.out.on hb
          have r0 := W2.out.r0
          have r1 := W2.out.r1
          have f0 := W2.out.f0
          have f1 := W2.out.f1
          have HF : Hid (_) := W2.out.fin (.int .i64 0) (.int .i64 0)
          have g0 := HF.out.1
          have g1 := HF.out.2.1
          have e1 : (w2.setCell ⟨w.heap.size + 1, 0, none⟩ (.int .i64 0)).cell? ⟨w.heap.size + 1, 1, none⟩ = some (.int .i64 0) := (World.cell?_setCell_other _ _ _ _ (fun e => by cases e)).trans r1
          have e2 : (w2.setCell ⟨w.heap.size + 1, 0, none⟩ (.int .i64 0)).frozen? ⟨w.heap.size + 1, 1, none⟩ = false := by rw [World.frozen?_setCell]; exact f1
          clear hb k0
          go_wp2
          exact bodyPost_ret (v := .tuple #[.agg #[.int .i64 0, .int .i64 0], .int .i64 8]) (by simp [results, Tryd.results9, go_sem, *]) rfl ⟨rfl, HF.out.2.2⟩
        · have HF8 : Hid (Trm.over F = 0) := by show _ = _; unfold Trm.over; rw [if_neg hF0]
          clear hF0
          go_enter Tryd.func9, Tryd.ntmps9
          go_wp2_with fail
          refine (qday_is s _ _ HB.out).mono ?_; rintro e w1 ⟨rfl, rfl⟩
          go_wp2_with fail
          refine (isClass_is f t p _ _ HK.out).mono ?_; rintro e w1 ⟨rfl, hb⟩
          have W1 : Hid (WSt w _ _ _ w1) := HW.out.on hb
          have k0 := W1.out.c0
          clear hb
          go_wp2_with fail
          refine (turned_is s f F 0 _ (HL.out.below W1.out.b) HN.out g1 (by omega) HFE.out HF8.out).mono ?_; rintro e w2 ⟨rfl, hb⟩
          have W2 : Hid (WSt w _ _ _ w2) := W1.out.on hb
          have k1 := W2.out.c1
          clear hb k0
          go_wp2_with fail
          refine (turned_is s (t + 1) 0 8 _ (HL.out.below W2.out.b) HN.out (by omega) (by omega) HTE.out rfl).mono ?_; rintro e w3 ⟨rfl, hb⟩
          have W3 : Hid (WSt w _ _ _ w3) := W2.out.on hb
          have r0 := W3.out.r0
          have r1 := W3.out.r1
          have f0 := W3.out.f0
          have f1 := W3.out.f1
          have HF : Hid (_) := W3.out.fin (.int .i64 0) (.int .i64 0)
          have g0 := HF.out.1
          have g1 := HF.out.2.1
          have e1 : (w3.setCell ⟨w.heap.size + 1, 0, none⟩ (.int .i64 0)).cell? ⟨w.heap.size + 1, 1, none⟩ = some (.int .i64 0) := (World.cell?_setCell_other _ _ _ _ (fun e => by cases e)).trans r1
          have e2 : (w3.setCell ⟨w.heap.size + 1, 0, none⟩ (.int .i64 0)).frozen? ⟨w.heap.size + 1, 1, none⟩ = false := by rw [World.frozen?_setCell]; exact f1
          clear hb k1
          go_wp2
          exact bodyPost_ret (v := .tuple #[.agg #[.int .i64 0, .int .i64 0], .int .i64 8]) (by simp [results, Tryd.results9, go_sem, *]) rfl ⟨rfl, HF.out.2.2⟩
      · rw [if_neg hT0] at ew
        have e1 : Prs.winF s ⟨f, t, p⟩ = F := by unfold Prs.winF; rw [if_pos ew]; exact hF
        have e2 : Prs.winT s ⟨f, t, p⟩ = T := by unfold Prs.winT; rw [if_pos ew]; exact hT
        obtain rfl : X = F := hx.symm.trans e1
        obtain rfl : Y = T := hy.symm.trans e2
        obtain rfl : E = 0 := he.symm.trans ew
        have hm := Prs.tns_mono hb g1 (show f ≤ t + 1 by omega) (by rw [hT]; exact hT0)
        rw [hF, hT] at hm
        have HF8 : Hid (Trm.over X = 0) := by show _ = _; unfold Trm.over; rw [if_neg hm.1]
        have HT8 : Hid (Trm.over Y = 0) := by show _ = _; unfold Trm.over; rw [if_neg hT0]
        clear hb hc ew e1 e2 hx hy he hw hF hT hm hT0
        go_enter Tryd.func9, Tryd.ntmps9
        go_wp2_with fail
        refine (qday_is s _ _ HB.out).mono ?_; rintro e w1 ⟨rfl, rfl⟩
        go_wp2_with fail
        refine (isClass_is f t p _ _ HK.out).mono ?_; rintro e w1 ⟨rfl, hb⟩
        have W1 : Hid (WSt w _ _ _ w1) := HW.out.on hb
        have k0 := W1.out.c0
        clear hb
        go_wp2_with fail
        refine (turned_is s f X 0 _ (HL.out.below W1.out.b) HN.out g1 (by omega) HFE.out HF8.out).mono ?_; rintro e w2 ⟨rfl, hb⟩
        have W2 : Hid (WSt w _ _ _ w2) := W1.out.on hb
        have k1 := W2.out.c1
        clear hb k0
        go_wp2_with fail
        refine (turned_is s (t + 1) Y 0 _ (HL.out.below W2.out.b) HN.out (by omega) (by omega) HTE.out HT8.out).mono ?_; rintro e w3 ⟨rfl, hb⟩
        have W3 : Hid (WSt w _ _ _ w3) := W2.out.on hb
        have r0 := W3.out.r0
        have r1 := W3.out.r1
        have f0 := W3.out.f0
        have f1 := W3.out.f1
        have HF : Hid (_) := W3.out.fin (.int .i64 X) (.int .i64 Y)
        have g0 := HF.out.1
        have g1 := HF.out.2.1
        have e1 : (w3.setCell ⟨w.heap.size + 1, 0, none⟩ (.int .i64 X)).cell? ⟨w.heap.size + 1, 1, none⟩ = some (.int .i64 0) := (World.cell?_setCell_other _ _ _ _ (fun e => by cases e)).trans r1
        have e2 : (w3.setCell ⟨w.heap.size + 1, 0, none⟩ (.int .i64 X)).frozen? ⟨w.heap.size + 1, 1, none⟩ = false := by rw [World.frozen?_setCell]; exact f1
        clear hb k1
        go_wp2
        exact bodyPost_ret (v := .tuple #[.agg #[.int .i64 X, .int .i64 Y], .int .i64 0]) (by simp [results, Tryd.results9, go_sem, *]) rfl ⟨rfl, HF.out.2.2⟩
end Go.Proofs.YtfncfbbkkpdhkaaDoor
