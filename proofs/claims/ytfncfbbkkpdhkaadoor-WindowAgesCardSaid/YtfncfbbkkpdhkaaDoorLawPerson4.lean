/- The walk of WindowAges. -/
import Derived.Test.YtfncfbbkkpdhkaaDoorPnBeg
import Derived.Test.YtfncfbbkkpdhkaaDoorPrs2
import Derived.Test.YtfncfbbkkpdhkaaDoorKOwn
import Derived.Laws.StructEq
namespace Go.Proofs.YtfncfbbkkpdhkaaDoor
open Go.RowKit Go.BigFrame

namespace Prs
/-- where a day lies against a class's window, and the age on it against the class -/
theorem wa_cases {s n a e f t p F T : Int} (hw : winE s ⟨f, t, p⟩ = 0) (hF : winF s ⟨f, t, p⟩ = F) (hT : winT s ⟨f, t, p⟩ = T) (h : AgeAns s n a e) :
    (e = 0 ∧ F ≤ n ∧ n < T ∧ f ≤ a ∧ a ≤ t) ∨ (e = 0 ∧ n < F ∧ a < f) ∨ (e = 0 ∧ F ≤ n ∧ T ≤ n ∧ f ≤ a ∧ t < a) ∨ (e = 2 ∧ F ≤ n ∧ T ≤ n) ∨ (e ≠ 0 ∧ e ≠ 2 ∧ n < F) ∨ (e ≠ 0 ∧ e ≠ 2 ∧ F ≤ n ∧ T ≤ n) := by
  obtain ⟨hs, hc, ht⟩ := winE_zero hw
  have e1 : winF s ⟨f, t, p⟩ = tns s f := by unfold winF; rw [if_pos hw]
  have e2 : winT s ⟨f, t, p⟩ = tns s (t + 1) := by unfold winT; rw [if_pos hw]
  rw [e1] at hF
  rw [e2] at hT
  have hcb : 0 ≤ f ∧ f ≤ t ∧ t ≤ 149 := by unfold Kl.bad at hc; simp only at hc; omega
  obtain ⟨c1, c2, c3⟩ := hcb
  simp only at ht
  have hm := tns_mono hs c1 (show f ≤ t + 1 by omega) ht
  rw [hF, hT] at hm
  rcases h with ⟨h1, h2, h3⟩ | ⟨_, _, h1, h2, h3⟩ | ⟨_, _, h3, y, m, d, b, hd, hnum, hag, hres⟩
  · rcases h1 with h1 | h1
    · exact absurd h1 hs
    · unfold bad at h1; omega
  · obtain ⟨y, m, d, hd, hnum⟩ := date_of hs
    have h4 : s ≤ F := by
      have := (tns_mono hs (Int.le_refl 0) c1 (by rw [hF]; exact hm.1)).2.1
      rw [tns_is hd hnum 0, tn_zero y m d hd, hnum, hF] at this
      exact this
    omega
  · rw [tns_is hd hnum] at hF hT ht
    have hb0 := hag.a0
    have hle := hag.le
    have k1 : f ≤ b → F ≤ n := fun q => by
      obtain ⟨_, h5, _⟩ := tn_mono y m d f y m d b hd hd c1 q (Int.le_refl _) hag.ne
      omega
    have k2 : b < f → n < F := fun q => by
      obtain ⟨h4, h5, _⟩ := tn_mono y m d (b + 1) y m d f hd hd (by omega) (by omega) (Int.le_refl _) (by rw [hF]; exact hm.1)
      rcases hag.more with h6 | h6
      · exact absurd h6 h4
      · omega
    have hwin := window hd c1 c2 ht hag
    rw [hF, hT] at hwin
    have k3 : t < b → F ≤ n → T ≤ n := fun q1 q2 => by
      rcases Int.lt_or_le n T with q | q
      · have := hwin.1 ⟨q2, q⟩; omega
      · exact q
    rcases hres with ⟨r1, r2, r3⟩ | ⟨r1, r2, r3⟩
    · have := k1 (by omega)
      have := k3 (by omega) this
      omega
    · subst r2
      rcases Int.lt_or_le a f with q | q
      · have := k2 q; omega
      · have h7 := k1 q
        rcases Int.lt_or_le t a with q2 | q2
        · have := k3 q2 h7; omega
        · have := hwin.2 ⟨q, q2⟩; omega
end Prs
theorem pPercent_at (s : Int) (l : List Prs.Kl) (a : Option Addr) (N cap : Nat) (n X E : Int) (w : World) (hN : l.length = N) (hw : Laid w) (hl : N ≤ maxLen) (hr : RowK w a l) (h : Prs.PctAns s l n X E) :
    Calls Tryd.prog 10 #[.int .i64 s, .slice a N cap, .int .i64 n] w fun e w' => e = .returned (.tuple #[.int .i64 X, .int .i64 E]) ∧ Below w.heap.size w w' := by
  subst hN; exact pPercent_any s l a cap n X E w hw hl hr h
/-- a span's box -/
def S2 (w : World) (b : Nat) (x y : Int) : Prop := b < w.heap.size ∧ w.cell? ⟨b, 0, none⟩ = some (.int .i64 x) ∧ w.cell? ⟨b, 1, none⟩ = some (.int .i64 y)
theorem S2.new (w : World) (x y : Int) (t : Nat) : S2 (w.alloc (.cells #[.int .i64 x, .int .i64 y] t)) w.heap.size x y := ⟨by simp, by simp, by simp⟩
theorem S2.below {w w' : World} {b : Nat} {x y : Int} (h : S2 w b x y) (hb : Below w.heap.size w w') : S2 w' b x y := ⟨Nat.lt_of_lt_of_le h.1 hb.size, ((bcell hb).1 b 0 h.1).trans h.2.1, ((bcell hb).1 b 1 h.1).trans h.2.2⟩
set_option maxRecDepth 100000 in
set_option maxHeartbeats 16000000 in
theorem windowAges_any (born f t p n : Int) (l : List Prs.Kl) (a : Option Addr) (cap : Nat) (w : World) (hw : Laid w) (hz : l.length * 24 ≤ 140737488351232) (hn : a = none → cap = 0 ∧ l = []) (hr : RowK w a l) :
    Calls Tryd.prog 6 #[.int .i64 born, .agg #[.int .i64 f, .int .i64 t, .int .i64 p], .int .i64 n, .slice a l.length cap] w fun e w' => e = .returned (.bool true) ∧ Below w.heap.size w w' := by
  obtain ⟨F, hF⟩ : ∃ v, Prs.winF born ⟨f, t, p⟩ = v := ⟨_, rfl⟩
  obtain ⟨T, hT⟩ : ∃ v, Prs.winT born ⟨f, t, p⟩ = v := ⟨_, rfl⟩
  obtain ⟨we, hE⟩ : ∃ v, Prs.winE born ⟨f, t, p⟩ = v := ⟨_, rfl⟩
  have HWN : Hid (Prs.winF born ⟨f, t, p⟩ = F ∧ Prs.winT born ⟨f, t, p⟩ = T ∧ Prs.winE born ⟨f, t, p⟩ = we) := ⟨hF, hT, hE⟩
  obtain ⟨N, hN⟩ : ∃ N, l.length = N := ⟨_, rfl⟩
  have HN : Hid (l.length = N) := hN
  rw [hN] at hz ⊢
  have B0 : Hid (Below w.heap.size w (w.alloc (.cells #[.int .i64 f, .int .i64 t, .int .i64 p] 23))) := below_box w _
  have LY0 : Hid (Laid (w.alloc (.cells #[.int .i64 f, .int .i64 t, .int .i64 p] 23))) := hw.below B0.out
  have R0 : Hid (RowK (w.alloc (.cells #[.int .i64 f, .int .i64 t, .int .i64 p] 23)) a l) := hr.below B0.out
  have C0 : Hid (Has3 (w.alloc (.cells #[.int .i64 f, .int .i64 t, .int .i64 p] 23)) w.heap.size f t p) := Has3.new w f t p 23
  have HNA : Hid (a = none → N = 0 ∧ cap = 0) := fun e => ⟨by rw [← hN, (hn e).2]; rfl, (hn e).1⟩
  by_cases e0 : we = 0
  · subst e0
    obtain ⟨x, e, hx⟩ := Prs.age_ex born n
    obtain ⟨P, G, hP⟩ := Prs.pct_ex born l n
    obtain ⟨Q, H, hQ⟩ := Prs.pct_ex born (l ++ [⟨f, t, p⟩]) n
    have HX : Hid (Prs.AgeAns born n x e) := hx
    have HP : Hid (Prs.PctAns born l n P G) := hP
    have HQ : Hid (Prs.PctAns born (l ++ [⟨f, t, p⟩]) n Q H) := hQ
    have HN1 : Hid ((l ++ [(⟨f, t, p⟩ : Prs.Kl)]).length = N + 1) := by show _ = _; rw [List.length_append, hN]; rfl
    have HOP : Hid (∀ u ∈ [Value.int .i64 f, .int .i64 t, .int .i64 p], u.oneCell' = true) := by intro u hu; simp at hu; rcases hu with rfl | rfl | rfl <;> rfl
    have HMO : Hid (G = 0 → H = 0 → P ≤ Q ∧ (F ≤ n ∧ n < T → p ≤ Q) ∧ (¬ (F ≤ n ∧ n < T) → Q = P)) := by
      intro g0 h0
      subst g0 h0
      have := Prs.pct_more hE hP hQ
      unfold Prs.inW at this
      rw [hF, hT] at this
      exact this
    obtain ⟨i0, hi0, hi1, hi2, hi3⟩ := infoK
    have HI : Hid (Tryd.prog.info? 23 = some i0 ∧ i0.zero = some (.agg #[.int .i64 0, .int .i64 0, .int .i64 0]) ∧ i0.size = 3 ∧ i0.bytes = 24) := ⟨hi0, hi1, hi2, hi3⟩
    have hcs := Prs.wa_cases hE hF hT hx
    clear hF hT hE hN hw hn hr hx hP hQ hi0 hi1 hi2 hi3
    rcases hcs with ⟨rfl, q1, q2, q3, q4⟩ | ⟨rfl, q1, q2⟩ | ⟨rfl, q1, q2, q3, q4⟩ | ⟨rfl, q1, q2⟩ | ⟨q0, q2, q1⟩ | ⟨q0, q3, q1, q2⟩
    · have HFAC : Hid (G = 0 → H = 0 → P ≤ Q ∧ p ≤ Q) := fun g0 h0 => ⟨(HMO.out g0 h0).1, (HMO.out g0 h0).2.1 ⟨q1, q2⟩⟩
      have g1 : decide (F ≤ n) = true := decide_eq_true q1
      have g2 : decide (n < T) = true := decide_eq_true q2
      have g3 : decide (f ≤ x) = true := decide_eq_true q3
      have g4 : decide (x ≤ t) = true := decide_eq_true q4
      go_enter Tryd.func6, Tryd.ntmps6
      go_wp2_with fail
      refine (pWindow_at born f t p F T 0 _ LY0.out HWN.out.1 HWN.out.2.1 HWN.out.2.2).mono ?_
      rintro e' w1 ⟨rfl, hb⟩
      have B1 : Hid (Below w.heap.size w (w1.alloc (.cells #[.int .i64 F, .int .i64 T] 29))) := below_on (below_on B0.out (Nat.le_refl _) hb) (Nat.le_refl _) (below_box w1 _)
      have LY1 : Hid (Laid (w1.alloc (.cells #[.int .i64 F, .int .i64 T] 29))) := (LY0.out.below hb).below (below_box w1 _)
      have R1 : Hid (RowK (w1.alloc (.cells #[.int .i64 F, .int .i64 T] 29)) a l) := (R0.out.below hb).below (below_box w1 _)
      have C1 : Hid (Has3 (w1.alloc (.cells #[.int .i64 F, .int .i64 T] 29)) w.heap.size f t p) := (C0.out.below hb).below (below_box w1 _)
      have S1 : Hid (S2 (w1.alloc (.cells #[.int .i64 F, .int .i64 T] 29)) w1.heap.size F T) := S2.new w1 F T 29
      clear hb
      go_wp2_with fail
      refine (pbegun_any _ LY1.out).mono ?_
      rintro e' w2 ⟨rfl, hb⟩
      have B2 : Hid (Below w.heap.size w w2) := below_on B1.out (Nat.le_refl _) hb
      have LY2 : Hid (Laid w2) := LY1.out.below hb
      have R2 : Hid (RowK w2 a l) := R1.out.below hb
      have C2 : Hid (Has3 w2 w.heap.size f t p) := C1.out.below hb
      have S3 : Hid (S2 w2 w1.heap.size F T) := S1.out.below hb
      clear hb
      go_wp2_with fail
      refine (pAge_any born n x 0 _ LY2.out HX.out).mono ?_
      rintro e' w3 ⟨rfl, hb⟩
      have B3 : Hid (Below w.heap.size w w3) := below_on B2.out (Nat.le_refl _) hb
      have LY3 : Hid (Laid w3) := LY2.out.below hb
      have R3 : Hid (RowK w3 a l) := R2.out.below hb
      have C3 : Hid (Has3 w3 w.heap.size f t p) := C2.out.below hb
      have S4 : Hid (S2 w3 w1.heap.size F T) := S3.out.below hb
      clear hb
      have k0 := S4.out.2.1
      have k1 := S4.out.2.2
      have k2 := C3.out.2.1
      have k3 := C3.out.2.2.1
      go_wp2_with fail
      refine (pPercent_at born l a N cap n P G _ HN.out LY3.out (by unfold maxLen; omega) R3.out HP.out).mono ?_
      rintro e' w4 ⟨rfl, hb⟩
      have B4 : Hid (Below w.heap.size w w4) := below_on B3.out (Nat.le_refl _) hb
      have LY4 : Hid (Laid w4) := LY3.out.below hb
      have R4 : Hid (RowK w4 a l) := R3.out.below hb
      have C4 : Hid (Has3 w4 w.heap.size f t p) := C3.out.below hb
      have hz4 := C4.out.1
      clear hb k0 k1 k2 k3
      have k2 := C4.out.2.1
      have k3 := C4.out.2.2.1
      have k4 := C4.out.2.2.2
      go_wp2
      go_region_held3 (fun w' => w'.cell? ⟨w.heap.size, 0, none⟩ = some (.int .i64 f) ∧ w'.cell? ⟨w.heap.size, 1, none⟩ = some (.int .i64 t) ∧ w'.cell? ⟨w.heap.size, 2, none⟩ = some (.int .i64 p)) (first | go_keep | exact (Has3.below C4.out BW.out).2)
            (first
            | (refine step_append_any _ (by rfl) _ _ _ (by rfl) w4.heap.size 23 i0 _ 3 24 Tryd.underlying24 HI.out.1 HI.out.2.1 HI.out.2.2.1 HI.out.2.2.2 rfl (by omega) (.slice (some ⟨w4.heap.size, 0, none⟩) 0 0) 0 [] (by rfl) (ap_e1 w4 _ _) a N cap (flatK l) (by rfl) HNA.out (by rw [flatK_len, HN.out]) (fun ad had j u hj => R4.out.news (below_box w4 _).drew ad had j u hj) (flatK_one l) (by unfold maxLen; omega) (by omega) (by first | exact Nat.le_refl _ | omega | (simp <;> omega)) ?_; intro v1 wa hown hgrow; have T1 := ap_one (below_box w4 _).drew (by first | exact Nat.le_refl _ | omega) hown hgrow; have HO1 : Hid (wa.ownsRow w4.heap.size 23 3 v1 N (flatK l)) := T1.1; have BW : Hid (Below w4.heap.size w4 wa) := T1.2;  clear T1 hown hgrow)
            | (refine step_append_any _ (by rfl) _ _ _ (by rfl) w4.heap.size 23 i0 _ 3 24 Tryd.underlying24 HI.out.1 HI.out.2.1 HI.out.2.2.1 HI.out.2.2.2 rfl (by omega) (.slice (some ⟨w4.heap.size, 0, none⟩) 0 0) 0 [] (by rfl) (ap_e1' w4 _ _ _) a N cap (flatK l) (by rfl) HNA.out (by rw [flatK_len, HN.out]) (fun ad had j u hj => R4.out.news ((below_box w4 _).alloc (by simp) _).drew ad had j u hj) (flatK_one l) (by unfold maxLen; omega) (by omega) (by first | exact Nat.le_refl _ | omega | (simp <;> omega)) ?_; intro v1 wa hown hgrow; have T1 := ap_one ((below_box w4 _).alloc (by simp) _).drew (by first | exact Nat.le_refl _ | omega) hown hgrow; have HO1 : Hid (wa.ownsRow w4.heap.size 23 3 v1 N (flatK l)) := T1.1; have BW : Hid (Below w4.heap.size w4 wa) := T1.2; have HMB : Hid (wa.heap[w4.heap.size + 1]? = some (.cells #[.int .i64 f, .int .i64 t, .int .i64 p] 23 (0, 0))) := ap_m2 hgrow; clear T1 hown hgrow)
            | (refine step_append_any _ (by rfl) _ _ _ (by rfl) w4.heap.size 23 i0 _ 3 24 Tryd.underlying24 HI.out.1 HI.out.2.1 HI.out.2.2.1 HI.out.2.2.2 rfl (by omega) (.slice (some ⟨w4.heap.size + 1, 0, none⟩) 0 0) 0 [] (by rfl) (ap_e2 w4 _ _ _) a N cap (flatK l) (by rfl) HNA.out (by rw [flatK_len, HN.out]) (fun ad had j u hj => R4.out.news ((below_box w4 _).alloc (by simp) _).drew ad had j u hj) (flatK_one l) (by unfold maxLen; omega) (by omega) (by first | exact Nat.le_refl _ | omega | (simp <;> omega)) ?_; intro v1 wa hown hgrow; have T1 := ap_one ((below_box w4 _).alloc (by simp) _).drew (by first | exact Nat.le_refl _ | omega) hown hgrow; have HO1 : Hid (wa.ownsRow w4.heap.size 23 3 v1 N (flatK l)) := T1.1; have BW : Hid (Below w4.heap.size w4 wa) := T1.2; have HMB : Hid (wa.heap[w4.heap.size]? = some (.cells #[.int .i64 f, .int .i64 t, .int .i64 p] 23 (0, 0))) := ap_m1 hgrow; clear T1 hown hgrow)
            | (refine step_append_lies _ (by rfl) _ _ _ (by rfl) w4.heap.size 23 i0 _ 3 24 Tryd.underlying24 HI.out.1 HI.out.2.1 HI.out.2.2.1 HI.out.2.2.2 rfl (by omega) v1 N (flatK l) (by rfl) (World.ownsRow.alloc HO1.out _) ⟨wa.heap.size, 0, none⟩ 1 1 [.int .i64 f, .int .i64 t, .int .i64 p] (by rfl) (by rfl) (World.news_of_block (heap_alloc_new wa _)) HOP.out (by omega) (by unfold maxLen; omega) (by omega) (by have := BW.out.size; first | exact this | (simp <;> omega)) _ rfl ?_; intro g2 c2 wb hown hgrow hat hlt; have T2 := ap_two (BW.out.alloc BW.out.size _) (World.ownsRow.alloc HO1.out _) hown hgrow; have HO2 : Hid (wb.ownsRow w4.heap.size 23 3 (.slice (some ⟨g2, 0, none⟩) (N + 1) c2) (N + 1) (flatK l ++ [.int .i64 f, .int .i64 t, .int .i64 p])) := T2.1; have BW : Hid (Below w4.heap.size w4 wb) := T2.2; have RK : Hid (RowK wb (some ⟨g2, 0, none⟩) (l ++ [⟨f, t, p⟩])) := ownK_row HN1.out (by rw [← flatK_snoc]; exact HO2.out); clear T2 hown hgrow hat hlt)
            | (refine step_append_lies _ (by rfl) _ _ _ (by rfl) w4.heap.size 23 i0 _ 3 24 Tryd.underlying24 HI.out.1 HI.out.2.1 HI.out.2.2.1 HI.out.2.2.2 rfl (by omega) v1 N (flatK l) (by rfl) HO1.out ⟨w4.heap.size + 1, 0, none⟩ 1 1 [.int .i64 f, .int .i64 t, .int .i64 p] (by rfl) (by rfl) (World.news_of_block HMB.out) HOP.out (by omega) (by unfold maxLen; omega) (by omega) (by have := BW.out.size; first | exact this | (simp <;> omega)) _ rfl ?_; intro g2 c2 wb hown hgrow hat hlt; have T2 := ap_two BW.out HO1.out hown hgrow; have HO2 : Hid (wb.ownsRow w4.heap.size 23 3 (.slice (some ⟨g2, 0, none⟩) (N + 1) c2) (N + 1) (flatK l ++ [.int .i64 f, .int .i64 t, .int .i64 p])) := T2.1; have BW : Hid (Below w4.heap.size w4 wb) := T2.2; have RK : Hid (RowK wb (some ⟨g2, 0, none⟩) (l ++ [⟨f, t, p⟩])) := ownK_row HN1.out (by rw [← flatK_snoc]; exact HO2.out); clear T2 hown hgrow hat hlt)
            | (refine step_append_lies _ (by rfl) _ _ _ (by rfl) w4.heap.size 23 i0 _ 3 24 Tryd.underlying24 HI.out.1 HI.out.2.1 HI.out.2.2.1 HI.out.2.2.2 rfl (by omega) v1 N (flatK l) (by rfl) HO1.out ⟨w4.heap.size, 0, none⟩ 1 1 [.int .i64 f, .int .i64 t, .int .i64 p] (by rfl) (by rfl) (World.news_of_block HMB.out) HOP.out (by omega) (by unfold maxLen; omega) (by omega) (by have := BW.out.size; first | exact this | (simp <;> omega)) _ rfl ?_; intro g2 c2 wb hown hgrow hat hlt; have T2 := ap_two BW.out HO1.out hown hgrow; have HO2 : Hid (wb.ownsRow w4.heap.size 23 3 (.slice (some ⟨g2, 0, none⟩) (N + 1) c2) (N + 1) (flatK l ++ [.int .i64 f, .int .i64 t, .int .i64 p])) := T2.1; have BW : Hid (Below w4.heap.size w4 wb) := T2.2; have RK : Hid (RowK wb (some ⟨g2, 0, none⟩) (l ++ [⟨f, t, p⟩])) := ownK_row HN1.out (by rw [← flatK_snoc]; exact HO2.out); clear T2 hown hgrow hat hlt)
            | (go_at_call 10; refine (pPercent_at born (l ++ [⟨f, t, p⟩]) (some ⟨g2, 0, none⟩) (N + 1) c2 n Q H _ HN1.out (LY4.out.below BW.out) (by unfold maxLen; omega) RK.out HQ.out).mono ?_; rintro e w6 ⟨rfl, hb6⟩; have BW : Hid (Below w4.heap.size w4 w6) := below_on BW.out (Nat.le_refl _) hb6; clear hb6))
      all_goals
        have B6 : Hid (Below w.heap.size w w6) := below_on B4.out (Nat.le_refl _) BW.out
        have k5 := (Has3.below C4.out BW.out).2.2.2
        clear k2 k3 k4
        by_cases hg0 : G = 0
        · by_cases hh0 : H = 0
          · have hfac := HFAC.out hg0 hh0
            have v1' : decide (P ≤ Q) = true := decide_eq_true hfac.1
            have v2 : decide (p ≤ Q) = true := decide_eq_true hfac.2
            clear hfac
            subst hg0 hh0
            go_wp2
            go_ret
            exact ⟨rfl, B6.out⟩
          · have hh1 : (H != 0) = true := by simpa using hh0
            subst hg0
            clear hh0
            go_wp2
            go_ret
            exact ⟨rfl, B6.out⟩
        · have hg1 : (G != 0) = true := by simpa using hg0
          clear hg0
          go_wp2
          go_ret
          exact ⟨rfl, B6.out⟩
    · have HFAC : Hid (G = 0 → H = 0 → P ≤ Q ∧ Q = P) := fun g0 h0 => ⟨(HMO.out g0 h0).1, (HMO.out g0 h0).2.2 (by omega)⟩
      have g1 : decide (F ≤ n) = false := decide_eq_false (by omega)
      have g3 : decide (f ≤ x) = false := decide_eq_false (by omega)
      go_enter Tryd.func6, Tryd.ntmps6
      go_wp2_with fail
      refine (pWindow_at born f t p F T 0 _ LY0.out HWN.out.1 HWN.out.2.1 HWN.out.2.2).mono ?_
      rintro e' w1 ⟨rfl, hb⟩
      have B1 : Hid (Below w.heap.size w (w1.alloc (.cells #[.int .i64 F, .int .i64 T] 29))) := below_on (below_on B0.out (Nat.le_refl _) hb) (Nat.le_refl _) (below_box w1 _)
      have LY1 : Hid (Laid (w1.alloc (.cells #[.int .i64 F, .int .i64 T] 29))) := (LY0.out.below hb).below (below_box w1 _)
      have R1 : Hid (RowK (w1.alloc (.cells #[.int .i64 F, .int .i64 T] 29)) a l) := (R0.out.below hb).below (below_box w1 _)
      have C1 : Hid (Has3 (w1.alloc (.cells #[.int .i64 F, .int .i64 T] 29)) w.heap.size f t p) := (C0.out.below hb).below (below_box w1 _)
      have S1 : Hid (S2 (w1.alloc (.cells #[.int .i64 F, .int .i64 T] 29)) w1.heap.size F T) := S2.new w1 F T 29
      clear hb
      go_wp2_with fail
      refine (pbegun_any _ LY1.out).mono ?_
      rintro e' w2 ⟨rfl, hb⟩
      have B2 : Hid (Below w.heap.size w w2) := below_on B1.out (Nat.le_refl _) hb
      have LY2 : Hid (Laid w2) := LY1.out.below hb
      have R2 : Hid (RowK w2 a l) := R1.out.below hb
      have C2 : Hid (Has3 w2 w.heap.size f t p) := C1.out.below hb
      have S3 : Hid (S2 w2 w1.heap.size F T) := S1.out.below hb
      clear hb
      go_wp2_with fail
      refine (pAge_any born n x 0 _ LY2.out HX.out).mono ?_
      rintro e' w3 ⟨rfl, hb⟩
      have B3 : Hid (Below w.heap.size w w3) := below_on B2.out (Nat.le_refl _) hb
      have LY3 : Hid (Laid w3) := LY2.out.below hb
      have R3 : Hid (RowK w3 a l) := R2.out.below hb
      have C3 : Hid (Has3 w3 w.heap.size f t p) := C2.out.below hb
      have S4 : Hid (S2 w3 w1.heap.size F T) := S3.out.below hb
      clear hb
      have k0 := S4.out.2.1
      have k1 := S4.out.2.2
      have k2 := C3.out.2.1
      have k3 := C3.out.2.2.1
      go_wp2_with fail
      refine (pPercent_at born l a N cap n P G _ HN.out LY3.out (by unfold maxLen; omega) R3.out HP.out).mono ?_
      rintro e' w4 ⟨rfl, hb⟩
      have B4 : Hid (Below w.heap.size w w4) := below_on B3.out (Nat.le_refl _) hb
      have LY4 : Hid (Laid w4) := LY3.out.below hb
      have R4 : Hid (RowK w4 a l) := R3.out.below hb
      have C4 : Hid (Has3 w4 w.heap.size f t p) := C3.out.below hb
      have hz4 := C4.out.1
      clear hb k0 k1 k2 k3
      have k2 := C4.out.2.1
      have k3 := C4.out.2.2.1
      have k4 := C4.out.2.2.2
      go_wp2
      go_region_held3 (fun w' => w'.cell? ⟨w.heap.size, 0, none⟩ = some (.int .i64 f) ∧ w'.cell? ⟨w.heap.size, 1, none⟩ = some (.int .i64 t) ∧ w'.cell? ⟨w.heap.size, 2, none⟩ = some (.int .i64 p)) (first | go_keep | exact (Has3.below C4.out BW.out).2)
            (first
            | (refine step_append_any _ (by rfl) _ _ _ (by rfl) w4.heap.size 23 i0 _ 3 24 Tryd.underlying24 HI.out.1 HI.out.2.1 HI.out.2.2.1 HI.out.2.2.2 rfl (by omega) (.slice (some ⟨w4.heap.size, 0, none⟩) 0 0) 0 [] (by rfl) (ap_e1 w4 _ _) a N cap (flatK l) (by rfl) HNA.out (by rw [flatK_len, HN.out]) (fun ad had j u hj => R4.out.news (below_box w4 _).drew ad had j u hj) (flatK_one l) (by unfold maxLen; omega) (by omega) (by first | exact Nat.le_refl _ | omega | (simp <;> omega)) ?_; intro v1 wa hown hgrow; have T1 := ap_one (below_box w4 _).drew (by first | exact Nat.le_refl _ | omega) hown hgrow; have HO1 : Hid (wa.ownsRow w4.heap.size 23 3 v1 N (flatK l)) := T1.1; have BW : Hid (Below w4.heap.size w4 wa) := T1.2;  clear T1 hown hgrow)
            | (refine step_append_any _ (by rfl) _ _ _ (by rfl) w4.heap.size 23 i0 _ 3 24 Tryd.underlying24 HI.out.1 HI.out.2.1 HI.out.2.2.1 HI.out.2.2.2 rfl (by omega) (.slice (some ⟨w4.heap.size, 0, none⟩) 0 0) 0 [] (by rfl) (ap_e1' w4 _ _ _) a N cap (flatK l) (by rfl) HNA.out (by rw [flatK_len, HN.out]) (fun ad had j u hj => R4.out.news ((below_box w4 _).alloc (by simp) _).drew ad had j u hj) (flatK_one l) (by unfold maxLen; omega) (by omega) (by first | exact Nat.le_refl _ | omega | (simp <;> omega)) ?_; intro v1 wa hown hgrow; have T1 := ap_one ((below_box w4 _).alloc (by simp) _).drew (by first | exact Nat.le_refl _ | omega) hown hgrow; have HO1 : Hid (wa.ownsRow w4.heap.size 23 3 v1 N (flatK l)) := T1.1; have BW : Hid (Below w4.heap.size w4 wa) := T1.2; have HMB : Hid (wa.heap[w4.heap.size + 1]? = some (.cells #[.int .i64 f, .int .i64 t, .int .i64 p] 23 (0, 0))) := ap_m2 hgrow; clear T1 hown hgrow)
            | (refine step_append_any _ (by rfl) _ _ _ (by rfl) w4.heap.size 23 i0 _ 3 24 Tryd.underlying24 HI.out.1 HI.out.2.1 HI.out.2.2.1 HI.out.2.2.2 rfl (by omega) (.slice (some ⟨w4.heap.size + 1, 0, none⟩) 0 0) 0 [] (by rfl) (ap_e2 w4 _ _ _) a N cap (flatK l) (by rfl) HNA.out (by rw [flatK_len, HN.out]) (fun ad had j u hj => R4.out.news ((below_box w4 _).alloc (by simp) _).drew ad had j u hj) (flatK_one l) (by unfold maxLen; omega) (by omega) (by first | exact Nat.le_refl _ | omega | (simp <;> omega)) ?_; intro v1 wa hown hgrow; have T1 := ap_one ((below_box w4 _).alloc (by simp) _).drew (by first | exact Nat.le_refl _ | omega) hown hgrow; have HO1 : Hid (wa.ownsRow w4.heap.size 23 3 v1 N (flatK l)) := T1.1; have BW : Hid (Below w4.heap.size w4 wa) := T1.2; have HMB : Hid (wa.heap[w4.heap.size]? = some (.cells #[.int .i64 f, .int .i64 t, .int .i64 p] 23 (0, 0))) := ap_m1 hgrow; clear T1 hown hgrow)
            | (refine step_append_lies _ (by rfl) _ _ _ (by rfl) w4.heap.size 23 i0 _ 3 24 Tryd.underlying24 HI.out.1 HI.out.2.1 HI.out.2.2.1 HI.out.2.2.2 rfl (by omega) v1 N (flatK l) (by rfl) (World.ownsRow.alloc HO1.out _) ⟨wa.heap.size, 0, none⟩ 1 1 [.int .i64 f, .int .i64 t, .int .i64 p] (by rfl) (by rfl) (World.news_of_block (heap_alloc_new wa _)) HOP.out (by omega) (by unfold maxLen; omega) (by omega) (by have := BW.out.size; first | exact this | (simp <;> omega)) _ rfl ?_; intro g2 c2 wb hown hgrow hat hlt; have T2 := ap_two (BW.out.alloc BW.out.size _) (World.ownsRow.alloc HO1.out _) hown hgrow; have HO2 : Hid (wb.ownsRow w4.heap.size 23 3 (.slice (some ⟨g2, 0, none⟩) (N + 1) c2) (N + 1) (flatK l ++ [.int .i64 f, .int .i64 t, .int .i64 p])) := T2.1; have BW : Hid (Below w4.heap.size w4 wb) := T2.2; have RK : Hid (RowK wb (some ⟨g2, 0, none⟩) (l ++ [⟨f, t, p⟩])) := ownK_row HN1.out (by rw [← flatK_snoc]; exact HO2.out); clear T2 hown hgrow hat hlt)
            | (refine step_append_lies _ (by rfl) _ _ _ (by rfl) w4.heap.size 23 i0 _ 3 24 Tryd.underlying24 HI.out.1 HI.out.2.1 HI.out.2.2.1 HI.out.2.2.2 rfl (by omega) v1 N (flatK l) (by rfl) HO1.out ⟨w4.heap.size + 1, 0, none⟩ 1 1 [.int .i64 f, .int .i64 t, .int .i64 p] (by rfl) (by rfl) (World.news_of_block HMB.out) HOP.out (by omega) (by unfold maxLen; omega) (by omega) (by have := BW.out.size; first | exact this | (simp <;> omega)) _ rfl ?_; intro g2 c2 wb hown hgrow hat hlt; have T2 := ap_two BW.out HO1.out hown hgrow; have HO2 : Hid (wb.ownsRow w4.heap.size 23 3 (.slice (some ⟨g2, 0, none⟩) (N + 1) c2) (N + 1) (flatK l ++ [.int .i64 f, .int .i64 t, .int .i64 p])) := T2.1; have BW : Hid (Below w4.heap.size w4 wb) := T2.2; have RK : Hid (RowK wb (some ⟨g2, 0, none⟩) (l ++ [⟨f, t, p⟩])) := ownK_row HN1.out (by rw [← flatK_snoc]; exact HO2.out); clear T2 hown hgrow hat hlt)
            | (refine step_append_lies _ (by rfl) _ _ _ (by rfl) w4.heap.size 23 i0 _ 3 24 Tryd.underlying24 HI.out.1 HI.out.2.1 HI.out.2.2.1 HI.out.2.2.2 rfl (by omega) v1 N (flatK l) (by rfl) HO1.out ⟨w4.heap.size, 0, none⟩ 1 1 [.int .i64 f, .int .i64 t, .int .i64 p] (by rfl) (by rfl) (World.news_of_block HMB.out) HOP.out (by omega) (by unfold maxLen; omega) (by omega) (by have := BW.out.size; first | exact this | (simp <;> omega)) _ rfl ?_; intro g2 c2 wb hown hgrow hat hlt; have T2 := ap_two BW.out HO1.out hown hgrow; have HO2 : Hid (wb.ownsRow w4.heap.size 23 3 (.slice (some ⟨g2, 0, none⟩) (N + 1) c2) (N + 1) (flatK l ++ [.int .i64 f, .int .i64 t, .int .i64 p])) := T2.1; have BW : Hid (Below w4.heap.size w4 wb) := T2.2; have RK : Hid (RowK wb (some ⟨g2, 0, none⟩) (l ++ [⟨f, t, p⟩])) := ownK_row HN1.out (by rw [← flatK_snoc]; exact HO2.out); clear T2 hown hgrow hat hlt)
            | (go_at_call 10; refine (pPercent_at born (l ++ [⟨f, t, p⟩]) (some ⟨g2, 0, none⟩) (N + 1) c2 n Q H _ HN1.out (LY4.out.below BW.out) (by unfold maxLen; omega) RK.out HQ.out).mono ?_; rintro e w6 ⟨rfl, hb6⟩; have BW : Hid (Below w4.heap.size w4 w6) := below_on BW.out (Nat.le_refl _) hb6; clear hb6))
      all_goals
        have B6 : Hid (Below w.heap.size w w6) := below_on B4.out (Nat.le_refl _) BW.out
        have k5 := (Has3.below C4.out BW.out).2.2.2
        clear k2 k3 k4
        by_cases hg0 : G = 0
        · by_cases hh0 : H = 0
          · have hfac := HFAC.out hg0 hh0
            have v1' : decide (P ≤ Q) = true := decide_eq_true hfac.1
            have v2 : (Q == P) = true := by rw [beq_iff_eq]; exact hfac.2
            clear hfac
            subst hg0 hh0
            go_wp2
            go_ret
            exact ⟨rfl, B6.out⟩
          · have hh1 : (H != 0) = true := by simpa using hh0
            subst hg0
            clear hh0
            go_wp2
            go_ret
            exact ⟨rfl, B6.out⟩
        · have hg1 : (G != 0) = true := by simpa using hg0
          clear hg0
          go_wp2
          go_ret
          exact ⟨rfl, B6.out⟩
    · have HFAC : Hid (G = 0 → H = 0 → P ≤ Q ∧ Q = P) := fun g0 h0 => ⟨(HMO.out g0 h0).1, (HMO.out g0 h0).2.2 (by omega)⟩
      have g1 : decide (F ≤ n) = true := decide_eq_true q1
      have g2 : decide (n < T) = false := decide_eq_false (by omega)
      have g3 : decide (f ≤ x) = true := decide_eq_true q3
      have g4 : decide (x ≤ t) = false := decide_eq_false (by omega)
      go_enter Tryd.func6, Tryd.ntmps6
      go_wp2_with fail
      refine (pWindow_at born f t p F T 0 _ LY0.out HWN.out.1 HWN.out.2.1 HWN.out.2.2).mono ?_
      rintro e' w1 ⟨rfl, hb⟩
      have B1 : Hid (Below w.heap.size w (w1.alloc (.cells #[.int .i64 F, .int .i64 T] 29))) := below_on (below_on B0.out (Nat.le_refl _) hb) (Nat.le_refl _) (below_box w1 _)
      have LY1 : Hid (Laid (w1.alloc (.cells #[.int .i64 F, .int .i64 T] 29))) := (LY0.out.below hb).below (below_box w1 _)
      have R1 : Hid (RowK (w1.alloc (.cells #[.int .i64 F, .int .i64 T] 29)) a l) := (R0.out.below hb).below (below_box w1 _)
      have C1 : Hid (Has3 (w1.alloc (.cells #[.int .i64 F, .int .i64 T] 29)) w.heap.size f t p) := (C0.out.below hb).below (below_box w1 _)
      have S1 : Hid (S2 (w1.alloc (.cells #[.int .i64 F, .int .i64 T] 29)) w1.heap.size F T) := S2.new w1 F T 29
      clear hb
      go_wp2_with fail
      refine (pbegun_any _ LY1.out).mono ?_
      rintro e' w2 ⟨rfl, hb⟩
      have B2 : Hid (Below w.heap.size w w2) := below_on B1.out (Nat.le_refl _) hb
      have LY2 : Hid (Laid w2) := LY1.out.below hb
      have R2 : Hid (RowK w2 a l) := R1.out.below hb
      have C2 : Hid (Has3 w2 w.heap.size f t p) := C1.out.below hb
      have S3 : Hid (S2 w2 w1.heap.size F T) := S1.out.below hb
      clear hb
      go_wp2_with fail
      refine (pAge_any born n x 0 _ LY2.out HX.out).mono ?_
      rintro e' w3 ⟨rfl, hb⟩
      have B3 : Hid (Below w.heap.size w w3) := below_on B2.out (Nat.le_refl _) hb
      have LY3 : Hid (Laid w3) := LY2.out.below hb
      have R3 : Hid (RowK w3 a l) := R2.out.below hb
      have C3 : Hid (Has3 w3 w.heap.size f t p) := C2.out.below hb
      have S4 : Hid (S2 w3 w1.heap.size F T) := S3.out.below hb
      clear hb
      have k0 := S4.out.2.1
      have k1 := S4.out.2.2
      have k2 := C3.out.2.1
      have k3 := C3.out.2.2.1
      go_wp2_with fail
      refine (pPercent_at born l a N cap n P G _ HN.out LY3.out (by unfold maxLen; omega) R3.out HP.out).mono ?_
      rintro e' w4 ⟨rfl, hb⟩
      have B4 : Hid (Below w.heap.size w w4) := below_on B3.out (Nat.le_refl _) hb
      have LY4 : Hid (Laid w4) := LY3.out.below hb
      have R4 : Hid (RowK w4 a l) := R3.out.below hb
      have C4 : Hid (Has3 w4 w.heap.size f t p) := C3.out.below hb
      have hz4 := C4.out.1
      clear hb k0 k1 k2 k3
      have k2 := C4.out.2.1
      have k3 := C4.out.2.2.1
      have k4 := C4.out.2.2.2
      go_wp2
      go_region_held3 (fun w' => w'.cell? ⟨w.heap.size, 0, none⟩ = some (.int .i64 f) ∧ w'.cell? ⟨w.heap.size, 1, none⟩ = some (.int .i64 t) ∧ w'.cell? ⟨w.heap.size, 2, none⟩ = some (.int .i64 p)) (first | go_keep | exact (Has3.below C4.out BW.out).2)
            (first
            | (refine step_append_any _ (by rfl) _ _ _ (by rfl) w4.heap.size 23 i0 _ 3 24 Tryd.underlying24 HI.out.1 HI.out.2.1 HI.out.2.2.1 HI.out.2.2.2 rfl (by omega) (.slice (some ⟨w4.heap.size, 0, none⟩) 0 0) 0 [] (by rfl) (ap_e1 w4 _ _) a N cap (flatK l) (by rfl) HNA.out (by rw [flatK_len, HN.out]) (fun ad had j u hj => R4.out.news (below_box w4 _).drew ad had j u hj) (flatK_one l) (by unfold maxLen; omega) (by omega) (by first | exact Nat.le_refl _ | omega | (simp <;> omega)) ?_; intro v1 wa hown hgrow; have T1 := ap_one (below_box w4 _).drew (by first | exact Nat.le_refl _ | omega) hown hgrow; have HO1 : Hid (wa.ownsRow w4.heap.size 23 3 v1 N (flatK l)) := T1.1; have BW : Hid (Below w4.heap.size w4 wa) := T1.2;  clear T1 hown hgrow)
            | (refine step_append_any _ (by rfl) _ _ _ (by rfl) w4.heap.size 23 i0 _ 3 24 Tryd.underlying24 HI.out.1 HI.out.2.1 HI.out.2.2.1 HI.out.2.2.2 rfl (by omega) (.slice (some ⟨w4.heap.size, 0, none⟩) 0 0) 0 [] (by rfl) (ap_e1' w4 _ _ _) a N cap (flatK l) (by rfl) HNA.out (by rw [flatK_len, HN.out]) (fun ad had j u hj => R4.out.news ((below_box w4 _).alloc (by simp) _).drew ad had j u hj) (flatK_one l) (by unfold maxLen; omega) (by omega) (by first | exact Nat.le_refl _ | omega | (simp <;> omega)) ?_; intro v1 wa hown hgrow; have T1 := ap_one ((below_box w4 _).alloc (by simp) _).drew (by first | exact Nat.le_refl _ | omega) hown hgrow; have HO1 : Hid (wa.ownsRow w4.heap.size 23 3 v1 N (flatK l)) := T1.1; have BW : Hid (Below w4.heap.size w4 wa) := T1.2; have HMB : Hid (wa.heap[w4.heap.size + 1]? = some (.cells #[.int .i64 f, .int .i64 t, .int .i64 p] 23 (0, 0))) := ap_m2 hgrow; clear T1 hown hgrow)
            | (refine step_append_any _ (by rfl) _ _ _ (by rfl) w4.heap.size 23 i0 _ 3 24 Tryd.underlying24 HI.out.1 HI.out.2.1 HI.out.2.2.1 HI.out.2.2.2 rfl (by omega) (.slice (some ⟨w4.heap.size + 1, 0, none⟩) 0 0) 0 [] (by rfl) (ap_e2 w4 _ _ _) a N cap (flatK l) (by rfl) HNA.out (by rw [flatK_len, HN.out]) (fun ad had j u hj => R4.out.news ((below_box w4 _).alloc (by simp) _).drew ad had j u hj) (flatK_one l) (by unfold maxLen; omega) (by omega) (by first | exact Nat.le_refl _ | omega | (simp <;> omega)) ?_; intro v1 wa hown hgrow; have T1 := ap_one ((below_box w4 _).alloc (by simp) _).drew (by first | exact Nat.le_refl _ | omega) hown hgrow; have HO1 : Hid (wa.ownsRow w4.heap.size 23 3 v1 N (flatK l)) := T1.1; have BW : Hid (Below w4.heap.size w4 wa) := T1.2; have HMB : Hid (wa.heap[w4.heap.size]? = some (.cells #[.int .i64 f, .int .i64 t, .int .i64 p] 23 (0, 0))) := ap_m1 hgrow; clear T1 hown hgrow)
            | (refine step_append_lies _ (by rfl) _ _ _ (by rfl) w4.heap.size 23 i0 _ 3 24 Tryd.underlying24 HI.out.1 HI.out.2.1 HI.out.2.2.1 HI.out.2.2.2 rfl (by omega) v1 N (flatK l) (by rfl) (World.ownsRow.alloc HO1.out _) ⟨wa.heap.size, 0, none⟩ 1 1 [.int .i64 f, .int .i64 t, .int .i64 p] (by rfl) (by rfl) (World.news_of_block (heap_alloc_new wa _)) HOP.out (by omega) (by unfold maxLen; omega) (by omega) (by have := BW.out.size; first | exact this | (simp <;> omega)) _ rfl ?_; intro g2 c2 wb hown hgrow hat hlt; have T2 := ap_two (BW.out.alloc BW.out.size _) (World.ownsRow.alloc HO1.out _) hown hgrow; have HO2 : Hid (wb.ownsRow w4.heap.size 23 3 (.slice (some ⟨g2, 0, none⟩) (N + 1) c2) (N + 1) (flatK l ++ [.int .i64 f, .int .i64 t, .int .i64 p])) := T2.1; have BW : Hid (Below w4.heap.size w4 wb) := T2.2; have RK : Hid (RowK wb (some ⟨g2, 0, none⟩) (l ++ [⟨f, t, p⟩])) := ownK_row HN1.out (by rw [← flatK_snoc]; exact HO2.out); clear T2 hown hgrow hat hlt)
            | (refine step_append_lies _ (by rfl) _ _ _ (by rfl) w4.heap.size 23 i0 _ 3 24 Tryd.underlying24 HI.out.1 HI.out.2.1 HI.out.2.2.1 HI.out.2.2.2 rfl (by omega) v1 N (flatK l) (by rfl) HO1.out ⟨w4.heap.size + 1, 0, none⟩ 1 1 [.int .i64 f, .int .i64 t, .int .i64 p] (by rfl) (by rfl) (World.news_of_block HMB.out) HOP.out (by omega) (by unfold maxLen; omega) (by omega) (by have := BW.out.size; first | exact this | (simp <;> omega)) _ rfl ?_; intro g2 c2 wb hown hgrow hat hlt; have T2 := ap_two BW.out HO1.out hown hgrow; have HO2 : Hid (wb.ownsRow w4.heap.size 23 3 (.slice (some ⟨g2, 0, none⟩) (N + 1) c2) (N + 1) (flatK l ++ [.int .i64 f, .int .i64 t, .int .i64 p])) := T2.1; have BW : Hid (Below w4.heap.size w4 wb) := T2.2; have RK : Hid (RowK wb (some ⟨g2, 0, none⟩) (l ++ [⟨f, t, p⟩])) := ownK_row HN1.out (by rw [← flatK_snoc]; exact HO2.out); clear T2 hown hgrow hat hlt)
            | (refine step_append_lies _ (by rfl) _ _ _ (by rfl) w4.heap.size 23 i0 _ 3 24 Tryd.underlying24 HI.out.1 HI.out.2.1 HI.out.2.2.1 HI.out.2.2.2 rfl (by omega) v1 N (flatK l) (by rfl) HO1.out ⟨w4.heap.size, 0, none⟩ 1 1 [.int .i64 f, .int .i64 t, .int .i64 p] (by rfl) (by rfl) (World.news_of_block HMB.out) HOP.out (by omega) (by unfold maxLen; omega) (by omega) (by have := BW.out.size; first | exact this | (simp <;> omega)) _ rfl ?_; intro g2 c2 wb hown hgrow hat hlt; have T2 := ap_two BW.out HO1.out hown hgrow; have HO2 : Hid (wb.ownsRow w4.heap.size 23 3 (.slice (some ⟨g2, 0, none⟩) (N + 1) c2) (N + 1) (flatK l ++ [.int .i64 f, .int .i64 t, .int .i64 p])) := T2.1; have BW : Hid (Below w4.heap.size w4 wb) := T2.2; have RK : Hid (RowK wb (some ⟨g2, 0, none⟩) (l ++ [⟨f, t, p⟩])) := ownK_row HN1.out (by rw [← flatK_snoc]; exact HO2.out); clear T2 hown hgrow hat hlt)
            | (go_at_call 10; refine (pPercent_at born (l ++ [⟨f, t, p⟩]) (some ⟨g2, 0, none⟩) (N + 1) c2 n Q H _ HN1.out (LY4.out.below BW.out) (by unfold maxLen; omega) RK.out HQ.out).mono ?_; rintro e w6 ⟨rfl, hb6⟩; have BW : Hid (Below w4.heap.size w4 w6) := below_on BW.out (Nat.le_refl _) hb6; clear hb6))
      all_goals
        have B6 : Hid (Below w.heap.size w w6) := below_on B4.out (Nat.le_refl _) BW.out
        have k5 := (Has3.below C4.out BW.out).2.2.2
        clear k2 k3 k4
        by_cases hg0 : G = 0
        · by_cases hh0 : H = 0
          · have hfac := HFAC.out hg0 hh0
            have v1' : decide (P ≤ Q) = true := decide_eq_true hfac.1
            have v2 : (Q == P) = true := by rw [beq_iff_eq]; exact hfac.2
            clear hfac
            subst hg0 hh0
            go_wp2
            go_ret
            exact ⟨rfl, B6.out⟩
          · have hh1 : (H != 0) = true := by simpa using hh0
            subst hg0
            clear hh0
            go_wp2
            go_ret
            exact ⟨rfl, B6.out⟩
        · have hg1 : (G != 0) = true := by simpa using hg0
          clear hg0
          go_wp2
          go_ret
          exact ⟨rfl, B6.out⟩
    · have HFAC : Hid (G = 0 → H = 0 → P ≤ Q ∧ Q = P) := fun g0 h0 => ⟨(HMO.out g0 h0).1, (HMO.out g0 h0).2.2 (by omega)⟩
      have g1 : decide (F ≤ n) = true := decide_eq_true q1
      have g2 : decide (n < T) = false := decide_eq_false (by omega)
      go_enter Tryd.func6, Tryd.ntmps6
      go_wp2_with fail
      refine (pWindow_at born f t p F T 0 _ LY0.out HWN.out.1 HWN.out.2.1 HWN.out.2.2).mono ?_
      rintro e' w1 ⟨rfl, hb⟩
      have B1 : Hid (Below w.heap.size w (w1.alloc (.cells #[.int .i64 F, .int .i64 T] 29))) := below_on (below_on B0.out (Nat.le_refl _) hb) (Nat.le_refl _) (below_box w1 _)
      have LY1 : Hid (Laid (w1.alloc (.cells #[.int .i64 F, .int .i64 T] 29))) := (LY0.out.below hb).below (below_box w1 _)
      have R1 : Hid (RowK (w1.alloc (.cells #[.int .i64 F, .int .i64 T] 29)) a l) := (R0.out.below hb).below (below_box w1 _)
      have C1 : Hid (Has3 (w1.alloc (.cells #[.int .i64 F, .int .i64 T] 29)) w.heap.size f t p) := (C0.out.below hb).below (below_box w1 _)
      have S1 : Hid (S2 (w1.alloc (.cells #[.int .i64 F, .int .i64 T] 29)) w1.heap.size F T) := S2.new w1 F T 29
      clear hb
      go_wp2_with fail
      refine (pbegun_any _ LY1.out).mono ?_
      rintro e' w2 ⟨rfl, hb⟩
      have B2 : Hid (Below w.heap.size w w2) := below_on B1.out (Nat.le_refl _) hb
      have LY2 : Hid (Laid w2) := LY1.out.below hb
      have R2 : Hid (RowK w2 a l) := R1.out.below hb
      have C2 : Hid (Has3 w2 w.heap.size f t p) := C1.out.below hb
      have S3 : Hid (S2 w2 w1.heap.size F T) := S1.out.below hb
      clear hb
      go_wp2_with fail
      refine (pAge_any born n x 2 _ LY2.out HX.out).mono ?_
      rintro e' w3 ⟨rfl, hb⟩
      have B3 : Hid (Below w.heap.size w w3) := below_on B2.out (Nat.le_refl _) hb
      have LY3 : Hid (Laid w3) := LY2.out.below hb
      have R3 : Hid (RowK w3 a l) := R2.out.below hb
      have C3 : Hid (Has3 w3 w.heap.size f t p) := C2.out.below hb
      have S4 : Hid (S2 w3 w1.heap.size F T) := S3.out.below hb
      clear hb
      have k0 := S4.out.2.1
      have k1 := S4.out.2.2
      have k2 := C3.out.2.1
      have k3 := C3.out.2.2.1
      go_wp2_with fail
      refine (pPercent_at born l a N cap n P G _ HN.out LY3.out (by unfold maxLen; omega) R3.out HP.out).mono ?_
      rintro e' w4 ⟨rfl, hb⟩
      have B4 : Hid (Below w.heap.size w w4) := below_on B3.out (Nat.le_refl _) hb
      have LY4 : Hid (Laid w4) := LY3.out.below hb
      have R4 : Hid (RowK w4 a l) := R3.out.below hb
      have C4 : Hid (Has3 w4 w.heap.size f t p) := C3.out.below hb
      have hz4 := C4.out.1
      clear hb k0 k1 k2 k3
      have k2 := C4.out.2.1
      have k3 := C4.out.2.2.1
      have k4 := C4.out.2.2.2
      go_wp2
      go_region_held3 (fun w' => w'.cell? ⟨w.heap.size, 0, none⟩ = some (.int .i64 f) ∧ w'.cell? ⟨w.heap.size, 1, none⟩ = some (.int .i64 t) ∧ w'.cell? ⟨w.heap.size, 2, none⟩ = some (.int .i64 p)) (first | go_keep | exact (Has3.below C4.out BW.out).2)
            (first
            | (refine step_append_any _ (by rfl) _ _ _ (by rfl) w4.heap.size 23 i0 _ 3 24 Tryd.underlying24 HI.out.1 HI.out.2.1 HI.out.2.2.1 HI.out.2.2.2 rfl (by omega) (.slice (some ⟨w4.heap.size, 0, none⟩) 0 0) 0 [] (by rfl) (ap_e1 w4 _ _) a N cap (flatK l) (by rfl) HNA.out (by rw [flatK_len, HN.out]) (fun ad had j u hj => R4.out.news (below_box w4 _).drew ad had j u hj) (flatK_one l) (by unfold maxLen; omega) (by omega) (by first | exact Nat.le_refl _ | omega | (simp <;> omega)) ?_; intro v1 wa hown hgrow; have T1 := ap_one (below_box w4 _).drew (by first | exact Nat.le_refl _ | omega) hown hgrow; have HO1 : Hid (wa.ownsRow w4.heap.size 23 3 v1 N (flatK l)) := T1.1; have BW : Hid (Below w4.heap.size w4 wa) := T1.2;  clear T1 hown hgrow)
            | (refine step_append_any _ (by rfl) _ _ _ (by rfl) w4.heap.size 23 i0 _ 3 24 Tryd.underlying24 HI.out.1 HI.out.2.1 HI.out.2.2.1 HI.out.2.2.2 rfl (by omega) (.slice (some ⟨w4.heap.size, 0, none⟩) 0 0) 0 [] (by rfl) (ap_e1' w4 _ _ _) a N cap (flatK l) (by rfl) HNA.out (by rw [flatK_len, HN.out]) (fun ad had j u hj => R4.out.news ((below_box w4 _).alloc (by simp) _).drew ad had j u hj) (flatK_one l) (by unfold maxLen; omega) (by omega) (by first | exact Nat.le_refl _ | omega | (simp <;> omega)) ?_; intro v1 wa hown hgrow; have T1 := ap_one ((below_box w4 _).alloc (by simp) _).drew (by first | exact Nat.le_refl _ | omega) hown hgrow; have HO1 : Hid (wa.ownsRow w4.heap.size 23 3 v1 N (flatK l)) := T1.1; have BW : Hid (Below w4.heap.size w4 wa) := T1.2; have HMB : Hid (wa.heap[w4.heap.size + 1]? = some (.cells #[.int .i64 f, .int .i64 t, .int .i64 p] 23 (0, 0))) := ap_m2 hgrow; clear T1 hown hgrow)
            | (refine step_append_any _ (by rfl) _ _ _ (by rfl) w4.heap.size 23 i0 _ 3 24 Tryd.underlying24 HI.out.1 HI.out.2.1 HI.out.2.2.1 HI.out.2.2.2 rfl (by omega) (.slice (some ⟨w4.heap.size + 1, 0, none⟩) 0 0) 0 [] (by rfl) (ap_e2 w4 _ _ _) a N cap (flatK l) (by rfl) HNA.out (by rw [flatK_len, HN.out]) (fun ad had j u hj => R4.out.news ((below_box w4 _).alloc (by simp) _).drew ad had j u hj) (flatK_one l) (by unfold maxLen; omega) (by omega) (by first | exact Nat.le_refl _ | omega | (simp <;> omega)) ?_; intro v1 wa hown hgrow; have T1 := ap_one ((below_box w4 _).alloc (by simp) _).drew (by first | exact Nat.le_refl _ | omega) hown hgrow; have HO1 : Hid (wa.ownsRow w4.heap.size 23 3 v1 N (flatK l)) := T1.1; have BW : Hid (Below w4.heap.size w4 wa) := T1.2; have HMB : Hid (wa.heap[w4.heap.size]? = some (.cells #[.int .i64 f, .int .i64 t, .int .i64 p] 23 (0, 0))) := ap_m1 hgrow; clear T1 hown hgrow)
            | (refine step_append_lies _ (by rfl) _ _ _ (by rfl) w4.heap.size 23 i0 _ 3 24 Tryd.underlying24 HI.out.1 HI.out.2.1 HI.out.2.2.1 HI.out.2.2.2 rfl (by omega) v1 N (flatK l) (by rfl) (World.ownsRow.alloc HO1.out _) ⟨wa.heap.size, 0, none⟩ 1 1 [.int .i64 f, .int .i64 t, .int .i64 p] (by rfl) (by rfl) (World.news_of_block (heap_alloc_new wa _)) HOP.out (by omega) (by unfold maxLen; omega) (by omega) (by have := BW.out.size; first | exact this | (simp <;> omega)) _ rfl ?_; intro g2 c2 wb hown hgrow hat hlt; have T2 := ap_two (BW.out.alloc BW.out.size _) (World.ownsRow.alloc HO1.out _) hown hgrow; have HO2 : Hid (wb.ownsRow w4.heap.size 23 3 (.slice (some ⟨g2, 0, none⟩) (N + 1) c2) (N + 1) (flatK l ++ [.int .i64 f, .int .i64 t, .int .i64 p])) := T2.1; have BW : Hid (Below w4.heap.size w4 wb) := T2.2; have RK : Hid (RowK wb (some ⟨g2, 0, none⟩) (l ++ [⟨f, t, p⟩])) := ownK_row HN1.out (by rw [← flatK_snoc]; exact HO2.out); clear T2 hown hgrow hat hlt)
            | (refine step_append_lies _ (by rfl) _ _ _ (by rfl) w4.heap.size 23 i0 _ 3 24 Tryd.underlying24 HI.out.1 HI.out.2.1 HI.out.2.2.1 HI.out.2.2.2 rfl (by omega) v1 N (flatK l) (by rfl) HO1.out ⟨w4.heap.size + 1, 0, none⟩ 1 1 [.int .i64 f, .int .i64 t, .int .i64 p] (by rfl) (by rfl) (World.news_of_block HMB.out) HOP.out (by omega) (by unfold maxLen; omega) (by omega) (by have := BW.out.size; first | exact this | (simp <;> omega)) _ rfl ?_; intro g2 c2 wb hown hgrow hat hlt; have T2 := ap_two BW.out HO1.out hown hgrow; have HO2 : Hid (wb.ownsRow w4.heap.size 23 3 (.slice (some ⟨g2, 0, none⟩) (N + 1) c2) (N + 1) (flatK l ++ [.int .i64 f, .int .i64 t, .int .i64 p])) := T2.1; have BW : Hid (Below w4.heap.size w4 wb) := T2.2; have RK : Hid (RowK wb (some ⟨g2, 0, none⟩) (l ++ [⟨f, t, p⟩])) := ownK_row HN1.out (by rw [← flatK_snoc]; exact HO2.out); clear T2 hown hgrow hat hlt)
            | (refine step_append_lies _ (by rfl) _ _ _ (by rfl) w4.heap.size 23 i0 _ 3 24 Tryd.underlying24 HI.out.1 HI.out.2.1 HI.out.2.2.1 HI.out.2.2.2 rfl (by omega) v1 N (flatK l) (by rfl) HO1.out ⟨w4.heap.size, 0, none⟩ 1 1 [.int .i64 f, .int .i64 t, .int .i64 p] (by rfl) (by rfl) (World.news_of_block HMB.out) HOP.out (by omega) (by unfold maxLen; omega) (by omega) (by have := BW.out.size; first | exact this | (simp <;> omega)) _ rfl ?_; intro g2 c2 wb hown hgrow hat hlt; have T2 := ap_two BW.out HO1.out hown hgrow; have HO2 : Hid (wb.ownsRow w4.heap.size 23 3 (.slice (some ⟨g2, 0, none⟩) (N + 1) c2) (N + 1) (flatK l ++ [.int .i64 f, .int .i64 t, .int .i64 p])) := T2.1; have BW : Hid (Below w4.heap.size w4 wb) := T2.2; have RK : Hid (RowK wb (some ⟨g2, 0, none⟩) (l ++ [⟨f, t, p⟩])) := ownK_row HN1.out (by rw [← flatK_snoc]; exact HO2.out); clear T2 hown hgrow hat hlt)
            | (go_at_call 10; refine (pPercent_at born (l ++ [⟨f, t, p⟩]) (some ⟨g2, 0, none⟩) (N + 1) c2 n Q H _ HN1.out (LY4.out.below BW.out) (by unfold maxLen; omega) RK.out HQ.out).mono ?_; rintro e w6 ⟨rfl, hb6⟩; have BW : Hid (Below w4.heap.size w4 w6) := below_on BW.out (Nat.le_refl _) hb6; clear hb6))
      all_goals
        have B6 : Hid (Below w.heap.size w w6) := below_on B4.out (Nat.le_refl _) BW.out
        have k5 := (Has3.below C4.out BW.out).2.2.2
        clear k2 k3 k4
        by_cases hg0 : G = 0
        · by_cases hh0 : H = 0
          · have hfac := HFAC.out hg0 hh0
            have v1' : decide (P ≤ Q) = true := decide_eq_true hfac.1
            have v2 : (Q == P) = true := by rw [beq_iff_eq]; exact hfac.2
            clear hfac
            subst hg0 hh0
            go_wp2
            go_ret
            exact ⟨rfl, B6.out⟩
          · have hh1 : (H != 0) = true := by simpa using hh0
            subst hg0
            clear hh0
            go_wp2
            go_ret
            exact ⟨rfl, B6.out⟩
        · have hg1 : (G != 0) = true := by simpa using hg0
          clear hg0
          go_wp2
          go_ret
          exact ⟨rfl, B6.out⟩
    · have HFAC : Hid (G = 0 → H = 0 → P ≤ Q ∧ Q = P) := fun g0 h0 => ⟨(HMO.out g0 h0).1, (HMO.out g0 h0).2.2 (by omega)⟩
      have g1 : decide (F ≤ n) = false := decide_eq_false (by omega)
      have q0b : (e == 0) = false := by simpa using q0
      have q2b : (e == 2) = false := by simpa using q2
      clear q0 q2
      go_enter Tryd.func6, Tryd.ntmps6
      go_wp2_with fail
      refine (pWindow_at born f t p F T 0 _ LY0.out HWN.out.1 HWN.out.2.1 HWN.out.2.2).mono ?_
      rintro e' w1 ⟨rfl, hb⟩
      have B1 : Hid (Below w.heap.size w (w1.alloc (.cells #[.int .i64 F, .int .i64 T] 29))) := below_on (below_on B0.out (Nat.le_refl _) hb) (Nat.le_refl _) (below_box w1 _)
      have LY1 : Hid (Laid (w1.alloc (.cells #[.int .i64 F, .int .i64 T] 29))) := (LY0.out.below hb).below (below_box w1 _)
      have R1 : Hid (RowK (w1.alloc (.cells #[.int .i64 F, .int .i64 T] 29)) a l) := (R0.out.below hb).below (below_box w1 _)
      have C1 : Hid (Has3 (w1.alloc (.cells #[.int .i64 F, .int .i64 T] 29)) w.heap.size f t p) := (C0.out.below hb).below (below_box w1 _)
      have S1 : Hid (S2 (w1.alloc (.cells #[.int .i64 F, .int .i64 T] 29)) w1.heap.size F T) := S2.new w1 F T 29
      clear hb
      go_wp2_with fail
      refine (pbegun_any _ LY1.out).mono ?_
      rintro e' w2 ⟨rfl, hb⟩
      have B2 : Hid (Below w.heap.size w w2) := below_on B1.out (Nat.le_refl _) hb
      have LY2 : Hid (Laid w2) := LY1.out.below hb
      have R2 : Hid (RowK w2 a l) := R1.out.below hb
      have C2 : Hid (Has3 w2 w.heap.size f t p) := C1.out.below hb
      have S3 : Hid (S2 w2 w1.heap.size F T) := S1.out.below hb
      clear hb
      go_wp2_with fail
      refine (pAge_any born n x e _ LY2.out HX.out).mono ?_
      rintro e' w3 ⟨rfl, hb⟩
      have B3 : Hid (Below w.heap.size w w3) := below_on B2.out (Nat.le_refl _) hb
      have LY3 : Hid (Laid w3) := LY2.out.below hb
      have R3 : Hid (RowK w3 a l) := R2.out.below hb
      have C3 : Hid (Has3 w3 w.heap.size f t p) := C2.out.below hb
      have S4 : Hid (S2 w3 w1.heap.size F T) := S3.out.below hb
      clear hb
      have k0 := S4.out.2.1
      have k1 := S4.out.2.2
      have k2 := C3.out.2.1
      have k3 := C3.out.2.2.1
      go_wp2_with fail
      refine (pPercent_at born l a N cap n P G _ HN.out LY3.out (by unfold maxLen; omega) R3.out HP.out).mono ?_
      rintro e' w4 ⟨rfl, hb⟩
      have B4 : Hid (Below w.heap.size w w4) := below_on B3.out (Nat.le_refl _) hb
      have LY4 : Hid (Laid w4) := LY3.out.below hb
      have R4 : Hid (RowK w4 a l) := R3.out.below hb
      have C4 : Hid (Has3 w4 w.heap.size f t p) := C3.out.below hb
      have hz4 := C4.out.1
      clear hb k0 k1 k2 k3
      have k2 := C4.out.2.1
      have k3 := C4.out.2.2.1
      have k4 := C4.out.2.2.2
      go_wp2
      go_region_held3 (fun w' => w'.cell? ⟨w.heap.size, 0, none⟩ = some (.int .i64 f) ∧ w'.cell? ⟨w.heap.size, 1, none⟩ = some (.int .i64 t) ∧ w'.cell? ⟨w.heap.size, 2, none⟩ = some (.int .i64 p)) (first | go_keep | exact (Has3.below C4.out BW.out).2)
            (first
            | (refine step_append_any _ (by rfl) _ _ _ (by rfl) w4.heap.size 23 i0 _ 3 24 Tryd.underlying24 HI.out.1 HI.out.2.1 HI.out.2.2.1 HI.out.2.2.2 rfl (by omega) (.slice (some ⟨w4.heap.size, 0, none⟩) 0 0) 0 [] (by rfl) (ap_e1 w4 _ _) a N cap (flatK l) (by rfl) HNA.out (by rw [flatK_len, HN.out]) (fun ad had j u hj => R4.out.news (below_box w4 _).drew ad had j u hj) (flatK_one l) (by unfold maxLen; omega) (by omega) (by first | exact Nat.le_refl _ | omega | (simp <;> omega)) ?_; intro v1 wa hown hgrow; have T1 := ap_one (below_box w4 _).drew (by first | exact Nat.le_refl _ | omega) hown hgrow; have HO1 : Hid (wa.ownsRow w4.heap.size 23 3 v1 N (flatK l)) := T1.1; have BW : Hid (Below w4.heap.size w4 wa) := T1.2;  clear T1 hown hgrow)
            | (refine step_append_any _ (by rfl) _ _ _ (by rfl) w4.heap.size 23 i0 _ 3 24 Tryd.underlying24 HI.out.1 HI.out.2.1 HI.out.2.2.1 HI.out.2.2.2 rfl (by omega) (.slice (some ⟨w4.heap.size, 0, none⟩) 0 0) 0 [] (by rfl) (ap_e1' w4 _ _ _) a N cap (flatK l) (by rfl) HNA.out (by rw [flatK_len, HN.out]) (fun ad had j u hj => R4.out.news ((below_box w4 _).alloc (by simp) _).drew ad had j u hj) (flatK_one l) (by unfold maxLen; omega) (by omega) (by first | exact Nat.le_refl _ | omega | (simp <;> omega)) ?_; intro v1 wa hown hgrow; have T1 := ap_one ((below_box w4 _).alloc (by simp) _).drew (by first | exact Nat.le_refl _ | omega) hown hgrow; have HO1 : Hid (wa.ownsRow w4.heap.size 23 3 v1 N (flatK l)) := T1.1; have BW : Hid (Below w4.heap.size w4 wa) := T1.2; have HMB : Hid (wa.heap[w4.heap.size + 1]? = some (.cells #[.int .i64 f, .int .i64 t, .int .i64 p] 23 (0, 0))) := ap_m2 hgrow; clear T1 hown hgrow)
            | (refine step_append_any _ (by rfl) _ _ _ (by rfl) w4.heap.size 23 i0 _ 3 24 Tryd.underlying24 HI.out.1 HI.out.2.1 HI.out.2.2.1 HI.out.2.2.2 rfl (by omega) (.slice (some ⟨w4.heap.size + 1, 0, none⟩) 0 0) 0 [] (by rfl) (ap_e2 w4 _ _ _) a N cap (flatK l) (by rfl) HNA.out (by rw [flatK_len, HN.out]) (fun ad had j u hj => R4.out.news ((below_box w4 _).alloc (by simp) _).drew ad had j u hj) (flatK_one l) (by unfold maxLen; omega) (by omega) (by first | exact Nat.le_refl _ | omega | (simp <;> omega)) ?_; intro v1 wa hown hgrow; have T1 := ap_one ((below_box w4 _).alloc (by simp) _).drew (by first | exact Nat.le_refl _ | omega) hown hgrow; have HO1 : Hid (wa.ownsRow w4.heap.size 23 3 v1 N (flatK l)) := T1.1; have BW : Hid (Below w4.heap.size w4 wa) := T1.2; have HMB : Hid (wa.heap[w4.heap.size]? = some (.cells #[.int .i64 f, .int .i64 t, .int .i64 p] 23 (0, 0))) := ap_m1 hgrow; clear T1 hown hgrow)
            | (refine step_append_lies _ (by rfl) _ _ _ (by rfl) w4.heap.size 23 i0 _ 3 24 Tryd.underlying24 HI.out.1 HI.out.2.1 HI.out.2.2.1 HI.out.2.2.2 rfl (by omega) v1 N (flatK l) (by rfl) (World.ownsRow.alloc HO1.out _) ⟨wa.heap.size, 0, none⟩ 1 1 [.int .i64 f, .int .i64 t, .int .i64 p] (by rfl) (by rfl) (World.news_of_block (heap_alloc_new wa _)) HOP.out (by omega) (by unfold maxLen; omega) (by omega) (by have := BW.out.size; first | exact this | (simp <;> omega)) _ rfl ?_; intro g2 c2 wb hown hgrow hat hlt; have T2 := ap_two (BW.out.alloc BW.out.size _) (World.ownsRow.alloc HO1.out _) hown hgrow; have HO2 : Hid (wb.ownsRow w4.heap.size 23 3 (.slice (some ⟨g2, 0, none⟩) (N + 1) c2) (N + 1) (flatK l ++ [.int .i64 f, .int .i64 t, .int .i64 p])) := T2.1; have BW : Hid (Below w4.heap.size w4 wb) := T2.2; have RK : Hid (RowK wb (some ⟨g2, 0, none⟩) (l ++ [⟨f, t, p⟩])) := ownK_row HN1.out (by rw [← flatK_snoc]; exact HO2.out); clear T2 hown hgrow hat hlt)
            | (refine step_append_lies _ (by rfl) _ _ _ (by rfl) w4.heap.size 23 i0 _ 3 24 Tryd.underlying24 HI.out.1 HI.out.2.1 HI.out.2.2.1 HI.out.2.2.2 rfl (by omega) v1 N (flatK l) (by rfl) HO1.out ⟨w4.heap.size + 1, 0, none⟩ 1 1 [.int .i64 f, .int .i64 t, .int .i64 p] (by rfl) (by rfl) (World.news_of_block HMB.out) HOP.out (by omega) (by unfold maxLen; omega) (by omega) (by have := BW.out.size; first | exact this | (simp <;> omega)) _ rfl ?_; intro g2 c2 wb hown hgrow hat hlt; have T2 := ap_two BW.out HO1.out hown hgrow; have HO2 : Hid (wb.ownsRow w4.heap.size 23 3 (.slice (some ⟨g2, 0, none⟩) (N + 1) c2) (N + 1) (flatK l ++ [.int .i64 f, .int .i64 t, .int .i64 p])) := T2.1; have BW : Hid (Below w4.heap.size w4 wb) := T2.2; have RK : Hid (RowK wb (some ⟨g2, 0, none⟩) (l ++ [⟨f, t, p⟩])) := ownK_row HN1.out (by rw [← flatK_snoc]; exact HO2.out); clear T2 hown hgrow hat hlt)
            | (refine step_append_lies _ (by rfl) _ _ _ (by rfl) w4.heap.size 23 i0 _ 3 24 Tryd.underlying24 HI.out.1 HI.out.2.1 HI.out.2.2.1 HI.out.2.2.2 rfl (by omega) v1 N (flatK l) (by rfl) HO1.out ⟨w4.heap.size, 0, none⟩ 1 1 [.int .i64 f, .int .i64 t, .int .i64 p] (by rfl) (by rfl) (World.news_of_block HMB.out) HOP.out (by omega) (by unfold maxLen; omega) (by omega) (by have := BW.out.size; first | exact this | (simp <;> omega)) _ rfl ?_; intro g2 c2 wb hown hgrow hat hlt; have T2 := ap_two BW.out HO1.out hown hgrow; have HO2 : Hid (wb.ownsRow w4.heap.size 23 3 (.slice (some ⟨g2, 0, none⟩) (N + 1) c2) (N + 1) (flatK l ++ [.int .i64 f, .int .i64 t, .int .i64 p])) := T2.1; have BW : Hid (Below w4.heap.size w4 wb) := T2.2; have RK : Hid (RowK wb (some ⟨g2, 0, none⟩) (l ++ [⟨f, t, p⟩])) := ownK_row HN1.out (by rw [← flatK_snoc]; exact HO2.out); clear T2 hown hgrow hat hlt)
            | (go_at_call 10; refine (pPercent_at born (l ++ [⟨f, t, p⟩]) (some ⟨g2, 0, none⟩) (N + 1) c2 n Q H _ HN1.out (LY4.out.below BW.out) (by unfold maxLen; omega) RK.out HQ.out).mono ?_; rintro e w6 ⟨rfl, hb6⟩; have BW : Hid (Below w4.heap.size w4 w6) := below_on BW.out (Nat.le_refl _) hb6; clear hb6))
      all_goals
        have B6 : Hid (Below w.heap.size w w6) := below_on B4.out (Nat.le_refl _) BW.out
        have k5 := (Has3.below C4.out BW.out).2.2.2
        clear k2 k3 k4
        by_cases hg0 : G = 0
        · by_cases hh0 : H = 0
          · have hfac := HFAC.out hg0 hh0
            have v1' : decide (P ≤ Q) = true := decide_eq_true hfac.1
            have v2 : (Q == P) = true := by rw [beq_iff_eq]; exact hfac.2
            clear hfac
            subst hg0 hh0
            go_wp2
            go_ret
            exact ⟨rfl, B6.out⟩
          · have hh1 : (H != 0) = true := by simpa using hh0
            subst hg0
            clear hh0
            go_wp2
            go_ret
            exact ⟨rfl, B6.out⟩
        · have hg1 : (G != 0) = true := by simpa using hg0
          clear hg0
          go_wp2
          go_ret
          exact ⟨rfl, B6.out⟩
    · have HFAC : Hid (G = 0 → H = 0 → P ≤ Q ∧ Q = P) := fun g0 h0 => ⟨(HMO.out g0 h0).1, (HMO.out g0 h0).2.2 (by omega)⟩
      have g1 : decide (F ≤ n) = true := decide_eq_true q1
      have g2 : decide (n < T) = false := decide_eq_false (by omega)
      have q0b : (e == 0) = false := by simpa using q0
      have q3b : (e == 2) = false := by simpa using q3
      clear q0 q3
      go_enter Tryd.func6, Tryd.ntmps6
      go_wp2_with fail
      refine (pWindow_at born f t p F T 0 _ LY0.out HWN.out.1 HWN.out.2.1 HWN.out.2.2).mono ?_
      rintro e' w1 ⟨rfl, hb⟩
      have B1 : Hid (Below w.heap.size w (w1.alloc (.cells #[.int .i64 F, .int .i64 T] 29))) := below_on (below_on B0.out (Nat.le_refl _) hb) (Nat.le_refl _) (below_box w1 _)
      have LY1 : Hid (Laid (w1.alloc (.cells #[.int .i64 F, .int .i64 T] 29))) := (LY0.out.below hb).below (below_box w1 _)
      have R1 : Hid (RowK (w1.alloc (.cells #[.int .i64 F, .int .i64 T] 29)) a l) := (R0.out.below hb).below (below_box w1 _)
      have C1 : Hid (Has3 (w1.alloc (.cells #[.int .i64 F, .int .i64 T] 29)) w.heap.size f t p) := (C0.out.below hb).below (below_box w1 _)
      have S1 : Hid (S2 (w1.alloc (.cells #[.int .i64 F, .int .i64 T] 29)) w1.heap.size F T) := S2.new w1 F T 29
      clear hb
      go_wp2_with fail
      refine (pbegun_any _ LY1.out).mono ?_
      rintro e' w2 ⟨rfl, hb⟩
      have B2 : Hid (Below w.heap.size w w2) := below_on B1.out (Nat.le_refl _) hb
      have LY2 : Hid (Laid w2) := LY1.out.below hb
      have R2 : Hid (RowK w2 a l) := R1.out.below hb
      have C2 : Hid (Has3 w2 w.heap.size f t p) := C1.out.below hb
      have S3 : Hid (S2 w2 w1.heap.size F T) := S1.out.below hb
      clear hb
      go_wp2_with fail
      refine (pAge_any born n x e _ LY2.out HX.out).mono ?_
      rintro e' w3 ⟨rfl, hb⟩
      have B3 : Hid (Below w.heap.size w w3) := below_on B2.out (Nat.le_refl _) hb
      have LY3 : Hid (Laid w3) := LY2.out.below hb
      have R3 : Hid (RowK w3 a l) := R2.out.below hb
      have C3 : Hid (Has3 w3 w.heap.size f t p) := C2.out.below hb
      have S4 : Hid (S2 w3 w1.heap.size F T) := S3.out.below hb
      clear hb
      have k0 := S4.out.2.1
      have k1 := S4.out.2.2
      have k2 := C3.out.2.1
      have k3 := C3.out.2.2.1
      go_wp2_with fail
      refine (pPercent_at born l a N cap n P G _ HN.out LY3.out (by unfold maxLen; omega) R3.out HP.out).mono ?_
      rintro e' w4 ⟨rfl, hb⟩
      have B4 : Hid (Below w.heap.size w w4) := below_on B3.out (Nat.le_refl _) hb
      have LY4 : Hid (Laid w4) := LY3.out.below hb
      have R4 : Hid (RowK w4 a l) := R3.out.below hb
      have C4 : Hid (Has3 w4 w.heap.size f t p) := C3.out.below hb
      have hz4 := C4.out.1
      clear hb k0 k1 k2 k3
      have k2 := C4.out.2.1
      have k3 := C4.out.2.2.1
      have k4 := C4.out.2.2.2
      go_wp2
      go_region_held3 (fun w' => w'.cell? ⟨w.heap.size, 0, none⟩ = some (.int .i64 f) ∧ w'.cell? ⟨w.heap.size, 1, none⟩ = some (.int .i64 t) ∧ w'.cell? ⟨w.heap.size, 2, none⟩ = some (.int .i64 p)) (first | go_keep | exact (Has3.below C4.out BW.out).2)
            (first
            | (refine step_append_any _ (by rfl) _ _ _ (by rfl) w4.heap.size 23 i0 _ 3 24 Tryd.underlying24 HI.out.1 HI.out.2.1 HI.out.2.2.1 HI.out.2.2.2 rfl (by omega) (.slice (some ⟨w4.heap.size, 0, none⟩) 0 0) 0 [] (by rfl) (ap_e1 w4 _ _) a N cap (flatK l) (by rfl) HNA.out (by rw [flatK_len, HN.out]) (fun ad had j u hj => R4.out.news (below_box w4 _).drew ad had j u hj) (flatK_one l) (by unfold maxLen; omega) (by omega) (by first | exact Nat.le_refl _ | omega | (simp <;> omega)) ?_; intro v1 wa hown hgrow; have T1 := ap_one (below_box w4 _).drew (by first | exact Nat.le_refl _ | omega) hown hgrow; have HO1 : Hid (wa.ownsRow w4.heap.size 23 3 v1 N (flatK l)) := T1.1; have BW : Hid (Below w4.heap.size w4 wa) := T1.2;  clear T1 hown hgrow)
            | (refine step_append_any _ (by rfl) _ _ _ (by rfl) w4.heap.size 23 i0 _ 3 24 Tryd.underlying24 HI.out.1 HI.out.2.1 HI.out.2.2.1 HI.out.2.2.2 rfl (by omega) (.slice (some ⟨w4.heap.size, 0, none⟩) 0 0) 0 [] (by rfl) (ap_e1' w4 _ _ _) a N cap (flatK l) (by rfl) HNA.out (by rw [flatK_len, HN.out]) (fun ad had j u hj => R4.out.news ((below_box w4 _).alloc (by simp) _).drew ad had j u hj) (flatK_one l) (by unfold maxLen; omega) (by omega) (by first | exact Nat.le_refl _ | omega | (simp <;> omega)) ?_; intro v1 wa hown hgrow; have T1 := ap_one ((below_box w4 _).alloc (by simp) _).drew (by first | exact Nat.le_refl _ | omega) hown hgrow; have HO1 : Hid (wa.ownsRow w4.heap.size 23 3 v1 N (flatK l)) := T1.1; have BW : Hid (Below w4.heap.size w4 wa) := T1.2; have HMB : Hid (wa.heap[w4.heap.size + 1]? = some (.cells #[.int .i64 f, .int .i64 t, .int .i64 p] 23 (0, 0))) := ap_m2 hgrow; clear T1 hown hgrow)
            | (refine step_append_any _ (by rfl) _ _ _ (by rfl) w4.heap.size 23 i0 _ 3 24 Tryd.underlying24 HI.out.1 HI.out.2.1 HI.out.2.2.1 HI.out.2.2.2 rfl (by omega) (.slice (some ⟨w4.heap.size + 1, 0, none⟩) 0 0) 0 [] (by rfl) (ap_e2 w4 _ _ _) a N cap (flatK l) (by rfl) HNA.out (by rw [flatK_len, HN.out]) (fun ad had j u hj => R4.out.news ((below_box w4 _).alloc (by simp) _).drew ad had j u hj) (flatK_one l) (by unfold maxLen; omega) (by omega) (by first | exact Nat.le_refl _ | omega | (simp <;> omega)) ?_; intro v1 wa hown hgrow; have T1 := ap_one ((below_box w4 _).alloc (by simp) _).drew (by first | exact Nat.le_refl _ | omega) hown hgrow; have HO1 : Hid (wa.ownsRow w4.heap.size 23 3 v1 N (flatK l)) := T1.1; have BW : Hid (Below w4.heap.size w4 wa) := T1.2; have HMB : Hid (wa.heap[w4.heap.size]? = some (.cells #[.int .i64 f, .int .i64 t, .int .i64 p] 23 (0, 0))) := ap_m1 hgrow; clear T1 hown hgrow)
            | (refine step_append_lies _ (by rfl) _ _ _ (by rfl) w4.heap.size 23 i0 _ 3 24 Tryd.underlying24 HI.out.1 HI.out.2.1 HI.out.2.2.1 HI.out.2.2.2 rfl (by omega) v1 N (flatK l) (by rfl) (World.ownsRow.alloc HO1.out _) ⟨wa.heap.size, 0, none⟩ 1 1 [.int .i64 f, .int .i64 t, .int .i64 p] (by rfl) (by rfl) (World.news_of_block (heap_alloc_new wa _)) HOP.out (by omega) (by unfold maxLen; omega) (by omega) (by have := BW.out.size; first | exact this | (simp <;> omega)) _ rfl ?_; intro g2 c2 wb hown hgrow hat hlt; have T2 := ap_two (BW.out.alloc BW.out.size _) (World.ownsRow.alloc HO1.out _) hown hgrow; have HO2 : Hid (wb.ownsRow w4.heap.size 23 3 (.slice (some ⟨g2, 0, none⟩) (N + 1) c2) (N + 1) (flatK l ++ [.int .i64 f, .int .i64 t, .int .i64 p])) := T2.1; have BW : Hid (Below w4.heap.size w4 wb) := T2.2; have RK : Hid (RowK wb (some ⟨g2, 0, none⟩) (l ++ [⟨f, t, p⟩])) := ownK_row HN1.out (by rw [← flatK_snoc]; exact HO2.out); clear T2 hown hgrow hat hlt)
            | (refine step_append_lies _ (by rfl) _ _ _ (by rfl) w4.heap.size 23 i0 _ 3 24 Tryd.underlying24 HI.out.1 HI.out.2.1 HI.out.2.2.1 HI.out.2.2.2 rfl (by omega) v1 N (flatK l) (by rfl) HO1.out ⟨w4.heap.size + 1, 0, none⟩ 1 1 [.int .i64 f, .int .i64 t, .int .i64 p] (by rfl) (by rfl) (World.news_of_block HMB.out) HOP.out (by omega) (by unfold maxLen; omega) (by omega) (by have := BW.out.size; first | exact this | (simp <;> omega)) _ rfl ?_; intro g2 c2 wb hown hgrow hat hlt; have T2 := ap_two BW.out HO1.out hown hgrow; have HO2 : Hid (wb.ownsRow w4.heap.size 23 3 (.slice (some ⟨g2, 0, none⟩) (N + 1) c2) (N + 1) (flatK l ++ [.int .i64 f, .int .i64 t, .int .i64 p])) := T2.1; have BW : Hid (Below w4.heap.size w4 wb) := T2.2; have RK : Hid (RowK wb (some ⟨g2, 0, none⟩) (l ++ [⟨f, t, p⟩])) := ownK_row HN1.out (by rw [← flatK_snoc]; exact HO2.out); clear T2 hown hgrow hat hlt)
            | (refine step_append_lies _ (by rfl) _ _ _ (by rfl) w4.heap.size 23 i0 _ 3 24 Tryd.underlying24 HI.out.1 HI.out.2.1 HI.out.2.2.1 HI.out.2.2.2 rfl (by omega) v1 N (flatK l) (by rfl) HO1.out ⟨w4.heap.size, 0, none⟩ 1 1 [.int .i64 f, .int .i64 t, .int .i64 p] (by rfl) (by rfl) (World.news_of_block HMB.out) HOP.out (by omega) (by unfold maxLen; omega) (by omega) (by have := BW.out.size; first | exact this | (simp <;> omega)) _ rfl ?_; intro g2 c2 wb hown hgrow hat hlt; have T2 := ap_two BW.out HO1.out hown hgrow; have HO2 : Hid (wb.ownsRow w4.heap.size 23 3 (.slice (some ⟨g2, 0, none⟩) (N + 1) c2) (N + 1) (flatK l ++ [.int .i64 f, .int .i64 t, .int .i64 p])) := T2.1; have BW : Hid (Below w4.heap.size w4 wb) := T2.2; have RK : Hid (RowK wb (some ⟨g2, 0, none⟩) (l ++ [⟨f, t, p⟩])) := ownK_row HN1.out (by rw [← flatK_snoc]; exact HO2.out); clear T2 hown hgrow hat hlt)
            | (go_at_call 10; refine (pPercent_at born (l ++ [⟨f, t, p⟩]) (some ⟨g2, 0, none⟩) (N + 1) c2 n Q H _ HN1.out (LY4.out.below BW.out) (by unfold maxLen; omega) RK.out HQ.out).mono ?_; rintro e w6 ⟨rfl, hb6⟩; have BW : Hid (Below w4.heap.size w4 w6) := below_on BW.out (Nat.le_refl _) hb6; clear hb6))
      all_goals
        have B6 : Hid (Below w.heap.size w w6) := below_on B4.out (Nat.le_refl _) BW.out
        have k5 := (Has3.below C4.out BW.out).2.2.2
        clear k2 k3 k4
        by_cases hg0 : G = 0
        · by_cases hh0 : H = 0
          · have hfac := HFAC.out hg0 hh0
            have v1' : decide (P ≤ Q) = true := decide_eq_true hfac.1
            have v2 : (Q == P) = true := by rw [beq_iff_eq]; exact hfac.2
            clear hfac
            subst hg0 hh0
            go_wp2
            go_ret
            exact ⟨rfl, B6.out⟩
          · have hh1 : (H != 0) = true := by simpa using hh0
            subst hg0
            clear hh0
            go_wp2
            go_ret
            exact ⟨rfl, B6.out⟩
        · have hg1 : (G != 0) = true := by simpa using hg0
          clear hg0
          go_wp2
          go_ret
          exact ⟨rfl, B6.out⟩
  · have e1 : (we != 0) = true := by simpa using e0
    obtain rfl : F = 0 := by rw [← hF]; unfold Prs.winF; rw [if_neg (by rw [hE]; exact e0)]
    obtain rfl : T = 0 := by rw [← hT]; unfold Prs.winT; rw [if_neg (by rw [hE]; exact e0)]
    clear hF hT hE hN hw hn hr e0
    go_enter Tryd.func6, Tryd.ntmps6
    go_wp2_with fail
    refine (pWindow_at born f t p 0 0 we _ LY0.out HWN.out.1 HWN.out.2.1 HWN.out.2.2).mono ?_
    rintro e w1 ⟨rfl, hb⟩
    have B1 : Hid (Below w.heap.size w w1) := below_on B0.out (Nat.le_refl _) hb
    have LY1 : Hid (Laid w1) := LY0.out.below hb
    clear hb
    have KB : Hid (Below w1.heap.size w1 (w1.alloc (.cells #[.int .i64 0, .int .i64 0] 29))) := below_box w1 _
    have S1 : Hid (S2 (w1.alloc (.cells #[.int .i64 0, .int .i64 0] 29)) w1.heap.size 0 0) := S2.new w1 0 0 29
    go_wp2_with fail
    refine (pbegun_any _ (LY1.out.below KB.out)).mono ?_
    rintro e w2 ⟨rfl, hb⟩
    have B2 : Hid (Below w.heap.size w w2) := below_on (below_on B1.out (Nat.le_refl _) KB.out) (Nat.le_refl _) hb
    have S3 : Hid (S2 w2 w1.heap.size 0 0) := S1.out.below hb
    clear hb
    have k0 := S3.out.2.1
    have k1 := S3.out.2.2
    go_wp2
    go_ret
    exact ⟨rfl, B2.out⟩
end Go.Proofs.YtfncfbbkkpdhkaaDoor
