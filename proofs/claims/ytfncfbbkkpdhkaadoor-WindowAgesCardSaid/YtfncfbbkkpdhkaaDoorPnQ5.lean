/- The program's persons: what is off on a day. -/
import Derived.Test.YtfncfbbkkpdhkaaDoorPnQ4
namespace Go.Proofs.YtfncfbbkkpdhkaaDoor
open Go.RowKit

namespace Prs
/-- the greatest percent of the classes in whose window a day lies -/
def mb (s n : Int) (b : Int) : List Kl → Int
  | [] => b
  | c :: r => mb s n (if winF s c ≤ n ∧ n ≤ winT s c - 1 then max b c.p else b) r
theorem mb_step {s n b : Int} {l : List Kl} {k : Nat} {c : Kl} (h : l[k]? = some c) : mb s n b (l.drop k) = mb s n (if winF s c ≤ n ∧ n ≤ winT s c - 1 then max b c.p else b) (l.drop (k + 1)) := by
  rw [kdrop h]; rfl
theorem win_in {s n a e : Int} {c : Kl} (hw : winE s c = 0) (ha : AgeAns s n a e) (hn : ¬ bad n) : (winF s c ≤ n ∧ n ≤ winT s c - 1) ↔ (e = 0 ∧ c.f ≤ a ∧ a ≤ c.t) := by
  obtain ⟨hs, hc, ht⟩ := winE_zero hw
  have e1 : winF s c = tns s c.f := by unfold winF; rw [if_pos hw]
  have e2 : winT s c = tns s (c.t + 1) := by unfold winT; rw [if_pos hw]
  rw [e1, e2]
  have hcb : 0 ≤ c.f ∧ c.f ≤ c.t ∧ c.t ≤ 149 := by unfold Kl.bad at hc; omega
  rcases ha with h | h | ⟨_, _, h3, y, m, d, b, hd, hnum, hag, hres⟩
  · exact absurd h.1 (fun q => q.elim hs hn)
  · obtain ⟨_, _, h1, h2, h3⟩ := h
    obtain ⟨y, m, d, hd, hnum⟩ := date_of hs
    have h4 : s ≤ tns s c.f := by
      have := (tns_mono hs (Int.le_refl 0) hcb.1 (tns_mono hs hcb.1 (show c.f ≤ c.t + 1 by omega) ht).1).2.1
      rw [tns_is hd hnum 0, tn_zero y m d hd, hnum] at this
      exact this
    constructor
    · intro q; omega
    · intro q; omega
  · rw [tns_is hd hnum, tns_is hd hnum]
    rw [tns_is hd hnum] at ht
    have := window hd hcb.1 hcb.2.1 ht hag
    constructor
    · intro q
      have h5 := this.1 ⟨q.1, by omega⟩
      omega
    · intro q
      have h5 := this.2 (by omega)
      omega
theorem mb_best {s n a e : Int} (ha : AgeAns s n a e) (hn : ¬ bad n) : ∀ (l : List Kl) (b : Int), winsE s l = 0 → mb s n b l = if e = 0 then best a b l else b
  | [], b, _ => by unfold mb best; split <;> rfl
  | c :: r, b, h => by
    have hw : winE s c = 0 := by
      unfold winsE at h
      by_cases q : winE s c = 0
      · exact q
      · rw [if_neg q] at h; exact h
    have hr : winsE s r = 0 := by unfold winsE at h; rw [if_pos hw] at h; exact h
    have hi := win_in hw ha hn
    show mb s n (if winF s c ≤ n ∧ n ≤ winT s c - 1 then max b c.p else b) r = _
    rw [mb_best ha hn r _ hr]
    by_cases he : e = 0
    · rw [if_pos he, if_pos he]
      show _ = best a (if c.f ≤ a ∧ a ≤ c.t ∧ b < c.p then c.p else b) r
      congr 1
      by_cases q : winF s c ≤ n ∧ n ≤ winT s c - 1
      · have := hi.1 q
        rw [if_pos q]
        by_cases q2 : b < c.p
        · rw [if_pos (by omega)]; omega
        · rw [if_neg (by omega)]; omega
      · rw [if_neg q, if_neg (by intro q3; exact q (hi.2 ⟨he, q3.1, q3.2.1⟩))]
    · rw [if_neg he, if_neg he, if_neg (fun q => he (hi.1 q).1)]
end Prs
set_option maxRecDepth 100000 in
set_option maxHeartbeats 4000000 in
theorem pPercent_any (s : Int) (l : List Prs.Kl) (a : Option Addr) (cap : Nat) (n X E : Int) (w : World) (hw : Laid w) (hl : l.length ≤ maxLen) (hr : RowK w a l) (h : Prs.PctAns s l n X E) :
    Calls Tryd.prog 10 #[.int .i64 s, .slice a l.length cap, .int .i64 n] w fun e w' => e = .returned (.tuple #[.int .i64 X, .int .i64 E]) ∧ Below w.heap.size w w' := by
  have R : Hid (RowK w a l) := hr
  have HW : Hid (Laid w) := hw
  obtain ⟨N, hN⟩ : ∃ N, l.length = N := ⟨_, rfl⟩
  have HN : Hid (l.length = N) := hN
  unfold maxLen at hl
  by_cases h8 : 8 < N
  · have e : E = 2 := by have := h.1; unfold Prs.pctE at this; rw [if_pos (by omega)] at this; exact this
    have e2 : X = 0 := by rcases h.2 with q | q; exact q.2; omega
    subst e e2
    have h8' : (8 : Int) < (N : Int) := by omega
    rw [hN] at hl ⊢
    clear hr h hN hw
    go_enter Tryd.func10, Tryd.ntmps10
    go_wp2
    go_ret2
    exact ⟨rfl, Below.refl _ _⟩
  · have h8' : ¬ (8 : Int) < (N : Int) := by omega
    have he : E = if Prs.winsE s l = 0 then (if Prs.bad n then 3 else 0) else Prs.winsE s l := by have := h.1; unfold Prs.pctE at this; rw [if_neg (by omega)] at this; exact this
    have HE : Hid (E = if Prs.winsE s l = 0 then (if Prs.bad n then 3 else 0) else Prs.winsE s l) := he
    have HP : Hid (Prs.PctAns s l n X E) := h
    rw [hN] at hl ⊢
    clear hr h hN hw he
    go_enter Tryd.func10, Tryd.ntmps10
    go_wp2
    go_loopw [8, 18] (fun sv iv wr => ∃ (k : Nat) (v : Int), k ≤ N ∧ iv = .int .i64 k ∧ sv = .int .i64 v ∧ 0 ≤ v ∧ v ≤ 100 ∧ Prs.winsE s l = Prs.winsE s (l.drop k) ∧ Prs.mb s n 0 l = Prs.mb s n v (l.drop k) ∧ Below w.heap.size w wr) (fun _ iv _ => N - (intOf iv).toNat)
    case atStart => exact ⟨0, 0, Nat.zero_le _, rfl, rfl, by omega, by omega, by rw [List.drop_zero], by rw [List.drop_zero], Below.refl _ _⟩
    case round =>
      obtain ⟨k, v, hk, rfl, rfl, v0, v1, hwe, hmb, hb⟩ := hrel
      have HWE : Hid (Prs.winsE s l = Prs.winsE s (l.drop k)) := hwe
      have HMB : Hid (Prs.mb s n 0 l = Prs.mb s n v (l.drop k)) := hmb
      have HB : Hid (Below w.heap.size w wr) := hb
      have HL : Hid (Laid wr) := HW.out.below hb
      clear hwe hmb hb
      by_cases hlt : k < N
      · have hlt' : (k : Int) < (N : Int) := by omega
        obtain ⟨b, off, f, t, p, rfl, hbs, hx, c0, c1, c2⟩ := (R.out.below HB.out).at (k := k) (by rw [HN.out]; exact hlt)
        have HX : Hid (l[k]? = some ⟨f, t, p⟩) := hx
        clear hx
        obtain ⟨e, he⟩ : ∃ e, Prs.winE s ⟨f, t, p⟩ = e := ⟨_, rfl⟩
        obtain ⟨F, hF⟩ : ∃ F, Prs.winF s ⟨f, t, p⟩ = F := ⟨_, rfl⟩
        obtain ⟨T, hT⟩ : ∃ T, Prs.winT s ⟨f, t, p⟩ = T := ⟨_, rfl⟩
        have HCW : Hid (Calls Tryd.prog 9 #[.int .i64 s, .agg #[.int .i64 f, .int .i64 t, .int .i64 p]] (wr.alloc (.cells #[.int .i64 f, .int .i64 t, .int .i64 p] 23)) fun e' w' => e' = .returned (.tuple #[.agg #[.int .i64 F, .int .i64 T], .int .i64 e]) ∧ Below (wr.alloc (.cells #[.int .i64 f, .int .i64 t, .int .i64 p] 23)).heap.size (wr.alloc (.cells #[.int .i64 f, .int .i64 t, .int .i64 p] 23)) w') := pWindow_at s f t p F T e _ (HL.out.alloc _) hF hT he
        have HSE : Hid (Prs.winsE s (l.drop k) = if e = 0 then Prs.winsE s (l.drop (k + 1)) else e) := by show _ = _; rw [Prs.winsE_step HX.out, he]
        have HSM : Hid (Prs.mb s n v (l.drop k) = Prs.mb s n (if F ≤ n ∧ n ≤ T - 1 then max v p else v) (l.drop (k + 1))) := by show _ = _; rw [Prs.mb_step HX.out, hF, hT]
        by_cases e0 : e = 0
        · subst e0
          obtain ⟨hs, hc, ht⟩ := Prs.winE_zero he
          have g : 0 ≤ f ∧ f ≤ t ∧ t ≤ 149 ∧ 0 ≤ p ∧ p ≤ 100 := by unfold Prs.Kl.bad at hc; simp only at hc; omega
          obtain ⟨g1, g2, g3, g4, g5⟩ := g
          have hT1 : 1 ≤ T := by
            have e2 : Prs.winT s ⟨f, t, p⟩ = Prs.tns s (t + 1) := by unfold Prs.winT; rw [if_pos he]
            have := Prs.tns_mono hs g1 (show f ≤ t + 1 by omega) ht
            omega
          have hT2 : T ≤ 3652059 := by
            have e2 : Prs.winT s ⟨f, t, p⟩ = Prs.tns s (t + 1) := by unfold Prs.winT; rw [if_pos he]
            have := Prs.tns_mono hs g1 (show f ≤ t + 1 by omega) ht
            omega
          have HSE2 : Hid (Prs.winsE s l = Prs.winsE s (l.drop (k + 1))) := by show _ = _; rw [HWE.out, HSE.out]; rfl
          clear he hF hT hs hc ht
          by_cases hin : F ≤ n ∧ n ≤ T - 1
          · have HIN : Hid (decide (F ≤ n ∧ n ≤ T - 1) = true) := decide_eq_true hin
            have HM2 : Hid (Prs.mb s n 0 l = Prs.mb s n (max v p) (l.drop (k + 1))) := by show _ = _; rw [HMB.out, HSM.out, if_pos hin]
            clear hin
            go_wp2_with fail
            refine HCW.out.mono ?_; rintro e w1 ⟨rfl, hb1⟩
            have k2 := (has3_keep hb1).2.2
            have HB1 : Hid (Below w.heap.size w w1) := below_on HB.out (Nat.le_refl _) (below_on (below_box wr _) (Nat.le_refl _) hb1)
            have hz : wr.heap.size < w1.heap.size := Nat.lt_of_lt_of_le (by simp) hb1.size
            have hne : wr.heap.size ≠ w1.heap.size := by omega
            clear hb1 c0 c1 c2
            go_wp2_with fail
            refine (qwithin_is n F (T - 1) _ _ HIN.out).mono ?_; rintro e w2 ⟨rfl, rfl⟩
            go_wp2
            go_roundw
            case rel => exact ⟨k + 1, max v p, by omega, by go_num, by congr 1; split <;> omega, by omega, by omega, HSE2.out, HM2.out, below_on HB1.out (Nat.le_refl _) (below_box _ _)⟩
            case measure => simp [intOf]; omega
          · have HIN : Hid (decide (F ≤ n ∧ n ≤ T - 1) = false) := decide_eq_false hin
            have HM2 : Hid (Prs.mb s n 0 l = Prs.mb s n v (l.drop (k + 1))) := by show _ = _; rw [HMB.out, HSM.out, if_neg hin]
            clear hin
            go_wp2_with fail
            refine HCW.out.mono ?_; rintro e w1 ⟨rfl, hb1⟩
            have k2 := (has3_keep hb1).2.2
            have HB1 : Hid (Below w.heap.size w w1) := below_on HB.out (Nat.le_refl _) (below_on (below_box wr _) (Nat.le_refl _) hb1)
            have hz : wr.heap.size < w1.heap.size := Nat.lt_of_lt_of_le (by simp) hb1.size
            have hne : wr.heap.size ≠ w1.heap.size := by omega
            clear hb1 c0 c1 c2
            go_wp2_with fail
            refine (qwithin_is n F (T - 1) _ _ HIN.out).mono ?_; rintro e w2 ⟨rfl, rfl⟩
            go_wp2
            go_roundw
            case rel => exact ⟨k + 1, v, by omega, by go_num, rfl, by omega, by omega, HSE2.out, HM2.out, below_on HB1.out (Nat.le_refl _) (below_box _ _)⟩
            case measure => simp [intOf]; omega
        · have hwe : Prs.winsE s l = e := by rw [HWE.out, HSE.out, if_neg e0]
          have hEE : E = e := by rw [HE.out, hwe, if_neg e0]
          obtain rfl : X = 0 := by rcases HP.out.2 with q | q; exact q.2; exact absurd (hEE.symm.trans q.1) e0
          subst hEE
          have e1 : (E != 0) = true := by simpa using e0
          clear hwe he hF hT e0
          go_wp2_with fail
          refine HCW.out.mono ?_; rintro e w1 ⟨rfl, hb1⟩
          have HB1 : Hid (Below w.heap.size w w1) := below_on HB.out (Nat.le_refl _) (below_on (below_box wr _) (Nat.le_refl _) hb1)
          clear hb1 c0 c1 c2
          go_wp2
          go_ret2
          exact ⟨rfl, below_on HB1.out (Nat.le_refl _) (below_box _ _)⟩
      · obtain rfl : k = N := by omega
        have hd : l.drop k = [] := by rw [List.drop_eq_nil_iff, HN.out]; exact Nat.le_refl _
        have hw0 : Prs.winsE s l = 0 := by rw [HWE.out, hd]; rfl
        have hm0 : Prs.mb s n 0 l = v := by rw [HMB.out, hd]; rfl
        by_cases hn : Prs.bad n
        · have hEE : E = 3 := by rw [HE.out, if_pos hw0, if_pos hn]
          obtain rfl : X = 0 := by rcases HP.out.2 with q | q; exact q.2; exact absurd (hEE.symm.trans q.1) (by decide)
          subst hEE
          have HNB : Hid (decide (¬ Prs.bad n) = false) := decide_eq_false (fun q => q hn)
          clear hd hw0 hm0 hn
          go_wp2_with fail
          refine (qday_is n _ _ HNB.out).mono ?_; rintro e w1 ⟨rfl, rfl⟩
          go_wp2
          go_ret2
          exact ⟨rfl, HB.out⟩
        · have hEE : E = 0 := by rw [HE.out, if_pos hw0, if_neg hn]
          obtain rfl : v = X := by
            rcases HP.out.2 with q | ⟨-, a', e', ha, q⟩
            · exact absurd hEE q.1
            · have := Prs.mb_best ha hn l 0 hw0
              rw [hm0] at this
              rcases q with q | q
              · rw [if_pos q.1] at this; rw [this, q.2]
              · rw [if_neg q.1] at this; rw [this, q.2]
          subst hEE
          have HNB : Hid (decide (¬ Prs.bad n) = true) := decide_eq_true hn
          clear hd hw0 hm0 hn
          go_wp2_with fail
          refine (qday_is n _ _ HNB.out).mono ?_; rintro e w1 ⟨rfl, rfl⟩
          go_wp2
          go_ret2
          exact ⟨rfl, HB.out⟩
end Go.Proofs.YtfncfbbkkpdhkaaDoor
