/- The reference's persons: percents. -/
import Derived.Test.YtfncfbbkkpdhkaaDoorPnRef3
import Derived.Test.YtfncfbbkkpdhkaaDoorPnRef4
import Derived.Test.YtfncfbbkkpdhkaaDoorPnRow
namespace Go.Proofs.YtfncfbbkkpdhkaaDoor
open Go.RowKit

theorem windowOf_at (s f t p X Y E : Int) (w : World) (hx : Prs.winF s ⟨f, t, p⟩ = X) (hy : Prs.winT s ⟨f, t, p⟩ = Y) (he : Prs.winE s ⟨f, t, p⟩ = E) :
    Calls Tryd.prog 13 #[.int .i64 s, .agg #[.int .i64 f, .int .i64 t, .int .i64 p]] w fun e w' => e = .returned (.tuple #[.agg #[.int .i64 X, .int .i64 Y], .int .i64 E]) ∧ Below w.heap.size w w' := by
  subst hx hy he; exact windowOf_any s ⟨f, t, p⟩ w
set_option maxRecDepth 100000 in
set_option maxHeartbeats 4000000 in
theorem percentOf_any (s : Int) (l : List Prs.Kl) (a : Option Addr) (cap : Nat) (n X E : Int) (w : World) (_hl : l.length ≤ maxLen) (hr : RowK w a l) (h : Prs.PctAns s l n X E) :
    Calls Tryd.prog 14 #[.int .i64 s, .slice a l.length cap, .int .i64 n] w fun e w' => e = .returned (.tuple #[.int .i64 X, .int .i64 E]) ∧ Below w.heap.size w w' := by
  have R : Hid (RowK w a l) := hr
  obtain ⟨N, hN⟩ : ∃ N, l.length = N := ⟨_, rfl⟩
  have HN : Hid (l.length = N) := hN
  by_cases h8 : 8 < N
  · have e : E = 2 := by have := h.1; unfold Prs.pctE at this; rw [if_pos (by omega)] at this; exact this
    have e2 : X = 0 := by rcases h.2 with q | q; exact q.2; omega
    subst e e2
    have h8' : (8 : Int) < (N : Int) := by omega
    rw [hN]
    clear hr h hN
    go_enter Tryd.func14, Tryd.ntmps14
    go_wp2
    go_ret2
    exact ⟨rfl, Below.refl _ _⟩
  have h8' : (N : Int) ≤ 8 := by omega
  have h8n : N ≤ 8 := by omega
  have HP : Hid (Prs.PctAns s l n X E) := h
  have HE : Hid (E = if Prs.winsE s l = 0 then (if Prs.bad n then 3 else 0) else Prs.winsE s l) := by have := h.1; unfold Prs.pctE at this; rw [if_neg (by omega)] at this; exact this
  rw [hN]
  clear hr h hN h8
  go_enter Tryd.func14, Tryd.ntmps14
  go_wp2
  go_loopw [8] (fun iv wr => ∃ k : Nat, k ≤ N ∧ iv = .int .i64 k ∧ Hid (Prs.winsE s l = Prs.winsE s (l.drop k)) ∧ Below w.heap.size w wr) (fun iv _ => N - (intOf iv).toNat)
  case atStart => exact ⟨0, Nat.zero_le _, rfl, by unfold Hid; rw [List.drop_zero], Below.refl _ _⟩
  case round =>
    obtain ⟨k, hk, rfl, HW, hb⟩ := hrel
    have HB : Hid (Below w.heap.size w wr) := hb
    clear hb
    by_cases hlt : k < N
    · have hlt' : (k : Int) < (N : Int) := by omega
      obtain ⟨b, off, f, t, p, rfl, -, hx, c0, c1, c2⟩ := (R.out.below HB.out).at (k := k) (by rw [HN.out]; exact hlt)
      have HST : Hid (_) := Prs.winsE_step (s := s) hx
      obtain ⟨e, he⟩ : ∃ e, Prs.winE s ⟨f, t, p⟩ = e := ⟨_, rfl⟩
      have HEE : Hid (Prs.winE s ⟨f, t, p⟩ = e) := he
      clear hx he
      by_cases h0 : e = 0
      · subst h0
        go_wp2_with fail
        refine (windowOf_at s f t p _ _ 0 _ rfl rfl HEE.out).mono ?_
        rintro e w2 ⟨rfl, hb⟩
        have B2 : Hid (Below w.heap.size w w2) := below_on HB.out (Nat.le_refl _) hb
        clear hb c0 c1 c2
        go_wp2
        go_round
        case rel => exact ⟨k + 1, by omega, by go_num, by unfold Hid; rw [HW.out, HST.out, if_pos HEE.out], below_next B2.out (Nat.le_refl _) (below_box _ _)⟩
        case measure => simp [intOf]; omega
      · have h0' : (e != 0) = true := by simpa using h0
        have hE : E = e := by
          have hw : Prs.winsE s l = e := by rw [HW.out, HST.out, if_neg (by rw [HEE.out]; exact h0), HEE.out]
          rw [HE.out, hw, if_neg h0]
        have hX : X = 0 := by
          rcases HP.out.2 with q | q
          · exact q.2
          · exact absurd (hE.symm.trans q.1) h0
        subst hE hX
        clear h0
        go_wp2_with fail
        refine (windowOf_at s f t p _ _ E _ rfl rfl HEE.out).mono ?_
        rintro e w2 ⟨rfl, hb⟩
        have B2 : Hid (Below w.heap.size w w2) := below_on HB.out (Nat.le_refl _) hb
        clear hb c0 c1 c2
        go_wp2
        go_ret2
        exact ⟨rfl, below_next B2.out (Nat.le_refl _) (below_box _ _)⟩
    · obtain rfl : k = N := by omega
      have HW2 : Hid (Prs.winsE s l = 0) := by unfold Hid; rw [HW.out, List.drop_of_length_le (by rw [HN.out]; exact Nat.le_refl _)]; rfl
      clear HW
      by_cases hbn : Prs.bad n
      · have HBN : Hid (decide (Prs.bad n) = true) := decide_eq_true hbn
        have hE : E = 3 := by rw [HE.out, HW2.out, if_pos rfl, if_pos hbn]
        have hX : X = 0 := by
          rcases HP.out.2 with q | q
          · exact q.2
          · rw [hE] at q; exact absurd q.1 (by decide)
        subst hE hX
        clear hbn
        go_wp2_with (go_at_call 22; refine (noDay_is _ true _ HBN.out).mono ?_; rintro e w' ⟨rfl, rfl⟩)
        go_ret2
        exact ⟨rfl, HB.out⟩
      · have HBN : Hid (decide (Prs.bad n) = false) := decide_eq_false hbn
        have hE : E = 0 := by rw [HE.out, HW2.out, if_pos rfl, if_neg hbn]
        subst hE
        obtain ⟨age, e, ha, hX⟩ : ∃ age e, Prs.AgeAns s n age e ∧ ((e = 0 ∧ X = Prs.best age 0 l) ∨ (e ≠ 0 ∧ X = 0)) := by
          rcases HP.out.2 with q | q
          · exact absurd rfl q.1
          · exact q.2
        have HA : Hid (Prs.AgeAns s n age e) := ha
        clear ha hbn
        rcases hX with ⟨rfl, hX⟩ | ⟨he, rfl⟩
        · have HX : Hid (X = Prs.best age 0 l) := hX
          clear hX
          go_wp2_with (go_at_call 22; refine (noDay_is _ false _ HBN.out).mono ?_; rintro e w' ⟨rfl, rfl⟩)
          refine (ageOf_any s n age 0 _ HA.out).mono ?_
          rintro e w3 ⟨rfl, hb⟩
          have B3 : Hid (Below w.heap.size w w3) := below_on HB.out (Nat.le_refl _) hb
          clear hb
          go_wp2
          go_loop [11, 14] (fun bv iv => ∃ (j : Nat) (x : Int), j ≤ k ∧ iv = .int .i64 j ∧ bv = .int .i64 x ∧ Hid (Prs.best age 0 l = Prs.best age x (l.drop j))) (fun _ iv => k - (intOf iv).toNat)
          case atStart => exact ⟨0, 0, Nat.zero_le _, rfl, rfl, by unfold Hid; rw [List.drop_zero]⟩
          case round =>
            obtain ⟨j, x, hk, rfl, rfl, HI⟩ := hrel
            by_cases hlt : j < k
            · have hlt' : (j : Int) < (k : Int) := by omega
              obtain ⟨b, off, f, t, p, rfl, -, hx, c0, c1, c2⟩ := (R.out.below B3.out).at (k := j) (by rw [HN.out]; exact hlt)
              have HST : Hid (_) := Prs.best_step (a := age) (b := x) hx
              clear hx
              by_cases hb : f ≤ age ∧ age ≤ t ∧ x < p
              · obtain ⟨q1, q2, q3⟩ := hb
                go_wp2
                go_round
                case rel => exact ⟨j + 1, p, by omega, by go_num, rfl, by unfold Hid; rw [HI.out, HST.out, if_pos ⟨q1, q2, q3⟩]⟩
                case measure => simp [intOf]; omega
              · have hb3 : age < f ∨ (f ≤ age ∧ t < age) ∨ (f ≤ age ∧ age ≤ t ∧ p ≤ x) := by omega
                have HNB : Hid (¬ (f ≤ age ∧ age ≤ t ∧ x < p)) := hb
                clear hb
                rcases hb3 with q1 | ⟨q1, q2⟩ | ⟨q1, q2, q3⟩
                all_goals
                  go_wp2
                  go_round
                  case rel => exact ⟨j + 1, x, by omega, by go_num, rfl, by unfold Hid; rw [HI.out, HST.out, if_neg HNB.out]⟩
                  case measure => simp [intOf]; omega
            · obtain rfl : j = k := by omega
              have HV : Hid (Prs.best age 0 l = x) := by unfold Hid; rw [HI.out, List.drop_of_length_le (by rw [HN.out]; exact Nat.le_refl _)]; rfl
              obtain rfl : X = x := by rw [HX.out, HV.out]
              go_wp2
              go_ret2
              exact ⟨rfl, B3.out⟩
        · have he' : (e == 0) = false := by simpa using he
          clear he
          go_wp2_with (go_at_call 22; refine (noDay_is _ false _ HBN.out).mono ?_; rintro e w' ⟨rfl, rfl⟩)
          refine (ageOf_any s n age e _ HA.out).mono ?_
          rintro e w3 ⟨rfl, hb⟩
          have B3 : Hid (Below w.heap.size w w3) := below_on HB.out (Nat.le_refl _) hb
          clear hb
          go_wp2
          go_loop [11, 14] (fun bv iv => bv = .int .i64 0 ∧ iv = .int .i64 0) (fun _ _ => 0)
          case atStart => exact ⟨rfl, rfl⟩
          case round =>
            obtain ⟨rfl, rfl⟩ := hrel
            go_wp2
            all_goals
              go_ret2
              exact ⟨rfl, B3.out⟩
end Go.Proofs.YtfncfbbkkpdhkaaDoor
