/- The walk of RingAdds: it answers true, whatever it is handed. -/
import Derived.Test.YtcjpbmfdgheolaaLawRing1
namespace Go.Proofs.Ytcjpbmfdgheolaa
open Go.RowKit

theorem Rg.find_last : ∀ (l : List Rg.Ep) (N : Int) (A B : Tg.W), (∀ e ∈ l, e.1 < N) → Rg.find N (l ++ [(N, A, B)]) = some (l.length, A, B)
  | [], N, A, B, _ => by simp [Rg.find]
  | e :: r, N, A, B, h => by
    have h1 := h e List.mem_cons_self
    have ih := Rg.find_last r N A B fun x hx => h x (List.mem_cons_of_mem _ hx)
    show Rg.find N (e :: (r ++ [(N, A, B)])) = _
    unfold Rg.find
    rw [if_neg (by omega), ih]
    rfl
theorem Rg.drp_last {l : List Rg.Ep} {A B : Tg.W} (h : Rg.chk l = 0) (h2 : Rg.chk (l ++ [(Rg.last l + 1, A, B)]) = 0) : Rg.drp (l ++ [(Rg.last l + 1, A, B)]) (Rg.last l + 1) = (l, 0) := by
  have hf := Rg.find_last l (Rg.last l + 1) A B fun e he => by have := Rg.last_le l ((Rg.chk_iff l).1 h).2 e he; omega
  unfold Rg.drp
  rw [if_neg (by omega), hf]
  simp
theorem eqKey (A B : Tg.W) (w : World) : (Op.equalIn 10000 25 (.agg #[.int .u64 (wd A), .int .u64 (wd B)]) (.agg #[.int .u64 (wd A), .int .u64 (wd B)])).run Try.prog w = .ok true w := by
  have uu := Try.underlying23
  have au := Try.isAgg23
  have zu := Try.sizeOf23
  have hS : Try.prog.underlying 25 = some (.struct (Try.prog.fieldsOf 25)) := by kernel_rfl
  have hp : Try.prog.stoodInHeld 25 = false := by kernel_rfl
  rw [show (10000 : Nat) = 9999 + 1 from rfl, run_equalIn_agg w 9999 25 _ _ hS hp]
  simp only [Program.fieldsOf, Try.underlying25]
  go_simp
theorem rad_keep {w2 W : World} {b0 b o0 o1 o2 : Nat} {v0 v1 v2 v3 v4 : Value} (h : Hid (w2.cell? ⟨b0, 0, none⟩ = some v0 ∧ w2.cell? ⟨b0, 1, none⟩ = some v1 ∧ w2.cell? ⟨b, o0, none⟩ = some v2 ∧ w2.cell? ⟨b, o1, none⟩ = some v3 ∧ w2.cell? ⟨b, o2, none⟩ = some v4)) (hb0 : b0 < w2.heap.size) (hb : b < w2.heap.size) (hB : Below w2.heap.size w2 W) :
    W.cell? ⟨b0, 0, none⟩ = some v0 ∧ W.cell? ⟨b0, 1, none⟩ = some v1 ∧ W.cell? ⟨b, o0, none⟩ = some v2 ∧ W.cell? ⟨b, o1, none⟩ = some v3 ∧ W.cell? ⟨b, o2, none⟩ = some v4 :=
  ⟨(hB.cell (p := ⟨b0, 0, none⟩) hb0).trans h.out.1, (hB.cell (p := ⟨b0, 1, none⟩) hb0).trans h.out.2.1, (hB.cell (p := ⟨b, o0, none⟩) hb).trans h.out.2.2.1, (hB.cell (p := ⟨b, o1, none⟩) hb).trans h.out.2.2.2.1, (hB.cell (p := ⟨b, o2, none⟩) hb).trans h.out.2.2.2.2⟩
theorem rad_below {w2 w3 : World} (hb : Below w2.drew.heap.size w2.drew w3) : Below w2.heap.size w2 w3 := below_on ((Below.refl _ w2).drew) (Nat.le_refl _) hb
set_option maxRecDepth 100000 in
set_option maxHeartbeats 4000000 in
theorem ringAdds_any (l : List Rg.Ep) (a : Option Addr) (cap : Nat) (A B : Tg.W) (w : World) (hl : l.length ≤ maxLen) (_hcap : l.length ≤ cap) (hn : a = none → l = [] ∧ cap = 0) (hr : Row3 w a l) :
    Calls Try.prog 7 #[.slice a l.length cap, .agg #[.int .u64 (wd A), .int .u64 (wd B)]] w fun e w' => e = .returned (.bool true) ∧ Below w.heap.size w w' := by
  have HH : Hid (l.length ≤ maxLen ∧ (a = none → l = [] ∧ cap = 0)) := ⟨hl, hn⟩
  have HB0 : Hid (Below w.heap.size w (w.alloc (.cells #[.int .u64 (wd A), .int .u64 (wd B)] 25))) := below_box w _
  have R0 : Hid (Row3 (w.alloc (.cells #[.int .u64 (wd A), .int .u64 (wd B)] 25)) a l) := hr.below HB0.out
  clear hl hn hr
  by_cases hc : (Rg.add l A B).2 = 0
  · obtain ⟨hD, hck0, hck1⟩ := Rg.add_ok l A B hc
    have HK : Hid (Rg.chk l = 0) := hck0
    have HD : Hid (Rg.add l A B = (l ++ [(Rg.last l + 1, A, B)], 0)) := Prod.ext hD hc
    have h8 : l.length ≤ 8 := ((Rg.chk_iff l).1 hck0).1
    have HDR : Hid (Rg.drp (l ++ [(Rg.last l + 1, A, B)]) (Rg.last l + 1) = (l, 0)) := Rg.drp_last hck0 hck1
    have HK1 : Hid (Rg.chk (l ++ [(Rg.last l + 1, A, B)]) = 0) := hck1
    obtain ⟨N, hN⟩ : ∃ N, Rg.last l + 1 = N := ⟨_, rfl⟩
    rw [hN] at HD HDR HK1
    obtain ⟨m, hm⟩ : ∃ m, l.length = m := ⟨_, rfl⟩
    have HM : Hid (l.length = m) := hm
    rw [hm] at h8 ⊢
    clear hD hck0 hck1 hc hN hm
    have heq := fun W => eqKey A B W
    have hw1 : IntKind.i64.wrap ((m : Int) + 1) = (m : Int) + 1 := by rw [IntKind.wrap_i64]; omega
    have hw3 : IntKind.i64.wrap (m : Int) = (m : Int) := by rw [IntKind.wrap_i64]; omega
    have hm0 : (0 : Int) ≤ (m : Int) := by omega
    have hm1 : (m : Int) < (m : Int) + 1 := by omega
    have hw2 : IntKind.i64.wrap ((m : Int) + 1 - 1) = (m : Int) := by rw [IntKind.wrap_i64]; omega
    go_enter Try.func7, Try.ntmps7
    go_wp2_with fail
    have ha := add_any l a cap A B _ HH.out.1 (fun h => (HH.out.2 h).1) R0.out
    rw [HM.out] at ha
    refine ha.mono ?_; rintro e w1 ⟨v1, he1, ho1, hb1⟩
    clear ha
    rw [HD.out] at he1 ho1
    have B1 : Hid (Below w.heap.size w w1) := below_on HB0.out (Nat.le_refl _) hb1
    have R1 : Hid (Row3 w1 a l) := R0.out.below hb1
    obtain ⟨hcc, -⟩ := bcell hb1
    have k0 := hcc w.heap.size 0 (by simp)
    have k1 := hcc w.heap.size 1 (by simp)
    simp at k0 k1
    have hz1 : w.heap.size < w1.heap.size := by have := hb1.size; simp at this; omega
    obtain ⟨a1, c1, hv1, hr1, hc1, -, -⟩ := OwnE.row' ho1
    rw [List.length_append, HM.out] at hv1 hc1
    replace hv1 : v1 = .slice a1 (m + 1) c1 := hv1
    replace hc1 : m + 1 ≤ c1 := hc1
    have P1 : Hid (Row3 w1 a1 (l ++ [(N, A, B)])) := hr1
    subst hv1
    subst he1
    clear hb1 ho1 hcc hr1 HB0 R0
    go_wp2_with fail
    refine (ringBegun_any _).mono ?_; rintro e w2 ⟨rfl, hb2⟩
    have B2 : Hid (Below w.heap.size w w2) := below_on B1.out (Nat.le_refl _) hb2
    have R2 : Hid (Row3 w2 a l) := R1.out.below hb2
    have P2 : Hid (Row3 w2 a1 (l ++ [(N, A, B)])) := P1.out.below hb2
    have j0 := (hb2.cell (p := ⟨w.heap.size, 0, none⟩) hz1).trans k0
    have j1 := (hb2.cell (p := ⟨w.heap.size, 1, none⟩) hz1).trans k1
    have hz2 : w.heap.size < w2.heap.size := Nat.lt_of_lt_of_le hz1 hb2.size
    obtain ⟨b, off, n', A', B', rfl, hbs, hx, d1, d2, d3⟩ := P2.out.at (k := m) (by simp [HM.out])
    obtain ⟨rfl, rfl, rfl⟩ : n' = N ∧ A' = A ∧ B' = B := by
      rw [List.getElem?_append_right (by rw [HM.out]; exact Nat.le_refl _), HM.out, Nat.sub_self] at hx
      have := Option.some.inj hx
      simp at this
      exact ⟨this.1.symm, this.2.1.symm, this.2.2.symm⟩
    clear hb2 B1 R1 P1 k0 k1 hz1 hx
    have hck := fun W (hb : Below w2.heap.size w2 W) => check_any (l ++ [(n', A', B')]) (some ⟨b, off, none⟩) c1 W (by rw [List.length_append, HM.out]; simp [maxLen]; omega) (P2.out.below hb)
    rw [HK1.out, List.length_append, HM.out] at hck
    replace hck : ∀ W, Below w2.heap.size w2 W → Calls Try.prog 13 #[.slice (some ⟨b, off, none⟩) (m + 1) c1] W fun e w' => e = .returned (.int .i64 0) ∧ Below W.heap.size W w' := hck
    have HCK : Hid (_) := hck
    clear hck
    go_wp2
    have HC4 : Hid (w2.cell? ⟨w.heap.size, 0, none⟩ = some (.int .u64 (wd A')) ∧ w2.cell? ⟨w.heap.size, 1, none⟩ = some (.int .u64 (wd B')) ∧ w2.cell? ⟨b, off + m * 3, none⟩ = some (.int .i64 n') ∧ w2.cell? ⟨b, off + m * 3 + 1, none⟩ = some (.int .u64 (wd A')) ∧ w2.cell? ⟨b, off + m * 3 + 2, none⟩ = some (.int .u64 (wd B'))) := ⟨j0, j1, d1, d2, d3⟩
    go_region_held3 (fun w' => w'.cell? ⟨w.heap.size, 0, none⟩ = some (.int .u64 (wd A')) ∧ w'.cell? ⟨w.heap.size, 1, none⟩ = some (.int .u64 (wd B')) ∧ w'.cell? ⟨b, off + m * 3, none⟩ = some (.int .i64 n') ∧ w'.cell? ⟨b, off + m * 3 + 1, none⟩ = some (.int .u64 (wd A')) ∧ w'.cell? ⟨b, off + m * 3 + 2, none⟩ = some (.int .u64 (wd B')))
      (first | go_keep | exact rad_keep HC4 hz2 hbs BW.out)
      ((go_at_call 13; refine (HCK.out _ (by first | exact Below.refl _ _ | exact (Below.refl _ w2).drew)).mono ?_; rintro e w3 ⟨rfl, hb3⟩; have BW : Hid (Below w2.heap.size w2 w3) := rad_below hb3; clear hb3))
    all_goals
      rename_i hH
      obtain ⟨-, -, e1, -, -⟩ := hH
      have hdr := drop_any (l ++ [(n', A', B')]) (some ⟨b, off, none⟩) c1 n' w3 (by rw [List.length_append, HM.out]; simp [maxLen]; omega) (by rw [List.length_append, HM.out]; exact hc1) (P2.out.below BW.out)
      rw [List.length_append, HM.out] at hdr
      replace hdr : Calls Try.prog 9 #[.slice (some ⟨b, off, none⟩) (m + 1) c1, .int .i64 n'] w3 (drpPost w3 (l ++ [(n', A', B')]) n') := hdr
      have R3 : Hid (Row3 w3 a l) := R2.out.below BW.out
      have B3 : Hid (Below w.heap.size w w3) := below_on B2.out (Nat.le_refl _) BW.out
      clear heq d1 d2 d3 j0 j1 HC4 HCK hw1 hw2 hw3
      go_wp2_with fail
      refine hdr.mono ?_; rintro e w4 ⟨v4, he4, ho4, hb4⟩
      rw [HDR.out] at he4 ho4
      obtain ⟨a4, c4, hv4, hr4, -, -, -⟩ := OwnE.row' ho4
      have hsm := sameRing_any l l a4 a c4 cap w4 HH.out.1 HH.out.1 hr4 (R3.out.below hb4)
      rw [decide_eq_true rfl] at hsm
      rw [HM.out] at hv4 hsm
      have B4 : Hid (Below w.heap.size w w4) := below_on B3.out (Nat.le_refl _) hb4
      subst hv4
      subst he4
      clear ho4 hr4 hb4 hdr
      go_wp2_with fail
      refine hsm.mono ?_; rintro e w5 ⟨rfl, hb5⟩
      have B5 : Hid (Below w.heap.size w w5) := below_on B4.out (Nat.le_refl _) (drewN_below hb5)
      clear hb5 hsm
      go_wp2
      go_ret
      exact ⟨rfl, B5.out⟩
  · have hD := Rg.add_bad l A B hc
    have HD : Hid (Rg.add l A B = ([], (Rg.add l A B).2)) := Prod.ext hD rfl
    generalize (Rg.add l A B).2 = C at *
    have hc' : (C != 0) = true := by simpa using hc
    clear hD hc
    go_enter Try.func7, Try.ntmps7
    go_wp2_with fail
    refine (add_any l a cap A B _ HH.out.1 (fun h => (HH.out.2 h).1) R0.out).mono ?_; rintro e w1 ⟨v1, he1, ho1, hb1⟩
    rw [HD.out] at he1 ho1
    have B1 : Hid (Below w.heap.size w w1) := below_on HB0.out (Nat.le_refl _) hb1
    obtain ⟨a1, c1, hv1, -, -, -, -⟩ := OwnE.row' ho1
    replace hv1 : v1 = .slice a1 0 c1 := hv1
    subst hv1
    subst he1
    clear hb1 ho1
    go_wp2_with fail
    refine (ringBegun_any _).mono ?_; rintro e w2 ⟨rfl, hb2⟩
    have B2 : Hid (Below w.heap.size w w2) := below_on B1.out (Nat.le_refl _) hb2
    clear hb2 B1
    go_wp2
    go_ret
    exact ⟨rfl, B2.out⟩
end Go.Proofs.Ytcjpbmfdgheolaa
