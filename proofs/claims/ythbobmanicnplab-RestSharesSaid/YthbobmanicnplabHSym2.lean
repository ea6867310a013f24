/- The walk of the library's symmetric merge (slices, for a stable sort), second part: the search, the rotation, and both halves. Made by mk_hsym2.py. -/
import Derived.Test.YthbobmanicnplabHSym
namespace Go.Proofs.Ythbobmanicnplab
open Go.RowKit Go.BigFrame Go.Sort
variable {lt : Int → Int → Prop}

theorem Srt.Sorted.eq {F G : Nat → Int} {a b : Nat} (h : Srt.Sorted lt F a b) (e : ∀ k, a ≤ k → k < b → G k = F k) : Srt.Sorted lt G a b := fun i j h1 h2 h3 => by
  rw [e i h1 (by omega), e j (by omega) h3]; exact h i j h1 h2 h3
theorem Srt.Lr.eq {F G : Nat → Int} {a m b : Nat} (h : Srt.Lr F a m b) (e : ∀ k, a ≤ k → k < b → G k = F k) : Srt.Lr G a m b := fun i j h1 h2 h3 h4 => by
  rw [e i h1 (by omega), e j (by omega) h4]; exact h i j h1 h2 h3 h4
theorem Srt.rng_of {F G : Nat → Int} {a z n : Nat} {N : Int} (h : Srt.Same G F a z) (ho : Srt.Off G F a z) (hz : z ≤ n) (r : ∀ i, i < n → 0 ≤ F i ∧ F i < N) : ∀ i, i < n → 0 ≤ G i ∧ G i < N := fun i hi => by
  by_cases c : a ≤ i ∧ i < z
  · obtain ⟨k, k1, k2, k3⟩ := h.1 i c.1 c.2
    rw [k3]; exact r k (by omega)
  · rw [ho i (by omega)]; exact r i hi
/-- what a merge says, one by one -/
def SymIs (g : Nat) (cb : Array Value) (B : Nat) (w0 : World) (N : Int) (lt : Int → Int → Prop) (b n cap a m z : Nat) : Prop :=
  ∀ (F : Nat → Int) (w : World), Below B w0 w → RowI w b n F → Srt.Sorted lt F a m → Srt.Sorted lt F m z → Srt.Lr F a m z → (∀ i, i < n → 0 ≤ F i ∧ F i < N) →
    Calls Try.prog 20 #[.slice (some ⟨b, 0, none⟩) n cap, .int .i64 a, .int .i64 m, .int .i64 z, .func (.func g) #[] cb] w fun e w' => e = .returned (.tuple #[]) ∧ ∃ G, RowI w' b n G ∧ Srt.Merged lt G F a z ∧ w.grownBy w' (some b)
set_option maxHeartbeats 16000000 in
set_option maxRecDepth 100000 in
theorem sym_gen (g : Nat) (cb : Array Value) (B : Nat) (w0 : World) (N : Int) (C : CmpOk g cb B w0 N lt) (o : Srt.Ord lt) (b n cap a m z mid nn p s0 r0 : Nat) (F : Nat → Int) (w : World) (hn : n ≤ 64) (ham : a + 1 < m) (hmz : m + 1 < z) (hz : z ≤ n) (hBb : B ≤ b)
    (hmid : ((a : Int) + (z : Int)) / 2 = (mid : Int)) (hnn : (mid : Int) + (m : Int) = (nn : Int)) (hp : (nn : Int) - 1 = (p : Int)) (hs0 : ((mid : Int) < (m : Int) ∧ (nn : Int) - (z : Int) = (s0 : Int) ∧ r0 = mid) ∨ ((m : Int) ≤ (mid : Int) ∧ s0 = a ∧ r0 = m))
    (RG : Srt.Range a m z mid p s0 r0)
    (hinv : Below B w0 w) (hr : RowI w b n F) (s1 : Srt.Sorted lt F a m) (s2 : Srt.Sorted lt F m z) (hl : Srt.Lr F a m z) (rng : ∀ i, i < n → 0 ≤ F i ∧ F i < N)
    (ih : ∀ a' m' z', a ≤ a' → a' < m' → m' < z' → z' ≤ z → z' - a' < z - a → SymIs g cb B w0 N lt b n cap a' m' z') :
    Calls Try.prog 20 #[.slice (some ⟨b, 0, none⟩) n cap, .int .i64 a, .int .i64 m, .int .i64 z, .func (.func g) #[] cb] w fun e w' => e = .returned (.tuple #[]) ∧ ∃ G, RowI w' b n G ∧ Srt.Merged lt G F a z ∧ w.grownBy w' (some b) := by
  have eg := C.eg
  have HC : Hid (CmpOk g cb B w0 N lt) := C
  have HI : Hid (Below B w0 w ∧ B ≤ w0.heap.size) := ⟨hinv, C.hB⟩
  have HS1 : Hid (Srt.Sorted lt F a m) := s1
  have HS2 : Hid (Srt.Sorted lt F m z) := s2
  have HL : Hid (Srt.Lr F a m z) := hl
  have HN : Hid (∀ i, i < n → 0 ≤ F i ∧ F i < N) := rng
  have HRG : Hid (Srt.Range a m z mid p s0 r0) := RG
  have HIH : Hid (∀ a' m' z', a ≤ a' → a' < m' → m' < z' → z' ≤ z → z' - a' < z - a → SymIs g cb B w0 N lt b n cap a' m' z') := ih
  have hma1 : (((m : Int) - (a : Int)) == 1) = false := by simp; omega
  have hma2 : (((z : Int) - (m : Int)) == 1) = false := by simp; omega
  obtain ⟨f1, f2, f3, f4, f5, f6⟩ := RG.facts
  have HF6 : Hid (∀ c, s0 ≤ c → c < r0 → c ≤ p ∧ m ≤ p - c ∧ p - c < z) := f6
  clear C hinv s1 s2 hl rng RG ih f6
  rcases hs0 with ⟨q1, q2, q3⟩ | ⟨q1, q2, q3⟩
  all_goals
    first
    | (have QR : Hid (r0 = mid) := q3)
    | (have QR : Hid (r0 = m) := q3)
    go_enter Try.func20, Try.ntmps20
    go_wp2
    go_loopw [20, 21] (fun sv rv wr => ∃ (s r : Nat), sv = .int .i64 s ∧ rv = .int .i64 r ∧ s0 ≤ s ∧ s ≤ r ∧ r ≤ r0 ∧ RowI wr b n F ∧ w.grownBy wr (some b) ∧ Hid (Srt.Look lt F p s0 r0 s r)) (fun sv rv _ => (intOf rv).toNat - (intOf sv).toNat)
    case atStart =>
      refine ⟨s0, r0, ?_, ?_, Nat.le_refl _, f2, Nat.le_refl _, hr, World.grownBy.refl _ _, ⟨Nat.le_refl _, f2, Nat.le_refl _, fun c h1 h2 => by omega, fun c h1 h2 => by omega⟩⟩
      · first | rfl | (rw [q2])
      · first | rfl | (rw [q3])
    case round =>
      clear hr
      obtain ⟨s, r, rfl, rfl, hs1, hs2, hs3, R, K, HLK⟩ := hrel
      have HK : Hid (w.grownBy wr (some b)) := K
      clear K
      by_cases hlt : s < r
      · obtain ⟨c0, hc0⟩ : ∃ c0 : Nat, c0 = (s + r) / 2 := ⟨_, rfl⟩
        have czz : ((s : Int) + (r : Int)) / 2 = (c0 : Int) := by omega
        have hsc : s ≤ c0 := by omega
        have hcr : c0 < r := by omega
        clear hc0
        obtain ⟨e1, e2, e3⟩ := HF6.out c0 (by omega) (by omega)
        obtain ⟨pc, hpc⟩ : ∃ pc : Nat, pc = p - c0 := ⟨_, rfl⟩
        have pzz : (p : Int) - (c0 : Int) = (pc : Int) := by omega
        have sr' : (s : Int) < (r : Int) := by omega
        have z2 : (c0 : Int) < (n : Int) := by omega
        have z3 : (pc : Int) < (n : Int) := by omega
        have dh := cell_regrown (R.cell (i := pc) (by omega))
        have da := cell_regrown (R.cell (i := c0) (by omega))
        have hx := HN.out pc (by omega)
        have hy := HN.out c0 (by omega)
        have hxy := HL.out c0 pc (by omega) (by omega) (by omega) (by omega)
        obtain ⟨c, hc1, hc2, hc3, hc4⟩ := HC.out.call (F pc) (F c0) hx.1 hx.2 hy.1 hxy
        have HT : Hid (c < 0 ↔ lt (F pc) (F c0)) := hc1
        have HC4 : Hid (∀ W, Below B w0 W → Calls Try.prog g (#[.int .i64 (F pc), .int .i64 (F c0)] ++ cb) W fun e w' => e = .returned (.int .i64 c) ∧ Below W.heap.size W w') := hc4
        have H1 : Hid (¬ lt (F pc) (F c0) → Srt.Look lt F p s0 r0 (c0 + 1) r) := fun hh => HLK.out.low o HRG.out HS1.out HS2.out c0 hsc hcr (by rw [← hpc]; exact hh)
        have H2 : Hid (lt (F pc) (F c0) → Srt.Look lt F p s0 r0 s c0) := fun hh => HLK.out.high o HRG.out HS1.out HS2.out c0 hsc hcr (by rw [← hpc]; exact hh)
        have HIW : Hid (Below B w0 wr) := below_grown HI.out.1 (Nat.le_trans HI.out.2 HI.out.1.size) hBb HK.out
        have HR : Hid (RowI wr b n F) := R
        clear hc1 hc4 hx hy hxy R hpc HLK e1 e2 e3
        generalize F pc = xh at *
        generalize F c0 = xa at *
        go_wp2_with fail
        refine wp_region_quiet_below (by kernel_rfl) (by kernel_rfl) ?_
        repeat go_big_quiet_step ((go_at_fn g; exact Calls.regrown_of (HC4.out _ (below_reg HIW.out HI.out.2 _ _))))
        refine wpQuiet_nil ?_
        intro _ hw'
        obtain ⟨⟨dq, osq⟩, hw''⟩ := hw'
        subst hw''
        have B1 := below_regrown wr dq osq
        generalize grow (redrawn wr dq) osq = w4 at *
        have R4 := HR.out.below B1
        have K4 := HK.out.trans (grown_below B1 (some b))
        clear dh da
        by_cases hc : c < 0
        · have hcd : (!decide (c < 0)) = false := by simpa using hc
          go_wp2
          all_goals first | (exfalso; rename_i hq; rw [hcd] at hq; exact absurd hq (by decide)) | skip
          go_roundw
          case rel => exact ⟨s, c0, rfl, rfl, hs1, by omega, by omega, R4, K4, H2.out (HT.out.1 hc)⟩
          case measure => simp [intOf]; omega
        · have hcd : (!decide (c < 0)) = true := by simpa using hc
          go_wp2
          all_goals first | (exfalso; rename_i hq; rw [hcd] at hq; exact absurd hq (by decide)) | skip
          go_roundw
          case rel => exact ⟨c0 + 1, r, by go_num, rfl, by omega, by omega, hs3, R4, K4, H1.out (fun q => hc (HT.out.2 q))⟩
          case measure => simp [intOf]; omega
      · obtain rfl : s = r := by omega
        obtain ⟨CUT, hcm, hsp⟩ := HLK.out.found o HRG.out HL.out
        obtain ⟨e, he⟩ : ∃ e : Nat, e = p + 1 - s := ⟨_, rfl⟩
        rw [← he] at CUT hcm
        have ezz : (nn : Int) - (s : Int) = (e : Int) := by omega
        obtain ⟨p1, p2, p3, p4, p5, p6, p7, p8, p9⟩ := CUT.parts o HS1.out HS2.out HL.out

        rw [hcm] at p2 p3 p4 p6 p7
        have k1 := CUT.as
        have k2 := CUT.sm
        have k3 := CUT.me
        have k4 := CUT.eb
        have RN := Srt.rng_of p8 p9 hz HN.out
        have R5 : (s = m ∨ m = e) → RowI wr b n (Srt.rot F s m e) := fun h => R.congr (fun q _ => by
          rcases h with h | h
          · rw [h]; exact (Srt.rot_none1 F m e k3 q).symm
          · rw [← h]; exact (Srt.rot_none2 F s m q).symm)
        have P : Hid (Srt.Sorted lt (Srt.rot F s m e) a s ∧ Srt.Sorted lt (Srt.rot F s m e) s mid ∧ Srt.Lr (Srt.rot F s m e) a s mid ∧ Srt.Sorted lt (Srt.rot F s m e) mid e ∧ Srt.Sorted lt (Srt.rot F s m e) e z ∧ Srt.Lr (Srt.rot F s m e) mid e z) := ⟨p1, p2, p3, p4, p5, p6⟩
        have P7 : Hid (∀ i j, a ≤ i → i < mid → mid ≤ j → j < z → lt (Srt.rot F s m e i) (Srt.rot F s m e j)) := p7
        have P8 : Hid (Srt.Same (Srt.rot F s m e) F a z ∧ Srt.Off (Srt.rot F s m e) F a z) := ⟨p8, p9⟩
        have HRN : Hid (∀ i, i < n → 0 ≤ Srt.rot F s m e i ∧ Srt.rot F s m e i < N) := RN
        have HR : Hid (RowI wr b n F) := R
        have HR5 : Hid ((s = m ∨ m = e) → RowI wr b n (Srt.rot F s m e)) := R5
        have esm : s ≤ mid := by omega
        have eme : mid ≤ e := by omega
        have hcm1 : s + (e - m) ≤ mid := by omega
        have hcm2 : mid ≤ s + (e - m) := by omega
        clear he hcm q2 q3 QR
        clear p1 p2 p3 p4 p5 p6 p7 p8 p9 RN R R5 HLK CUT HC HS1 HS2 HL HN HF6 HRG

        by_cases c1 : s < m ∧ m < e
        ·
          have c1a : (s : Int) < (m : Int) := by omega
          have c1b : (m : Int) < (e : Int) := by omega
          go_wp2_with fail
          all_goals first | omega | skip
          all_goals
            refine (rotate_any b n cap s m e F _ _ hn c1.1 c1.2 (by omega) HR.out).mono ?_
            rintro e1 w5 ⟨rfl, R5, K5'⟩
            have K5 := HK.out.trans K5'
            have I5 := below_grown HI.out.1 (Nat.le_trans HI.out.2 HI.out.1.size) hBb K5
            by_cases c2 : a < s ∧ s < mid
            ·
              have c2a : (a : Int) < (s : Int) := by omega
              have c2b : (s : Int) < (mid : Int) := by omega
              have HC2 := HIH.out a s mid (Nat.le_refl _) c2.1 c2.2 (by omega) (by omega) _ _ I5 R5 P.out.1 P.out.2.1 P.out.2.2.1 HRN.out
              clear R5
              go_wp2_with fail
              all_goals first | omega | skip
              all_goals
                refine HC2.mono ?_
                rintro e2 w6 ⟨rfl, G1, R6, M1, K6'⟩
                have K6 := K5.trans K6'
                clear HC2
                have I6 := below_grown HI.out.1 (Nat.le_trans HI.out.2 HI.out.1.size) hBb K6
                have RN1 := Srt.rng_of (M1.2.1.wide M1.2.2 (Nat.le_refl _) (show mid ≤ z by omega)) (M1.2.2.wide (Nat.le_refl _) (show mid ≤ z by omega)) hz HRN.out
                have S1 := P.out.2.2.2.1.eq (fun q h1 h2 => M1.2.2 q (.inr h1))
                have S2 := P.out.2.2.2.2.1.eq (fun q h1 h2 => M1.2.2 q (.inr (by omega)))
                have S3 := P.out.2.2.2.2.2.eq (fun q h1 h2 => M1.2.2 q (.inr h1))
                by_cases c3 : mid < e ∧ e < z
                ·
                  have c3a : (mid : Int) < (e : Int) := by omega
                  have c3b : (e : Int) < (z : Int) := by omega
                  have HC3 := HIH.out mid e z (by omega) c3.1 c3.2 (Nat.le_refl _) (by omega) _ _ I6 R6 S1 S2 S3 RN1
                  have HM1 : Hid (Srt.Merged lt _ (Srt.rot F s m e) a mid) := M1
                  clear S1 S2 S3 RN1 M1
                  go_wp2_with fail
                  all_goals first | omega | skip
                  all_goals
                    refine HC3.mono ?_
                    rintro e3 w7 ⟨rfl, G2, R7, M2, K7'⟩
                    have K7 := K6.trans K7'
                    have M1 := HM1.out
                    clear HC3
                    have HJ : Hid (Srt.Merged lt _ (Srt.rot F s m e) a z) := Srt.join _ _ _ a mid z (by omega) (by omega) P7.out M1 M2
                    clear M1 M2
                    go_wp2_with fail
                    all_goals first | omega | skip
                    all_goals
                      go_end0
                      exact ⟨rfl, _, R7, ⟨HJ.out.1, HJ.out.2.1.trans P8.out.1, HJ.out.2.2.trans P8.out.2⟩, K7⟩
                ·
                  have M2 := Srt.half _ mid e z eme k4 c3 S1 S2
                  have R7 := R6
                  have K7 := K6
                  clear S1 S2 S3 RN1
                  have HJ : Hid (Srt.Merged lt _ (Srt.rot F s m e) a z) := Srt.join _ _ _ a mid z (by omega) (by omega) P7.out M1 M2
                  clear M1 M2
                  go_wp2_with fail
                  all_goals first | omega | skip
                  all_goals
                    go_end0
                    exact ⟨rfl, _, R7, ⟨HJ.out.1, HJ.out.2.1.trans P8.out.1, HJ.out.2.2.trans P8.out.2⟩, K7⟩
            ·
              have M1 := Srt.half (Srt.rot F s m e) a s mid (by omega) esm c2 P.out.1 P.out.2.1
              have R6 := R5
              have K6 := K5
              have I6 := below_grown HI.out.1 (Nat.le_trans HI.out.2 HI.out.1.size) hBb K6
              have RN1 := Srt.rng_of (M1.2.1.wide M1.2.2 (Nat.le_refl _) (show mid ≤ z by omega)) (M1.2.2.wide (Nat.le_refl _) (show mid ≤ z by omega)) hz HRN.out
              have S1 := P.out.2.2.2.1.eq (fun q h1 h2 => M1.2.2 q (.inr h1))
              have S2 := P.out.2.2.2.2.1.eq (fun q h1 h2 => M1.2.2 q (.inr (by omega)))
              have S3 := P.out.2.2.2.2.2.eq (fun q h1 h2 => M1.2.2 q (.inr h1))
              by_cases c3 : mid < e ∧ e < z
              ·
                have c3a : (mid : Int) < (e : Int) := by omega
                have c3b : (e : Int) < (z : Int) := by omega
                have HC3 := HIH.out mid e z (by omega) c3.1 c3.2 (Nat.le_refl _) (by omega) _ _ I6 R6 S1 S2 S3 RN1
                have HM1 : Hid (Srt.Merged lt _ (Srt.rot F s m e) a mid) := M1
                clear S1 S2 S3 RN1 M1
                go_wp2_with fail
                all_goals first | omega | skip
                all_goals
                  refine HC3.mono ?_
                  rintro e3 w7 ⟨rfl, G2, R7, M2, K7'⟩
                  have K7 := K6.trans K7'
                  have M1 := HM1.out
                  clear HC3
                  have HJ : Hid (Srt.Merged lt _ (Srt.rot F s m e) a z) := Srt.join _ _ _ a mid z (by omega) (by omega) P7.out M1 M2
                  clear M1 M2
                  go_wp2_with fail
                  all_goals first | omega | skip
                  all_goals
                    go_end0
                    exact ⟨rfl, _, R7, ⟨HJ.out.1, HJ.out.2.1.trans P8.out.1, HJ.out.2.2.trans P8.out.2⟩, K7⟩
              ·
                have M2 := Srt.half _ mid e z eme k4 c3 S1 S2
                have R7 := R6
                have K7 := K6
                clear S1 S2 S3 RN1
                have HJ : Hid (Srt.Merged lt _ (Srt.rot F s m e) a z) := Srt.join _ _ _ a mid z (by omega) (by omega) P7.out M1 M2
                clear M1 M2
                go_wp2_with fail
                all_goals first | omega | skip
                all_goals
                  go_end0
                  exact ⟨rfl, _, R7, ⟨HJ.out.1, HJ.out.2.1.trans P8.out.1, HJ.out.2.2.trans P8.out.2⟩, K7⟩
        ·
          have R5 := HR5.out (by omega)
          have K5 := HK.out
          have I5 := below_grown HI.out.1 (Nat.le_trans HI.out.2 HI.out.1.size) hBb K5
          by_cases c2 : a < s ∧ s < mid
          ·
            have c2a : (a : Int) < (s : Int) := by omega
            have c2b : (s : Int) < (mid : Int) := by omega
            have HC2 := HIH.out a s mid (Nat.le_refl _) c2.1 c2.2 (by omega) (by omega) _ _ I5 R5 P.out.1 P.out.2.1 P.out.2.2.1 HRN.out
            clear R5
            go_wp2_with fail
            all_goals first | omega | skip
            all_goals
              refine HC2.mono ?_
              rintro e2 w6 ⟨rfl, G1, R6, M1, K6'⟩
              have K6 := K5.trans K6'
              clear HC2
              have I6 := below_grown HI.out.1 (Nat.le_trans HI.out.2 HI.out.1.size) hBb K6
              have RN1 := Srt.rng_of (M1.2.1.wide M1.2.2 (Nat.le_refl _) (show mid ≤ z by omega)) (M1.2.2.wide (Nat.le_refl _) (show mid ≤ z by omega)) hz HRN.out
              have S1 := P.out.2.2.2.1.eq (fun q h1 h2 => M1.2.2 q (.inr h1))
              have S2 := P.out.2.2.2.2.1.eq (fun q h1 h2 => M1.2.2 q (.inr (by omega)))
              have S3 := P.out.2.2.2.2.2.eq (fun q h1 h2 => M1.2.2 q (.inr h1))
              by_cases c3 : mid < e ∧ e < z
              ·
                have c3a : (mid : Int) < (e : Int) := by omega
                have c3b : (e : Int) < (z : Int) := by omega
                have HC3 := HIH.out mid e z (by omega) c3.1 c3.2 (Nat.le_refl _) (by omega) _ _ I6 R6 S1 S2 S3 RN1
                have HM1 : Hid (Srt.Merged lt _ (Srt.rot F s m e) a mid) := M1
                clear S1 S2 S3 RN1 M1
                go_wp2_with fail
                all_goals first | omega | skip
                all_goals
                  refine HC3.mono ?_
                  rintro e3 w7 ⟨rfl, G2, R7, M2, K7'⟩
                  have K7 := K6.trans K7'
                  have M1 := HM1.out
                  clear HC3
                  have HJ : Hid (Srt.Merged lt _ (Srt.rot F s m e) a z) := Srt.join _ _ _ a mid z (by omega) (by omega) P7.out M1 M2
                  clear M1 M2
                  go_wp2_with fail
                  all_goals first | omega | skip
                  all_goals
                    go_end0
                    exact ⟨rfl, _, R7, ⟨HJ.out.1, HJ.out.2.1.trans P8.out.1, HJ.out.2.2.trans P8.out.2⟩, K7⟩
              ·
                have M2 := Srt.half _ mid e z eme k4 c3 S1 S2
                have R7 := R6
                have K7 := K6
                clear S1 S2 S3 RN1
                have HJ : Hid (Srt.Merged lt _ (Srt.rot F s m e) a z) := Srt.join _ _ _ a mid z (by omega) (by omega) P7.out M1 M2
                clear M1 M2
                go_wp2_with fail
                all_goals first | omega | skip
                all_goals
                  go_end0
                  exact ⟨rfl, _, R7, ⟨HJ.out.1, HJ.out.2.1.trans P8.out.1, HJ.out.2.2.trans P8.out.2⟩, K7⟩
          ·
            have M1 := Srt.half (Srt.rot F s m e) a s mid (by omega) esm c2 P.out.1 P.out.2.1
            have R6 := R5
            have K6 := K5
            have I6 := below_grown HI.out.1 (Nat.le_trans HI.out.2 HI.out.1.size) hBb K6
            have RN1 := Srt.rng_of (M1.2.1.wide M1.2.2 (Nat.le_refl _) (show mid ≤ z by omega)) (M1.2.2.wide (Nat.le_refl _) (show mid ≤ z by omega)) hz HRN.out
            have S1 := P.out.2.2.2.1.eq (fun q h1 h2 => M1.2.2 q (.inr h1))
            have S2 := P.out.2.2.2.2.1.eq (fun q h1 h2 => M1.2.2 q (.inr (by omega)))
            have S3 := P.out.2.2.2.2.2.eq (fun q h1 h2 => M1.2.2 q (.inr h1))
            by_cases c3 : mid < e ∧ e < z
            ·
              have c3a : (mid : Int) < (e : Int) := by omega
              have c3b : (e : Int) < (z : Int) := by omega
              have HC3 := HIH.out mid e z (by omega) c3.1 c3.2 (Nat.le_refl _) (by omega) _ _ I6 R6 S1 S2 S3 RN1
              have HM1 : Hid (Srt.Merged lt _ (Srt.rot F s m e) a mid) := M1
              clear S1 S2 S3 RN1 M1
              go_wp2_with fail
              all_goals first | omega | skip
              all_goals
                refine HC3.mono ?_
                rintro e3 w7 ⟨rfl, G2, R7, M2, K7'⟩
                have K7 := K6.trans K7'
                have M1 := HM1.out
                clear HC3
                have HJ : Hid (Srt.Merged lt _ (Srt.rot F s m e) a z) := Srt.join _ _ _ a mid z (by omega) (by omega) P7.out M1 M2
                clear M1 M2
                go_wp2_with fail
                all_goals first | omega | skip
                all_goals
                  go_end0
                  exact ⟨rfl, _, R7, ⟨HJ.out.1, HJ.out.2.1.trans P8.out.1, HJ.out.2.2.trans P8.out.2⟩, K7⟩
            ·
              have M2 := Srt.half _ mid e z eme k4 c3 S1 S2
              have R7 := R6
              have K7 := K6
              clear S1 S2 S3 RN1
              have HJ : Hid (Srt.Merged lt _ (Srt.rot F s m e) a z) := Srt.join _ _ _ a mid z (by omega) (by omega) P7.out M1 M2
              clear M1 M2
              go_wp2_with fail
              all_goals first | omega | skip
              all_goals
                go_end0
                exact ⟨rfl, _, R7, ⟨HJ.out.1, HJ.out.2.1.trans P8.out.1, HJ.out.2.2.trans P8.out.2⟩, K7⟩
end Go.Proofs.Ythbobmanicnplab
