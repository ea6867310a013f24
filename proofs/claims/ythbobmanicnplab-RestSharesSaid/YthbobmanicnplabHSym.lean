/- The walk of the library's symmetric merge (slices, for a stable sort), first part: one alone on the left, or on the right. -/
import Derived.Test.YthbobmanicnplabHIns
namespace Go.Proofs.Ythbobmanicnplab
open Go.RowKit Go.BigFrame Go.Sort
variable {lt : Int → Int → Prop}

set_option maxHeartbeats 4000000 in
set_option maxRecDepth 100000 in
theorem sym_left (g : Nat) (cb : Array Value) (B : Nat) (w0 : World) (N : Int) (C : CmpOk g cb B w0 N lt) (o : Srt.Ord lt) (b n cap a m z : Nat) (F : Nat → Int) (w : World) (hn : n ≤ 64) (hm : m = a + 1) (haz : m ≤ z) (hz : z ≤ n) (hBb : B ≤ b)
    (hinv : Below B w0 w) (hr : RowI w b n F) (ss : Srt.Sorted lt F (a + 1) z) (hl : Srt.Lr F a (a + 1) z) (rng : ∀ i, i < n → 0 ≤ F i ∧ F i < N) :
    Calls Try.prog 20 #[.slice (some ⟨b, 0, none⟩) n cap, .int .i64 a, .int .i64 m, .int .i64 z, .func (.func g) #[] cb] w fun e w' => e = .returned (.tuple #[]) ∧ ∃ G, RowI w' b n G ∧ Srt.Merged lt G F a z ∧ w.grownBy w' (some b) := by
  have eg := C.eg
  have HC : Hid (CmpOk g cb B w0 N lt) := C
  have HI : Hid (Below B w0 w ∧ B ≤ w0.heap.size) := ⟨hinv, C.hB⟩
  have HS : Hid (Srt.Sorted lt F (a + 1) z) := ss
  have HL : Hid (Srt.Lr F a (a + 1) z) := hl
  have HN : Hid (∀ i, i < n → 0 ≤ F i ∧ F i < N) := rng
  have hma : (m : Int) - (a : Int) = 1 := by omega
  have HM : Hid (m = a + 1) := hm
  have hma2 : a < m := by omega
  have hma3 : m ≤ a + 1 := by omega
  clear C hinv ss hl rng hm
  go_enter Try.func20, Try.ntmps20
  go_wp2
  go_loopw [10, 11] (fun iv jv wr => ∃ (i j : Nat), iv = .int .i64 i ∧ jv = .int .i64 j ∧ m ≤ i ∧ i ≤ j ∧ j ≤ z ∧ RowI wr b n F ∧ w.grownBy wr (some b) ∧ Hid (∀ k, a + 1 ≤ k → k < i → lt (F k) (F a)) ∧ Hid (∀ k, j ≤ k → k < z → ¬ lt (F k) (F a))) (fun iv jv _ => (intOf jv).toNat - (intOf iv).toNat)
  case atStart => exact ⟨m, z, rfl, rfl, Nat.le_refl _, haz, Nat.le_refl _, hr, World.grownBy.refl _ _, fun k h1 h2 => by omega, fun k h1 h2 => by omega⟩
  case round =>
    clear hr
    obtain ⟨i, j, rfl, rfl, hi, hij, hj, R, K, HLo, HUp⟩ := hrel
    have HK : Hid (w.grownBy wr (some b)) := K
    clear K
    by_cases hlt : i < j
    · obtain ⟨h, hh⟩ : ∃ h : Nat, h = (i + j) / 2 := ⟨_, rfl⟩
      have hzz : ((i : Int) + (j : Int)) / 2 = (h : Int) := by omega
      have hih : i ≤ h := by omega
      have hhj : h < j := by omega
      have hij' : (i : Int) < (j : Int) := by omega
      have hz2 : (h : Int) < (n : Int) := by omega
      have hz3 : (a : Int) < (n : Int) := by omega
      clear hh
      have dh := cell_regrown (R.cell (i := h) (by omega))
      have da := cell_regrown (R.cell (i := a) (by omega))
      have hx := HN.out h (by omega)
      have hy := HN.out a (by omega)
      have hxy := HL.out a h (by omega) (by omega) (by omega) (by omega)
      obtain ⟨c, hc1, hc2, hc3, hc4⟩ := HC.out.call (F h) (F a) hx.1 hx.2 hy.1 hxy
      have HT : Hid (c < 0 ↔ lt (F h) (F a)) := hc1
      have HC4 : Hid (∀ W, Below B w0 W → Calls Try.prog g (#[.int .i64 (F h), .int .i64 (F a)] ++ cb) W fun e w' => e = .returned (.int .i64 c) ∧ Below W.heap.size W w') := hc4
      have H1 : Hid (lt (F h) (F a) → ∀ k, a + 1 ≤ k → k < h + 1 → lt (F k) (F a)) := fun hh => Srt.low_left o F (a + 1) z h (F a) HS.out (by omega) hh
      have H2 : Hid (¬ lt (F h) (F a) → ∀ k, h ≤ k → k < z → ¬ lt (F k) (F a)) := fun hh => Srt.high_left o F (a + 1) z h (F a) HS.out (by omega) hh
      have HIW : Hid (Below B w0 wr) := below_grown HI.out.1 (Nat.le_trans HI.out.2 HI.out.1.size) hBb HK.out
      have HR : Hid (RowI wr b n F) := R
      clear hc1 hc4 hx hy hxy R
      generalize F h = xh at *
      generalize F a = xa at *
      go_wp2_with fail
      refine wp_region_quiet_below (by kernel_rfl) (by kernel_rfl) ?_
      repeat go_big_quiet_step ((go_at_fn g; exact Calls.regrown_of (HC4.out _ (below_reg HIW.out HI.out.2 _ _))))
      refine wpQuiet_nil ?_
      intro _ hw'
      obtain ⟨⟨dq, osq⟩, hw''⟩ := hw'
      subst hw''
      have B1 := below_regrown wr dq osq
      generalize grow (redrawn wr dq) osq = w4 at *
      have R4 := HR.out.below B1
      have K4 := HK.out.trans (grown_below B1 (some b))
      clear dh da
      by_cases hc : c < 0
      · go_wp2
        go_roundw
        case rel => exact ⟨h + 1, j, by go_num, rfl, by omega, by omega, hj, R4, K4, H1.out (HT.out.1 hc), HUp⟩
        case measure => simp [intOf]; omega
      · go_wp2
        go_roundw
        case rel => exact ⟨i, h, rfl, rfl, hi, by omega, by omega, R4, K4, HLo, H2.out (fun q => hc (HT.out.2 q))⟩
        case measure => simp [intOf]; omega
    · obtain rfl : i = j := by omega
      have MER : Hid (Srt.Merged lt (Srt.rot F a (a + 1) i) F a z) := Srt.merge_left o F a z i (by omega) hj HS.out HL.out HLo.out HUp.out
      clear HLo HUp HS HL HC
      have R0 : RowI wr b n (Srt.rot F a (a + 1) (a + 1)) := R.congr (fun q _ => (Srt.rot_none2 F a (a + 1) q).symm)
      clear R
      go_wp2
      go_loopw [13] (fun kv wr2 => ∃ k : Nat, kv = .int .i64 k ∧ a ≤ k ∧ k + 1 ≤ i ∧ RowI wr2 b n (Srt.rot F a (a + 1) (k + 1)) ∧ w.grownBy wr2 (some b)) (fun kv _ => i - (intOf kv).toNat)
      case atStart => exact ⟨a, rfl, Nat.le_refl _, by omega, R0, HK.out⟩
      case round =>
        clear R0 HK
        obtain ⟨k, rfl, hak, hki, R, K⟩ := hrel
        by_cases hlt2 : k + 1 < i
        · obtain ⟨k1, hk1⟩ : ∃ k1 : Nat, k1 = k + 1 := ⟨_, rfl⟩
          have HST : Hid (∀ q, Srt.swp (Srt.rot F a (a + 1) (k + 1)) k k1 q = Srt.rot F a (a + 1) (k1 + 1) q) := fun q => by rw [hk1]; exact Srt.step_left F a k hak q
          have c0 := R.cell (i := k) (by omega)
          have c1 := R.cell (i := k1) (by omega)
          have f0 := R.frozen k
          have f1 := R.frozen k1
          have HR : Hid (RowI wr b n (Srt.rot F a (a + 1) (k + 1))) := R
          have HK : Hid (w.grownBy wr (some b)) := K
          generalize hx0 : Srt.rot F a (a + 1) (k + 1) k = x0 at c0
          generalize hx1 : Srt.rot F a (a + 1) (k + 1) k1 = x1 at c1
          have HX : Hid (x0 = Srt.rot F a (a + 1) (k + 1) k ∧ x1 = Srt.rot F a (a + 1) (k + 1) k1) := ⟨hx0.symm, hx1.symm⟩
          have HK1 : Hid (k1 = k + 1) := hk1
          have kz : (k : Int) + 1 = (k1 : Int) := by omega
          have kz1 : (k : Int) < (n : Int) := by omega
          have kz2 : (k1 : Int) < (n : Int) := by omega
          have kz3 : (k : Int) < (i : Int) - 1 := by omega
          have kne : k ≠ k1 := by omega
          clear hx0 hx1 R K hk1
          go_wp2_with fail
          go_big_region
          go_wp2
          go_roundw
          case rel => exact ⟨k1, rfl, by have := HK1.out; omega, by have := HK1.out; omega, HR.out.swapped HX.out.2 HX.out.1 HST.out, grown_swap HK.out _ _ _ _⟩
          case measure => have := HK1.out; simp [intOf]; omega
        · obtain rfl : i = k + 1 := by omega
          go_wp2
          (try simp only [Exit.inBlock, Exit.then])
          refine bodyPost_ret (results_none rfl _ _ _) rfl ?_
          exact ⟨rfl, _, R, MER.out, K⟩
set_option maxHeartbeats 4000000 in
set_option maxRecDepth 100000 in
theorem sym_right (g : Nat) (cb : Array Value) (B : Nat) (w0 : World) (N : Int) (C : CmpOk g cb B w0 N lt) (o : Srt.Ord lt) (b n cap a m z : Nat) (F : Nat → Int) (w : World) (hn : n ≤ 64) (ham : a + 1 < m) (hm : z = m + 1) (hz : z ≤ n) (hBb : B ≤ b)
    (hinv : Below B w0 w) (hr : RowI w b n F) (ss : Srt.Sorted lt F a m) (hl : Srt.Lr F a m (m + 1)) (rng : ∀ i, i < n → 0 ≤ F i ∧ F i < N) :
    Calls Try.prog 20 #[.slice (some ⟨b, 0, none⟩) n cap, .int .i64 a, .int .i64 m, .int .i64 z, .func (.func g) #[] cb] w fun e w' => e = .returned (.tuple #[]) ∧ ∃ G, RowI w' b n G ∧ Srt.Merged lt G F a z ∧ w.grownBy w' (some b) := by
  have eg := C.eg
  have HC : Hid (CmpOk g cb B w0 N lt) := C
  have HI : Hid (Below B w0 w ∧ B ≤ w0.heap.size) := ⟨hinv, C.hB⟩
  have HS : Hid (Srt.Sorted lt F a m) := ss
  have HL : Hid (Srt.Lr F a m (m + 1)) := hl
  have HN : Hid (∀ i, i < n → 0 ≤ F i ∧ F i < N) := rng
  have hma : (z : Int) - (m : Int) = 1 := by omega
  have hma1 : (((m : Int) - (a : Int)) == 1) = false := by simp; omega
  have HM : Hid (z = m + 1) := hm
  have hmz : m < z := by omega
  clear C hinv ss hl rng hm
  go_enter Try.func20, Try.ntmps20
  go_wp2
  go_loopw [14, 15] (fun iv jv wr => ∃ (i j : Nat), iv = .int .i64 i ∧ jv = .int .i64 j ∧ a ≤ i ∧ i ≤ j ∧ j ≤ m ∧ RowI wr b n F ∧ w.grownBy wr (some b) ∧ Hid (∀ k, a ≤ k → k < i → ¬ lt (F m) (F k)) ∧ Hid (∀ k, j ≤ k → k < m → lt (F m) (F k))) (fun iv jv _ => (intOf jv).toNat - (intOf iv).toNat)
  case atStart => exact ⟨a, m, rfl, rfl, Nat.le_refl _, by omega, Nat.le_refl _, hr, World.grownBy.refl _ _, fun k h1 h2 => by omega, fun k h1 h2 => by omega⟩
  case round =>
    clear hr
    obtain ⟨i, j, rfl, rfl, hi, hij, hj, R, K, HLo, HUp⟩ := hrel
    have HK : Hid (w.grownBy wr (some b)) := K
    clear K
    by_cases hlt : i < j
    · obtain ⟨h, hh⟩ : ∃ h : Nat, h = (i + j) / 2 := ⟨_, rfl⟩
      have hzz : ((i : Int) + (j : Int)) / 2 = (h : Int) := by omega
      have hih : i ≤ h := by omega
      have hhj : h < j := by omega
      have hij' : (i : Int) < (j : Int) := by omega
      have hz2 : (h : Int) < (n : Int) := by omega
      have hz3 : (m : Int) < (n : Int) := by omega
      clear hh
      have dh := cell_regrown (R.cell (i := h) (by omega))
      have da := cell_regrown (R.cell (i := m) (by omega))
      have hx := HN.out m (by omega)
      have hy := HN.out h (by omega)
      have hxy := HL.out h m (by omega) (by omega) (by omega) (by omega)
      obtain ⟨c, hc1, hc2, hc3, hc4⟩ := HC.out.call (F m) (F h) hx.1 hx.2 hy.1 hxy
      have HT : Hid (c < 0 ↔ lt (F m) (F h)) := hc1
      have HC4 : Hid (∀ W, Below B w0 W → Calls Try.prog g (#[.int .i64 (F m), .int .i64 (F h)] ++ cb) W fun e w' => e = .returned (.int .i64 c) ∧ Below W.heap.size W w') := hc4
      have H1 : Hid (¬ lt (F m) (F h) → ∀ k, a ≤ k → k < h + 1 → ¬ lt (F m) (F k)) := fun hh => Srt.low_right o F a m h (F m) HS.out (by omega) hh
      have H2 : Hid (lt (F m) (F h) → ∀ k, h ≤ k → k < m → lt (F m) (F k)) := fun hh => Srt.high_right o F a m h (F m) HS.out (by omega) hh
      have HIW : Hid (Below B w0 wr) := below_grown HI.out.1 (Nat.le_trans HI.out.2 HI.out.1.size) hBb HK.out
      have HR : Hid (RowI wr b n F) := R
      clear hc1 hc4 hx hy hxy R
      generalize F h = xh at *
      generalize F m = xm at *
      go_wp2_with fail
      refine wp_region_quiet_below (by kernel_rfl) (by kernel_rfl) ?_
      repeat go_big_quiet_step ((go_at_fn g; exact Calls.regrown_of (HC4.out _ (below_reg HIW.out HI.out.2 _ _))))
      refine wpQuiet_nil ?_
      intro _ hw'
      obtain ⟨⟨dq, osq⟩, hw''⟩ := hw'
      subst hw''
      have B1 := below_regrown wr dq osq
      generalize grow (redrawn wr dq) osq = w4 at *
      have R4 := HR.out.below B1
      have K4 := HK.out.trans (grown_below B1 (some b))
      clear dh da
      by_cases hc : c < 0
      · have hcd : (!decide (c < 0)) = false := by simpa using hc
        go_wp2
        all_goals first | (exfalso; rename_i hq; rw [hcd] at hq; exact absurd hq (by decide)) | skip
        go_roundw
        case rel => exact ⟨i, h, rfl, rfl, hi, by omega, by omega, R4, K4, HLo, H2.out (HT.out.1 hc)⟩
        case measure => simp [intOf]; omega
      · have hcd : (!decide (c < 0)) = true := by simpa using hc
        go_wp2
        all_goals first | (exfalso; rename_i hq; rw [hcd] at hq; exact absurd hq (by decide)) | skip
        go_roundw
        case rel => exact ⟨h + 1, j, by go_num, rfl, by omega, by omega, hj, R4, K4, H1.out (fun q => hc (HT.out.2 q)), HUp⟩
        case measure => simp [intOf]; omega
    · obtain rfl : i = j := by omega
      have MER : Hid (Srt.Merged lt (Srt.rot F i m (m + 1)) F a (m + 1)) := Srt.merge_right o F a m i hi hj HS.out HL.out HLo.out HUp.out
      clear HLo HUp HS HL HC
      have R0 : RowI wr b n (Srt.rot F m m (m + 1)) := R.congr (fun q _ => (Srt.rot_none1 F m (m + 1) (by omega) q).symm)
      clear R
      go_wp2
      go_loopw [17] (fun kv wr2 => ∃ k : Nat, kv = .int .i64 k ∧ i ≤ k ∧ k ≤ m ∧ RowI wr2 b n (Srt.rot F k m (m + 1)) ∧ w.grownBy wr2 (some b)) (fun kv _ => (intOf kv).toNat)
      case atStart => exact ⟨m, rfl, hj, Nat.le_refl _, R0, HK.out⟩
      case round =>
        clear R0 HK
        obtain ⟨k, rfl, hak, hki, R, K⟩ := hrel
        by_cases hlt2 : i < k
        · obtain ⟨k1, hk1⟩ : ∃ k1 : Nat, k = k1 + 1 := ⟨k - 1, by omega⟩
          have HST : Hid (∀ q, Srt.swp (Srt.rot F k m (m + 1)) k k1 q = Srt.rot F k1 m (m + 1) q) := fun q => by rw [hk1]; exact Srt.step_right F k1 m (by omega) q
          have c0 := R.cell (i := k) (by omega)
          have c1 := R.cell (i := k1) (by omega)
          have f0 := R.frozen k
          have f1 := R.frozen k1
          have HR : Hid (RowI wr b n (Srt.rot F k m (m + 1))) := R
          have HK : Hid (w.grownBy wr (some b)) := K
          generalize hx0 : Srt.rot F k m (m + 1) k = x0 at c0
          generalize hx1 : Srt.rot F k m (m + 1) k1 = x1 at c1
          have HX : Hid (x0 = Srt.rot F k m (m + 1) k ∧ x1 = Srt.rot F k m (m + 1) k1) := ⟨hx0.symm, hx1.symm⟩
          have HK1 : Hid (k = k1 + 1) := hk1
          have kz : (k : Int) - 1 = (k1 : Int) := by omega
          have kz1 : (k : Int) < (n : Int) := by omega
          have kz2 : (k1 : Int) < (n : Int) := by omega
          have kz3 : (i : Int) < (k : Int) := by omega
          have kne : k ≠ k1 := by omega
          clear hx0 hx1 R K hk1
          go_wp2_with fail
          go_big_region
          go_wp2
          go_roundw
          case rel => exact ⟨k1, rfl, by have := HK1.out; omega, by have := HK1.out; omega, HR.out.swapped HX.out.2 HX.out.1 HST.out, grown_swap HK.out _ _ _ _⟩
          case measure => have := HK1.out; simp [intOf]; omega
        · obtain rfl : i = k := by omega
          go_wp2
          (try simp only [Exit.inBlock, Exit.then])
          refine bodyPost_ret (results_none rfl _ _ _) rfl ?_
          exact ⟨rfl, _, R, by rw [HM.out]; exact MER.out, K⟩
end Go.Proofs.Ythbobmanicnplab
