/- The walk of the library's insertion (slices, for a stable sort), over a closure that tells which of two comes first. -/
import Derived.Test.YthbobmanicnplabHSwap
import Derived.Laws.Shifts
import Derived.Shelf.Abstract
import Derived.Deep.RegionWith
import Derived.BigQuiet
import Derived.Lib.QuietBelow
namespace Go.Proofs.Ythbobmanicnplab
open Go.RowKit Go.BigFrame Go.Sort

/-- what is asked of the closure: of one that came later and one that came earlier it tells whether the later one stands ahead; it turns nothing that was there -/
structure CmpOk (g : Nat) (cb : Array Value) (B : Nat) (w0 : World) (N : Int) (lt : Int → Int → Prop) : Prop where
  eg : ∀ args w, (callFunc g args).run Try.prog w = .ok (.enter g args) w
  hB : B ≤ w0.heap.size
  call : ∀ (x y : Int), 0 ≤ x → x < N → 0 ≤ y → y < x → ∃ c : Int, (c < 0 ↔ lt x y) ∧ -1 ≤ c ∧ c ≤ 1 ∧
    ∀ W, Below B w0 W → Calls Try.prog g (#[.int .i64 x, .int .i64 y] ++ cb) W fun e w' => e = .returned (.int .i64 c) ∧ Below W.heap.size W w'
theorem below_reg {B : Nat} {a w : World} (h : Below B a w) (hB : B ≤ a.heap.size) (d : Nat) (os : Array Obj) : Below B a (grow (redrawn w d) os) := below_on h hB (below_regrown w d os)
variable {lt : Int → Int → Prop}
set_option maxHeartbeats 2000000 in
set_option maxRecDepth 100000 in
theorem insert_some (g : Nat) (cb : Array Value) (B : Nat) (w0 : World) (N : Int) (C : CmpOk g cb B w0 N lt) (o : Srt.Ord lt) (b n cap a z : Nat) (F : Nat → Int) (w : World) (hn : n ≤ 64) (haz : a + 1 ≤ z) (hz : z ≤ n) (hBb : B ≤ b)
    (hinv : Below B w0 w) (hr : RowI w b n F) (asc : ∀ i j, a ≤ i → i < j → j < z → F i < F j) (rng : ∀ i, i < n → 0 ≤ F i ∧ F i < N) :
    Calls Try.prog 19 #[.slice (some ⟨b, 0, none⟩) n cap, .int .i64 a, .int .i64 z, .func (.func g) #[] cb] w fun e w' => e = .returned (.tuple #[]) ∧ ∃ G, RowI w' b n G ∧ Srt.Merged lt G F a z ∧ w.grownBy w' (some b) := by
  have eg := C.eg
  have HC : Hid (CmpOk g cb B w0 N lt) := C
  have HI : Hid (Below B w0 w ∧ B ≤ w0.heap.size) := ⟨hinv, C.hB⟩
  have HA : Hid (∀ i j, a ≤ i → i < j → j < z → F i < F j) := asc
  have HN : Hid (∀ i, i < n → 0 ≤ F i ∧ F i < N) := rng
  clear C hinv asc rng
  go_enter Try.func19, Try.ntmps19
  go_wp2
  go_loopw [8] (fun iv wr => ∃ (i : Nat) (G : Nat → Int), iv = .int .i64 i ∧ a < i ∧ i ≤ z ∧ RowI wr b n G ∧ w.grownBy wr (some b) ∧ Hid (Srt.Merged lt G F a i)) (fun iv _ => z - (intOf iv).toNat)
  case atStart => exact ⟨a + 1, F, by go_num, by omega, haz, hr, World.grownBy.refl _ _, ⟨fun i j h1 h2 h3 => by omega, Srt.Same.refl _ _ _, Srt.Off.refl _ _ _⟩⟩
  case round =>
    clear hr
    obtain ⟨i, G, rfl, hai, hiz, R, K, HM⟩ := hrel
    by_cases hlt : i < z
    · have hltz : (i : Int) < (z : Int) := by omega
      have HL : Hid (Srt.Lr G a i (i + 1)) := fun p q h1 h2 h3 h4 => by
        obtain ⟨p', e1, e2, e3⟩ := HM.out.2.1.1 p h1 h2
        have eq : q = i := by omega
        subst eq
        rw [e3, HM.out.2.2 q (.inr (Nat.le_refl _))]
        exact HA.out p' q e1 e2 hlt
      have HV : Hid (∀ k, a ≤ k → k ≤ i → 0 ≤ G k ∧ G k < N) := fun k h1 h2 => by
        by_cases e : k = i
        · rw [e, HM.out.2.2 i (.inr (Nat.le_refl _))]; exact HN.out i (by omega)
        · obtain ⟨k', e1, e2, e3⟩ := HM.out.2.1.1 k h1 (by omega)
          rw [e3]; exact HN.out k' (by omega)
      have R0 : RowI wr b n (Srt.rot G i i (i + 1)) := R.congr (fun q _ => (Srt.rot_none1 G i (i + 1) (by omega) q).symm)
      clear R
      go_wp2
      go_loopw [9] (fun jv wr2 => ∃ (j : Nat), jv = .int .i64 j ∧ a ≤ j ∧ j ≤ i ∧ RowI wr2 b n (Srt.rot G j i (i + 1)) ∧ w.grownBy wr2 (some b) ∧ Hid (∀ k, j ≤ k → k < i → lt (G i) (G k))) (fun jv _ => (intOf jv).toNat)
      case atStart => exact ⟨i, rfl, by omega, Nat.le_refl _, R0, K, fun k h1 h2 => by omega⟩
      case round =>
        clear R0 K
        obtain ⟨j, rfl, haj, hji, R, K, HU⟩ := hrel
        have OUT : Hid ((j = a ∨ ¬ lt (G i) (G (j - 1))) → Srt.Merged lt (Srt.rot G j i (i + 1)) F a (i + 1)) := fun hs => by
          have mr := Srt.merge_right o G a i j haj hji HM.out.1 HL.out (Srt.stop_left o G a j i _ hji HM.out.1 hs) HU.out
          exact ⟨mr.1, mr.2.1.trans (HM.out.2.1.wide HM.out.2.2 (Nat.le_refl _) (by omega)), mr.2.2.trans (HM.out.2.2.wide (Nat.le_refl _) (by omega))⟩
        have HK : Hid (w.grownBy wr (some b)) := K
        clear K
        by_cases hja : a < j
        · obtain ⟨jp, hjp⟩ : ∃ jp, j = jp + 1 := ⟨j - 1, by omega⟩
          have ejp : j - 1 = jp := by omega
          rw [ejp] at OUT
          have vj : Srt.rot G j i (i + 1) j = G i := by rw [Srt.rot_left G j i (i + 1) j (by omega) (by omega)]; congr 1; omega
          have vp : Srt.rot G j i (i + 1) jp = G jp := Srt.rot_off G j i (i + 1) (by omega) (by omega) jp (.inl (by omega))
          have cj := R.cell (i := j) (by omega)
          have cp := R.cell (i := jp) (by omega)
          have fj := R.frozen j
          have fp := R.frozen jp
          rw [vj] at cj
          rw [vp] at cp
          have hx := HV.out i (by omega) (Nat.le_refl _)
          have hy := HV.out jp (by omega) (by omega)
          have hxy := HL.out jp i (by omega) (by omega) (Nat.le_refl _) (by omega)
          obtain ⟨c, hc1, hc2, hc3, hc4⟩ := HC.out.call (G i) (G jp) hx.1 hx.2 hy.1 hxy
          have HX : Hid (G i = Srt.rot G j i (i + 1) j) := vj.symm
          have HY : Hid (G jp = Srt.rot G j i (i + 1) jp) := vp.symm
          have HT : Hid (c < 0 ↔ lt (G i) (G jp)) := hc1
          have HC4 : Hid (∀ W, Below B w0 W → Calls Try.prog g (#[.int .i64 (G i), .int .i64 (G jp)] ++ cb) W fun e w' => e = .returned (.int .i64 c) ∧ Below W.heap.size W w') := hc4
          have HS : Hid (∀ q, Srt.swp (Srt.rot G j i (i + 1)) j jp q = Srt.rot G jp i (i + 1) q) := fun q => by rw [hjp]; exact Srt.step_right G jp i (by omega) q
          have HU2 : Hid (lt (G i) (G jp) → ∀ k, jp ≤ k → k < i → lt (G i) (G k)) := fun hl k h1 h2 => by
            by_cases e : k = jp
            · rw [e]; exact hl
            · exact HU.out k (by omega) h2
          clear vj vp hc1 hc4 hx hy hxy HU
          have HIW : Hid (Below B w0 wr) := below_grown HI.out.1 (Nat.le_trans HI.out.2 HI.out.1.size) hBb HK.out
          have HR : Hid (RowI wr b n (Srt.rot G j i (i + 1))) := R
          generalize G i = xj at *
          generalize G jp = xp at *
          have jz1 : (j : Int) - 1 = (jp : Int) := by omega
          have jz2 : (j : Int) < (n : Int) := by omega
          have jz3 : (jp : Int) < (n : Int) := by omega
          have jz4 : (a : Int) < (j : Int) := by omega
          have jne : j ≠ jp := by omega
          have HJ : Hid (j = jp + 1) := hjp
          clear R hjp ejp
          have dj := cell_regrown cj
          have dp := cell_regrown cp
          clear cj cp fj fp
          go_wp2_with fail
          refine wp_region_quiet_below (by kernel_rfl) (by kernel_rfl) ?_
          repeat go_big_quiet_step ((go_at_fn g; exact Calls.regrown_of (HC4.out _ (below_reg HIW.out HI.out.2 _ _))))
          refine wpQuiet_nil ?_
          intro _ hw'
          obtain ⟨⟨dq, osq⟩, hw''⟩ := hw'
          subst hw''
          have B1 := below_regrown wr dq osq
          generalize grow (redrawn wr dq) osq = w4 at *
          have R4 := HR.out.below B1
          have K4 := HK.out.trans (grown_below B1 (some b))
          clear dj dp
          by_cases hc : c < 0
          · have cj := R4.cell (i := j) (by omega)
            have cp := R4.cell (i := jp) (by omega)
            have fj := R4.frozen j
            have fp := R4.frozen jp
            rw [← HX.out] at cj
            rw [← HY.out] at cp
            have HR4 : Hid (RowI w4 b n (Srt.rot G j i (i + 1))) := R4
            have HK4 : Hid (w.grownBy w4 (some b)) := K4
            clear R4 K4
            go_wp2_with fail
            go_big_region
            go_wp2
            go_roundw
            case rel => exact ⟨jp, rfl, by have := HJ.out; omega, by have := HJ.out; omega, HR4.out.swapped HY.out HX.out HS.out, grown_swap HK4.out _ _ _ _, HU2.out (HT.out.1 hc)⟩
            case measure => have := HJ.out; simp [intOf]; omega
          · go_wp2
            go_roundw
            case rel => exact ⟨i + 1, _, by go_num, by omega, by omega, R4, K4, OUT.out (.inr (fun h => hc (HT.out.2 h)))⟩
            case measure => simp [intOf]; omega
        · obtain rfl : j = a := by omega
          have hjd : decide ((j : Int) < (j : Int)) = false := by simp
          go_wp2_with fail
          go_big_region
          go_wp2
          go_roundw
          case rel => exact ⟨i + 1, _, by go_num, by omega, by omega, R.below (below_drewN (Below.refl _ _) 1), HK.out.trans (grown_drewN _ 1 _), OUT.out (.inl (by first | trivial | rfl))⟩
          case measure => simp [intOf]; omega
    · obtain rfl : i = z := by omega
      go_wp2
      go_end0
      exact ⟨rfl, G, R, HM.out, K⟩
theorem insert_none (g : Nat) (cb : Array Value) (b n cap a z : Nat) (w : World) (hn : n ≤ 64) (haz : z ≤ a) (ha : a ≤ n) :
    Calls Try.prog 19 #[.slice (some ⟨b, 0, none⟩) n cap, .int .i64 a, .int .i64 z, .func (.func g) #[] cb] w fun e w' => e = .returned (.tuple #[]) ∧ w' = w := by
  have haz' : (z : Int) ≤ (a : Int) := by omega
  go_enter Try.func19, Try.ntmps19
  go_wp2
  go_loop [8] (fun iv => iv = .int .i64 ((a : Int) + 1)) (fun _ => 0)
  case atStart => rfl
  case round =>
    subst hrel
    go_wp2
    go_end0
    exact ⟨rfl, rfl⟩
theorem insert_any (g : Nat) (cb : Array Value) (B : Nat) (w0 : World) (N : Int) (C : CmpOk g cb B w0 N lt) (o : Srt.Ord lt) (b n cap a z : Nat) (F : Nat → Int) (w : World) (hn : n ≤ 64) (haz : a ≤ z) (hz : z ≤ n) (hBb : B ≤ b)
    (hinv : Below B w0 w) (hr : RowI w b n F) (asc : ∀ i j, a ≤ i → i < j → j < z → F i < F j) (rng : ∀ i, i < n → 0 ≤ F i ∧ F i < N) :
    Calls Try.prog 19 #[.slice (some ⟨b, 0, none⟩) n cap, .int .i64 a, .int .i64 z, .func (.func g) #[] cb] w fun e w' => e = .returned (.tuple #[]) ∧ ∃ G, RowI w' b n G ∧ Srt.Merged lt G F a z ∧ w.grownBy w' (some b) := by
  by_cases h : a = z
  · subst h
    refine (insert_none g cb b n cap a a w hn (Nat.le_refl _) hz).mono fun e w' ⟨he, hw⟩ => ⟨he, F, hw ▸ hr, ⟨fun i j h1 h2 h3 => by omega, Srt.Same.refl _ _ _, Srt.Off.refl _ _ _⟩, hw ▸ World.grownBy.refl _ _⟩
  · exact insert_some g cb B w0 N C o b n cap a z F w hn (by omega) hz hBb hinv hr asc rng
end Go.Proofs.Ythbobmanicnplab
