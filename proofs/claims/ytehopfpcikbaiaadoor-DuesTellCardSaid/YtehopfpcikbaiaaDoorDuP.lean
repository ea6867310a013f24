/- The contracts of package dues, all together; a plan of instalments, of the program. -/
import Derived.Test.YtehopfpcikbaiaaDoorDuPl
import Derived.Test.YtehopfpcikbaiaaDoorDuD
namespace Go.Proofs.YtehopfpcikbaiaaDoor
open Go.RowKit Go.BigFrame

/-- how the world stands within the program's plan: the planner's box, the rules, the table -/
structure PSt (w W : World) (R : Wk.Rst) (L : List Wk.Rl) (a : Option Addr) (N cap : Nat) (u n s : Int) (g : Nat) : Prop where
  row : Row4 W a L
  laid : Laid W
  below : Below w.heap.size w W
  lt : g < W.heap.size
  box : ∀ j v, (#[.bool R.b0, .bool R.b1, .bool R.b2, .bool R.b3, .bool R.b4, .bool R.b5, .bool R.b6, .slice a N cap, .int .i64 u, .int .i64 n, .int .i64 s] : Array Value)[j]? = some v → W.cell? ⟨g, j, none⟩ = some v
theorem PSt.on {w W W' : World} {R : Wk.Rst} {L : List Wk.Rl} {a : Option Addr} {N cap : Nat} {u n s : Int} {g : Nat} (h : PSt w W R L a N cap u n s g) (hb : Below W.heap.size W W') : PSt w W' R L a N cap u n s g :=
  ⟨h.row.below hb, h.laid.below hb, below_on h.below (Nat.le_refl _) hb, Nat.lt_of_lt_of_le h.lt hb.size, fun j v hj => (hb.cell (p := ⟨g, j, none⟩) h.lt).trans (h.box j v hj)⟩
set_option maxRecDepth 100000 in
set_option maxHeartbeats 4000000 in
theorem pDPlan_any (R : Wk.Rst) (L : List Wk.Rl) (a : Option Addr) (cap : Nat) (s u n T m : Int) (w : World) (hw : Laid w) (hl : L.length ≤ maxLen) (hr : Row4 w a L) :
    Calls Tryd.prog 6 #[calV R a L.length cap, .int .i64 s, .agg #[.int .i64 u, .int .i64 n], .int .i64 T, .int .i64 m] w (duePost w (Dp.plan (Dp.fk R L s u n) (Shr.evn T m) (Shr.ecode T m))) := by
  have HL : Hid (L.length ≤ maxLen) := hl
  have HW : Hid (Laid w) := hw
  obtain ⟨c, hc⟩ : ∃ c, Shr.ecode T m = c := ⟨_, rfl⟩
  obtain ⟨xs, hxs⟩ : ∃ xs, Shr.evn T m = xs := ⟨_, rfl⟩
  have HEV := fun W => pEven T m W
  simp only [hc, hxs] at HEV
  have HEV : Hid (∀ W, Calls Tryd.prog 15 #[.int .i64 T, .int .i64 m] W fun e w' => ∃ v, e = .returned (.tuple #[v, .int .i64 c]) ∧ OutI W w' v xs ∧ Below W.heap.size W w') := HEV
  have D0 : Hid (DSt w _ R L a L.length cap u n) := DSt.start hr
  rw [hc, hxs]
  clear hr hl hw
  by_cases c0 : c = 0
  · subst c0
    have hm : 1 ≤ m ∧ m ≤ 32 := by have := (Shr.ecode_zero T m).1 hc; omega
    obtain ⟨M, rfl⟩ := Int.eq_ofNat_of_zero_le (show 0 ≤ m by omega)
    have hlen : xs.length = M := by rw [← hxs]; unfold Shr.evn; rw [if_pos hc]; simp
    have HXL : Hid (xs.length = M) := hlen
    have hM : M ≤ 32 := by omega
    obtain ⟨f, hf⟩ : ∃ f, Dp.fk R L s u n = f := ⟨_, rfl⟩
    have HF : Hid (Dp.fk R L s u n = f) := hf
    obtain ⟨i0, hi0, hi1, hi2, hi3⟩ := infoD
    have HI : Hid (Tryd.prog.info? 42 = some i0 ∧ i0.zero = some (.agg #[.int .i64 0, .int .i64 0]) ∧ i0.size = 2 ∧ i0.bytes = 16) := ⟨hi0, hi1, hi2, hi3⟩
    rw [hf]
    clear hc hxs hlen hm hf hi0 hi1 hi2 hi3
    go_enter Tryd.func6, Tryd.ntmps6
    go_wp2_with fail
    refine (HEV.out _).mono ?_
    rintro e w1 ⟨v, rfl, ho, hb⟩
    have D1 : Hid (DSt w w1 R L a L.length cap u n) := D0.out.on hb
    obtain ⟨va, vc, rfl, hrow⟩ := ho.row
    have HX : Hid (Row1 w1 va xs) := hrow
    rw [HXL.out]
    have g0 := D1.out.box 0 _ rfl
    have g1 := D1.out.box 1 _ rfl
    have g2 := D1.out.box 2 _ rfl
    have g3 := D1.out.box 3 _ rfl
    have g4 := D1.out.box 4 _ rfl
    have g5 := D1.out.box 5 _ rfl
    have g6 := D1.out.box 6 _ rfl
    have g7 := D1.out.box 7 _ rfl
    have t0 := D1.out.tm.1
    have t1 := D1.out.tm.2
    clear ho hb hrow
    go_wp2
    have hbx := below_box w1 (.cells #[.bool R.b0, .bool R.b1, .bool R.b2, .bool R.b3, .bool R.b4, .bool R.b5, .bool R.b6, .slice a L.length cap, .int .i64 u, .int .i64 n, .int .i64 s] 49)
    have P1 : Hid (PSt w (w1.alloc (.cells #[.bool R.b0, .bool R.b1, .bool R.b2, .bool R.b3, .bool R.b4, .bool R.b5, .bool R.b6, .slice a L.length cap, .int .i64 u, .int .i64 n, .int .i64 s] 49)) R L a L.length cap u n s w1.heap.size) :=
      ⟨D1.out.row.below hbx, HW.out.below (below_on D1.out.below (Nat.le_refl _) hbx), below_on D1.out.below (Nat.le_refl _) hbx, by simp, fun j v hj => boxCells w1 _ _ j v hj⟩
    have HX1 : Hid (Row1 (w1.alloc (.cells #[.bool R.b0, .bool R.b1, .bool R.b2, .bool R.b3, .bool R.b4, .bool R.b5, .bool R.b6, .slice a L.length cap, .int .i64 u, .int .i64 n, .int .i64 s] 49)) va xs) := HX.out.below hbx
    obtain ⟨g, hg⟩ : ∃ g, w1.heap.size = g := ⟨_, rfl⟩
    rw [hg] at P1
    (try rw [hg])
    generalize w1.alloc (.cells #[.bool R.b0, .bool R.b1, .bool R.b2, .bool R.b3, .bool R.b4, .bool R.b5, .bool R.b6, .slice a L.length cap, .int .i64 u, .int .i64 n, .int .i64 s] 49) = W1 at *
    clear g0 g1 g2 g3 g4 g5 g6 g7 t0 t1 HX D1 hbx hg
    go_loopw [15, 35] (fun ov iv wr => ∃ (k : Nat) (v : Value), k ≤ M ∧ iv = .int .i64 k ∧ v = ov ∧ OwnD wr W1.heap.size v (Dp.pL f xs k) ∧ Dp.pE f 0 M = Dp.pE f k (M - k) ∧ Below W1.heap.size W1 wr) (fun _ iv _ => M - (intOf iv).toNat)
    case atStart => exact ⟨0, _, Nat.zero_le _, rfl, rfl, OwnD.nil _ _, rfl, Below.refl _ _⟩
    case round =>
      obtain ⟨k, v, hk, rfl, rfl, ho, hpe, hb⟩ := hrel
      have HO : Hid (OwnD wr W1.heap.size v (Dp.pL f xs k)) := ho
      have HPE : Hid (Dp.pE f 0 M = Dp.pE f k (M - k)) := hpe
      have HB : Hid (Below W1.heap.size W1 wr) := hb
      have P2 : Hid (PSt w wr R L a L.length cap u n s g) := P1.out.on hb
      clear ho hpe hb
      by_cases hlt : k < M
      · have hlt' : (k : Int) < (M : Int) := by omega
        obtain ⟨b, off, x, rfl, hbl, hx, c1⟩ := (HX1.out.below HB.out).at (k := k) (by rw [HXL.out]; exact hlt)
        have HXK : Hid (xs[k]? = some x) := hx
        have HST : Hid (_) := Dp.pE_step f k M hlt
        obtain ⟨y, hy⟩ : ∃ y, (f k).1 = y := ⟨_, rfl⟩
        obtain ⟨z, hz⟩ : ∃ z, (f k).2 = z := ⟨_, rfl⟩
        have HY : Hid ((f k).1 = y ∧ (f k).2 = z) := ⟨hy, hz⟩
        have HDY : Hid (∀ W, Laid W → Row4 W a L → Calls Tryd.prog 16 #[.agg #[.bool R.b0, .bool R.b1, .bool R.b2, .bool R.b3, .bool R.b4, .bool R.b5, .bool R.b6, .slice a L.length cap, .int .i64 u, .int .i64 n, .int .i64 s], .int .i64 (k : Int)] W fun e w' => e = .returned (.tuple #[.int .i64 y, .int .i64 z]) ∧ Below W.heap.size W w') := fun W h1 h2 => dday_any R L a cap s u n k W h1 HL.out h2 y z (by
          have e : Dp.fk R L s u n k = (y, z) := by rw [HF.out, ← hy, ← hz]
          rw [← e]; rfl)
        have HLn : Hid ((Dp.pL f xs k).length = k) := Dp.pL_len f xs k
        have g0 := P2.out.box 0 _ rfl
        have g1 := P2.out.box 1 _ rfl
        have g2 := P2.out.box 2 _ rfl
        have g3 := P2.out.box 3 _ rfl
        have g4 := P2.out.box 4 _ rfl
        have g5 := P2.out.box 5 _ rfl
        have g6 := P2.out.box 6 _ rfl
        have g7 := P2.out.box 7 _ rfl
        have g8 := P2.out.box 8 _ rfl
        have g9 := P2.out.box 9 _ rfl
        have g10 := P2.out.box 10 _ rfl
        have gl := P2.out.lt
        clear hx hy hz
        by_cases hz0 : z = 0
        · subst hz0
          have HPL : Hid (Dp.pL f xs (k + 1) = Dp.pL f xs k ++ [(y, x)]) := by show _ = _; rw [Dp.pL_succ f xs k x HXK.out, HY.out.1]
          have HPE2 : Hid (Dp.pE f 0 M = Dp.pE f (k + 1) (M - (k + 1))) := by show _ = _; rw [HPE.out, HST.out, if_pos HY.out.2]
          go_wp2_with fail
          refine (HDY.out _ P2.out.laid P2.out.row).mono ?_
          rintro e w2 ⟨rfl, hb⟩
          have B4 : Hid (Below wr.heap.size wr w2) := hb
          have hz4 : W1.heap.size ≤ w2.heap.size := Nat.le_trans HB.out.size B4.out.size
          clear hb g0 g1 g2 g3 g4 g5 g6 g7 g8 g9 g10
          go_wp2_with (at_builtin; refine wpList_append_own _ rfl _ _ 28 rfl W1.heap.size 42 i0 _ 2 16 Tryd.underlying28 HI.out.1 HI.out.2.1 HI.out.2.2.1 HI.out.2.2.2 rfl (by omega) v (Dp.pL f xs k).length (flatD (Dp.pL f xs k)) rfl (World.ownsRow.alloc (HO.out.still B4.out) _) ⟨w2.heap.size, 0, none⟩ 1 1 [.int .i64 y, .int .i64 x] rfl rfl (cellD_new _ _ _ _) (oneD _ _) ?q2 ?q3 ?q4 ?_)
          case q2 => unfold maxLen; have := HLn.out; omega
          case q3 => have := HLn.out; omega
          case q4 => first | omega | (simp; omega)
          intro v1 w4 hown hgrow _
          have hst := OwnD.snoc (by have := HB.out.size; have := B4.out.size; omega) (HO.out.still B4.out) (below_on HB.out (Nat.le_refl _) B4.out) hown hgrow
          have HO4 : Hid (OwnD w4 W1.heap.size v1 (Dp.pL f xs (k + 1)) ∧ Below W1.heap.size W1 w4) := by show _ ∧ _; rw [HPL.out]; exact hst
          clear hown hgrow hst
          go_wp2
          go_roundw
          case rel => exact ⟨k + 1, _, by omega, by go_num, rfl, HO4.out.1, HPE2.out, HO4.out.2⟩
          case measure => simp [intOf]; omega
        · have HPZ : Hid (Dp.plan f xs 0 = ([], z)) := by
            have e : Dp.pE f 0 M = z := by rw [HPE.out, HST.out, if_neg (by rw [HY.out.2]; exact hz0), HY.out.2]
            show _ = _
            unfold Dp.plan
            rw [if_pos rfl, HXL.out, e, if_neg hz0]
          have hz1 : (z != 0) = true := by simpa using hz0
          clear hz0
          go_wp2_with fail
          refine (HDY.out _ P2.out.laid P2.out.row).mono ?_
          rintro e w2 ⟨rfl, hb⟩
          have P3 : Hid (PSt w w2 R L a L.length cap u n s g) := P2.out.on hb
          clear hb g0 g1 g2 g3 g4 g5 g6 g7 g8 g9 g10
          go_wp2
          go_ret2
          exact duePost.bad HPZ.out P3.out.below
      · obtain rfl : k = M := by omega
        have hp0 : Dp.pE f 0 k = 0 := by rw [HPE.out, Nat.sub_self]; rfl
        have HPZ : Hid (Dp.plan f xs 0 = (Dp.pL f xs k, 0)) := by
          show _ = _
          unfold Dp.plan
          rw [if_pos rfl, HXL.out, if_pos hp0]
        clear hp0
        obtain ⟨ra, rc, rfl, -, hrow⟩ := HO.out.row
        have HRW : Hid (RowD wr ra (Dp.pL f xs k)) := hrow
        have HFT : Hid ((Dp.pL f xs k).length ≤ rc) := HO.out.fits rfl
        clear hrow
        go_wp2
        go_ret2
        rw [HPZ.out]
        exact ⟨ra, rc, rfl, HFT.out, HRW.out, P2.out.below⟩
  · have HPZ : Hid (Dp.plan (Dp.fk R L s u n) xs c = ([], c)) := by
      show _ = _
      unfold Dp.plan
      rw [if_neg c0]
    have c1 : (c != 0) = true := by simpa using c0
    clear c0 hc hxs
    go_enter Tryd.func6, Tryd.ntmps6
    go_wp2_with fail
    refine (HEV.out _).mono ?_
    rintro e w1 ⟨v, rfl, ho, hb⟩
    have D1 : Hid (DSt w w1 R L a L.length cap u n) := D0.out.on hb
    clear ho hb
    go_wp2
    go_ret2
    exact duePost.bad HPZ.out D1.out.below
end Go.Proofs.YtehopfpcikbaiaaDoor
