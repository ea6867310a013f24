/- A plan of instalments, of the program and of the document's word: what is told of it; the document's DuesPlan. -/
import Derived.Test.YtehopfpcikbaiaaDoorDuRef
import Derived.Test.YtehopfpcikbaiaaDoorTRef2ToHWk
import Derived.Test.YtehopfpcikbaiaaDoorHJefToHRef
import Derived.Test.YtehopfpcikbaiaaDoorWTop2ToVRule
import Derived.Test.YtehopfpcikbaiaaDoorVSea
namespace Go.Proofs.YtehopfpcikbaiaaDoor
open Go.RowKit Go.BigFrame

namespace Dp
/-- the day of the kth instalment, or why not -/
def fk (R : Wk.Rst) (L : List Wk.Rl) (s u n : Int) (k : Nat) : Int × Int := if (Trm.nthF s u n k).2 = 0 then Wk.told R L (Wk.next R L (Trm.nthF s u n k).1) else (0, (Trm.nthF s u n k).2)
end Dp
theorem OwnD.fits {w : World} {B : Nat} {v : Value} {xs : List Dp.Du} (h : OwnD w B v xs) {a : Option Addr} {n k : Nat} (e : v = .slice a n k) : xs.length ≤ k := by
  rcases h.2 with ⟨h1, h0⟩ | ⟨g, cap, cur, h1, _, _, h3, _⟩
  · omega
  · rw [h1] at e
    cases e
    exact h3
/-- dues that are answered -/
def duePost (w : World) (r : List Dp.Du × Int) (e : Ending) (w' : World) : Prop := ∃ a cap, e = .returned (.tuple #[.slice a r.1.length cap, .int .i64 r.2]) ∧ r.1.length ≤ cap ∧ RowD w' a r.1 ∧ Below w.heap.size w w'
theorem duePost.bad {w w' : World} {r : List Dp.Du × Int} {c : Int} (h : r = ([], c)) (hb : Below w.heap.size w w') : duePost w r (.returned (.tuple #[.slice none 0 0, .int .i64 c])) w' := by
  subst h
  exact ⟨none, 0, rfl, Nat.le_refl _, .inl rfl, hb⟩
theorem infoD : ∃ i : TypeInfo, Tryd.prog.info? 42 = some i ∧ i.zero = some (.agg #[.int .i64 0, .int .i64 0]) ∧ i.size = 2 ∧ i.bytes = 16 := by
  have h := infoDu
  cases hq : Tryd.prog.info? 42 with
  | none => simp [hq] at h
  | some i => simp [hq] at h; exact ⟨i, rfl, h.1, h.2.1, h.2.2⟩
/-- how the world stands within a plan: the calendar's box and its rules, the term's box -/
structure DSt (w W : World) (R : Wk.Rst) (L : List Wk.Rl) (a : Option Addr) (n c : Nat) (u t : Int) : Prop where
  row : Row4 W a L
  below : Below w.heap.size w W
  lt : w.heap.size + 1 < W.heap.size
  box : ∀ j v, (#[.bool R.b0, .bool R.b1, .bool R.b2, .bool R.b3, .bool R.b4, .bool R.b5, .bool R.b6, .slice a n c] : Array Value)[j]? = some v → W.cell? ⟨w.heap.size, j, none⟩ = some v
  tm : W.cell? ⟨w.heap.size + 1, 0, none⟩ = some (.int .i64 u) ∧ W.cell? ⟨w.heap.size + 1, 1, none⟩ = some (.int .i64 t)
theorem DSt.start {w : World} {R : Wk.Rst} {L : List Wk.Rl} {a : Option Addr} {n c : Nat} {u t : Int} (hr : Row4 w a L) :
    DSt w ((w.alloc (.cells #[.bool R.b0, .bool R.b1, .bool R.b2, .bool R.b3, .bool R.b4, .bool R.b5, .bool R.b6, .slice a n c] 25)).alloc (.cells #[.int .i64 u, .int .i64 t] 27)) R L a n c u t := by
  have hb : Below w.heap.size w ((w.alloc (.cells #[.bool R.b0, .bool R.b1, .bool R.b2, .bool R.b3, .bool R.b4, .bool R.b5, .bool R.b6, .slice a n c] 25)).alloc (.cells #[.int .i64 u, .int .i64 t] 27)) := (below_box w _).alloc (by simp) _
  have t0 : ((w.alloc (.cells #[.bool R.b0, .bool R.b1, .bool R.b2, .bool R.b3, .bool R.b4, .bool R.b5, .bool R.b6, .slice a n c] 25)).alloc (.cells #[.int .i64 u, .int .i64 t] 27)).cell? ⟨(w.alloc (.cells #[.bool R.b0, .bool R.b1, .bool R.b2, .bool R.b3, .bool R.b4, .bool R.b5, .bool R.b6, .slice a n c] 25)).heap.size, 0, none⟩ = some (.int .i64 u) := by simp
  have t1 : ((w.alloc (.cells #[.bool R.b0, .bool R.b1, .bool R.b2, .bool R.b3, .bool R.b4, .bool R.b5, .bool R.b6, .slice a n c] 25)).alloc (.cells #[.int .i64 u, .int .i64 t] 27)).cell? ⟨(w.alloc (.cells #[.bool R.b0, .bool R.b1, .bool R.b2, .bool R.b3, .bool R.b4, .bool R.b5, .bool R.b6, .slice a n c] 25)).heap.size, 1, none⟩ = some (.int .i64 t) := by simp
  rw [World.size_alloc] at t0 t1
  exact ⟨hr.below hb, hb, by simp, fun j v hj => (World.cell?_alloc_past _ _ _ (by simp)).trans (boxCells w _ _ j v hj), t0, t1⟩
theorem DSt.on {w W W' : World} {R : Wk.Rst} {L : List Wk.Rl} {a : Option Addr} {n c : Nat} {u t : Int} (h : DSt w W R L a n c u t) (hb : Below W.heap.size W W') : DSt w W' R L a n c u t :=
  ⟨h.row.below hb, below_on h.below (Nat.le_refl _) hb, Nat.lt_of_lt_of_le h.lt hb.size, fun j v hj => (hb.cell (p := ⟨w.heap.size, j, none⟩) (by have := h.lt; show w.heap.size < _; omega)).trans (h.box j v hj),
    (hb.cell (p := ⟨w.heap.size + 1, 0, none⟩) h.lt).trans h.tm.1, (hb.cell (p := ⟨w.heap.size + 1, 1, none⟩) h.lt).trans h.tm.2⟩
set_option maxRecDepth 100000 in
set_option maxHeartbeats 4000000 in
theorem duesPlan_any (R : Wk.Rst) (L : List Wk.Rl) (a : Option Addr) (cap : Nat) (s u n T m : Int) (w : World) (hl : L.length ≤ maxLen) (hr : Row4 w a L) :
    Calls Tryd.prog 8 #[calV R a L.length cap, .int .i64 s, .agg #[.int .i64 u, .int .i64 n], .int .i64 T, .int .i64 m] w (duePost w (Dp.plan (Dp.fk R L s u n) (Shr.evn T m) (Shr.ecode T m))) := by
  have HR : Hid (Row4 w a L) := hr
  have HL : Hid (L.length ≤ maxLen) := hl
  obtain ⟨c, hc⟩ : ∃ c, Shr.ecode T m = c := ⟨_, rfl⟩
  obtain ⟨xs, hxs⟩ : ∃ xs, Shr.evn T m = xs := ⟨_, rfl⟩
  have HEV := fun W => refEven T m W
  simp only [hc, hxs] at HEV
  have HEV : Hid (∀ W, Calls Tryd.prog 17 #[.int .i64 T, .int .i64 m] W fun e w' => ∃ v, e = .returned (.tuple #[v, .int .i64 c]) ∧ OwnI w' W.heap.size v xs ∧ Below W.heap.size W w') := HEV
  have D0 : Hid (DSt w _ R L a L.length cap u n) := DSt.start hr
  rw [hc, hxs]
  clear hr hl
  by_cases c0 : c = 0
  · subst c0
    have hm : 1 ≤ m ∧ m ≤ 32 := by have := (Shr.ecode_zero T m).1 hc; omega
    obtain ⟨M, rfl⟩ := Int.eq_ofNat_of_zero_le (show 0 ≤ m by omega)
    have hlen : xs.length = M := by rw [← hxs]; unfold Shr.evn; rw [if_pos hc]; simp
    have HXL : Hid (xs.length = M) := hlen
    have hM : M ≤ 32 := by omega
    obtain ⟨f, hf⟩ : ∃ f, Dp.fk R L s u n = f := ⟨_, rfl⟩
    have HF : Hid (Dp.fk R L s u n = f) := hf
    obtain ⟨i0, hi0, hi1, hi2, hi3⟩ := infoD
    have HI : Hid (Tryd.prog.info? 42 = some i0 ∧ i0.zero = some (.agg #[.int .i64 0, .int .i64 0]) ∧ i0.size = 2 ∧ i0.bytes = 16) := ⟨hi0, hi1, hi2, hi3⟩
    rw [hf]
    clear hc hxs hlen hm hf hi0 hi1 hi2 hi3
    go_enter Tryd.func8, Tryd.ntmps8
    go_wp2_with fail
    refine (HEV.out _).mono ?_
    rintro e w1 ⟨v, rfl, ho, hb⟩
    have D1 : Hid (DSt w w1 R L a L.length cap u n) := D0.out.on hb
    obtain ⟨va, vc, rfl, hrow⟩ := ho.row
    have HX : Hid (Row1 w1 va xs) := hrow
    rw [HXL.out]
    clear ho hb hrow
    go_wp2
    go_loopw [14, 15] (fun ov iv wr => ∃ (k : Nat) (v : Value), k ≤ M ∧ iv = .int .i64 k ∧ v = ov ∧ OwnD wr w1.heap.size v (Dp.pL f xs k) ∧ Dp.pE f 0 M = Dp.pE f k (M - k) ∧ Below w1.heap.size w1 wr) (fun _ iv _ => M - (intOf iv).toNat)
    case atStart => exact ⟨0, _, Nat.zero_le _, rfl, rfl, OwnD.nil _ _, rfl, Below.refl _ _⟩
    case round =>
      obtain ⟨k, v, hk, rfl, rfl, ho, hpe, hb⟩ := hrel
      have HO : Hid (OwnD wr w1.heap.size v (Dp.pL f xs k)) := ho
      have HPE : Hid (Dp.pE f 0 M = Dp.pE f k (M - k)) := hpe
      have HB : Hid (Below w1.heap.size w1 wr) := hb
      have D2 : Hid (DSt w wr R L a L.length cap u n) := D1.out.on hb
      clear ho hpe hb
      by_cases hlt : k < M
      · have hlt' : (k : Int) < (M : Int) := by omega
        obtain ⟨b, off, x, rfl, -, hx, c1⟩ := (HX.out.below HB.out).at (k := k) (by rw [HXL.out]; exact hlt)
        have HXK : Hid (xs[k]? = some x) := hx
        have HST : Hid (_) := Dp.pE_step f k M hlt
        obtain ⟨q1, hq1⟩ : ∃ q, (Trm.nthF s u n k).1 = q := ⟨_, rfl⟩
        obtain ⟨q2, hq2⟩ : ∃ q, (Trm.nthF s u n k).2 = q := ⟨_, rfl⟩
        have HN : Hid (∀ W, Calls Tryd.prog 18 #[.int .i64 s, .agg #[.int .i64 u, .int .i64 n], .int .i64 (k : Int)] W fun e w' => e = .returned (.tuple #[.int .i64 q1, .int .i64 q2]) ∧ Below W.heap.size W w') := fun W => by have := refNthF s u n k W; rw [hq1, hq2] at this; exact this
        have hfk : f k = if q2 = 0 then Wk.told R L (Wk.next R L q1) else (0, q2) := by rw [← HF.out]; unfold Dp.fk; rw [hq1, hq2]
        have HLn : Hid ((Dp.pL f xs k).length = k) := Dp.pL_len f xs k
        have t0 := D2.out.tm.1
        have t1 := D2.out.tm.2
        have hsz := D2.out.lt
        clear hx hq1 hq2
        by_cases h2 : q2 = 0
        · rw [if_pos h2] at hfk
          subst h2
          obtain ⟨y, hy⟩ : ∃ y, (f k).1 = y := ⟨_, rfl⟩
          obtain ⟨z, hz⟩ : ∃ z, (f k).2 = z := ⟨_, rfl⟩
          have HW : Hid (∀ W, Row4 W a L → Calls Tryd.prog 19 #[calV R a L.length cap, .int .i64 q1] W fun e w' => e = .returned (.tuple #[.int .i64 y, .int .i64 z]) ∧ Below W.heap.size W w') := fun W hW => by have := vWorkNext R L a cap q1 W HL.out hW; rw [← hfk, hy, hz] at this; exact this
          have HY : Hid ((f k).1 = y ∧ (f k).2 = z) := ⟨hy, hz⟩
          clear hfk hy hz
          by_cases hz0 : z = 0
          · subst hz0
            have HPL : Hid (Dp.pL f xs (k + 1) = Dp.pL f xs k ++ [(y, x)]) := by show _ = _; rw [Dp.pL_succ f xs k x HXK.out, HY.out.1]
            have HPE2 : Hid (Dp.pE f 0 M = Dp.pE f (k + 1) (M - (k + 1))) := by show _ = _; rw [HPE.out, HST.out, if_pos HY.out.2]
            go_wp2_with fail
            refine (HN.out _).mono ?_
            rintro e w2 ⟨rfl, hb⟩
            have D3 : Hid (DSt w w2 R L a L.length cap u n) := D2.out.on hb
            have B3 : Hid (Below wr.heap.size wr w2) := hb
            have g0 := D3.out.box 0 _ rfl
            have g1 := D3.out.box 1 _ rfl
            have g2 := D3.out.box 2 _ rfl
            have g3 := D3.out.box 3 _ rfl
            have g4 := D3.out.box 4 _ rfl
            have g5 := D3.out.box 5 _ rfl
            have g6 := D3.out.box 6 _ rfl
            have g7 := D3.out.box 7 _ rfl
            clear hb t0 t1 c1
            go_wp2_with fail
            refine (HW.out _ D3.out.row).mono ?_
            rintro e w3 ⟨rfl, hb⟩
            have B4 : Hid (Below wr.heap.size wr w3) := below_on B3.out (Nat.le_refl _) hb
            obtain ⟨b', off', x', e', -, hx', c1⟩ := (HX.out.below (below_on HB.out (Nat.le_refl _) B4.out)).at (k := k) (by rw [HXL.out]; exact hlt)
            obtain ⟨rfl, rfl⟩ : b = b' ∧ off = off' := by simpa using e'
            obtain rfl : x = x' := by have := HXK.out.symm.trans hx'; simpa using this
            have hz4 : w1.heap.size ≤ w3.heap.size := Nat.le_trans HB.out.size B4.out.size
            clear hb g0 g1 g2 g3 g4 g5 g6 g7 e' hx'
            go_wp2_with (at_builtin; refine wpList_append_own _ rfl (.tmp 50) (.tmp 57) 28 rfl w1.heap.size 42 i0 _ 2 16 Tryd.underlying28 HI.out.1 HI.out.2.1 HI.out.2.2.1 HI.out.2.2.2 rfl (by omega) v (Dp.pL f xs k).length (flatD (Dp.pL f xs k)) rfl (World.ownsRow.alloc (HO.out.still B4.out) _) ⟨w3.heap.size, 0, none⟩ 1 1 [.int .i64 y, .int .i64 x] rfl rfl (cellD_new _ _ _ _) (oneD _ _) ?q2 ?q3 ?q4 ?_)
            case q2 => unfold maxLen; have := HLn.out; omega
            case q3 => have := HLn.out; omega
            case q4 => first | omega | (simp; omega)
            intro v1 w4 hown hgrow _
            have hst := OwnD.snoc (by have := HB.out.size; have := B4.out.size; omega) (HO.out.still B4.out) (below_on HB.out (Nat.le_refl _) B4.out) hown hgrow
            have HO4 : Hid (OwnD w4 w1.heap.size v1 (Dp.pL f xs (k + 1)) ∧ Below w1.heap.size w1 w4) := by show _ ∧ _; rw [HPL.out]; exact hst
            clear hown hgrow hst
            go_wp2
            go_roundw
            case rel => exact ⟨k + 1, _, by omega, by go_num, rfl, HO4.out.1, HPE2.out, HO4.out.2⟩
            case measure => simp [intOf]; omega
          · have HPZ : Hid (Dp.plan f xs 0 = ([], z)) := by
              have e : Dp.pE f 0 M = z := by rw [HPE.out, HST.out, if_neg (by rw [HY.out.2]; exact hz0), HY.out.2]
              show _ = _
              unfold Dp.plan
              rw [if_pos rfl, HXL.out, e, if_neg hz0]
            have hz1 : (z != 0) = true := by simpa using hz0
            clear hz0
            go_wp2_with fail
            refine (HN.out _).mono ?_
            rintro e w2 ⟨rfl, hb⟩
            have D3 : Hid (DSt w w2 R L a L.length cap u n) := D2.out.on hb
            have g0 := D3.out.box 0 _ rfl
            have g1 := D3.out.box 1 _ rfl
            have g2 := D3.out.box 2 _ rfl
            have g3 := D3.out.box 3 _ rfl
            have g4 := D3.out.box 4 _ rfl
            have g5 := D3.out.box 5 _ rfl
            have g6 := D3.out.box 6 _ rfl
            have g7 := D3.out.box 7 _ rfl
            clear hb t0 t1 c1
            go_wp2_with fail
            refine (HW.out _ D3.out.row).mono ?_
            rintro e w3 ⟨rfl, hb⟩
            have D4 : Hid (DSt w w3 R L a L.length cap u n) := D3.out.on hb
            clear hb g0 g1 g2 g3 g4 g5 g6 g7
            go_wp2
            go_ret2
            exact duePost.bad HPZ.out D4.out.below
        · rw [if_neg h2] at hfk
          have HPZ : Hid (Dp.plan f xs 0 = ([], q2)) := by
            have e : Dp.pE f 0 M = q2 := by rw [HPE.out, HST.out, hfk]; exact if_neg h2
            show _ = _
            unfold Dp.plan
            rw [if_pos rfl, HXL.out, e, if_neg h2]
          have h21 : (q2 != 0) = true := by simpa using h2
          have h22 : (q2 == 0) = false := by simpa using h2
          clear h2 hfk
          go_wp2_with fail
          refine (HN.out _).mono ?_
          rintro e w2 ⟨rfl, hb⟩
          have D3 : Hid (DSt w w2 R L a L.length cap u n) := D2.out.on hb
          clear hb t0 t1 c1
          go_wp2
          go_ret2
          exact duePost.bad HPZ.out D3.out.below
      · obtain rfl : k = M := by omega
        have hp0 : Dp.pE f 0 k = 0 := by rw [HPE.out, Nat.sub_self]; rfl
        have HPZ : Hid (Dp.plan f xs 0 = (Dp.pL f xs k, 0)) := by
          show _ = _
          unfold Dp.plan
          rw [if_pos rfl, HXL.out, if_pos hp0]
        clear hp0
        obtain ⟨ra, rc, rfl, -, hrow⟩ := HO.out.row
        have HRW : Hid (RowD wr ra (Dp.pL f xs k)) := hrow
        have HFT : Hid ((Dp.pL f xs k).length ≤ rc) := HO.out.fits rfl
        clear hrow
        go_wp2
        go_ret2
        rw [HPZ.out]
        exact ⟨ra, rc, rfl, HFT.out, HRW.out, D2.out.below⟩
  · have HPZ : Hid (Dp.plan (Dp.fk R L s u n) xs c = ([], c)) := by
      show _ = _
      unfold Dp.plan
      rw [if_neg c0]
    have c1 : (c != 0) = true := by simpa using c0
    clear c0 hc hxs
    go_enter Tryd.func8, Tryd.ntmps8
    go_wp2_with fail
    refine (HEV.out _).mono ?_
    rintro e w1 ⟨v, rfl, ho, hb⟩
    have D1 : Hid (DSt w w1 R L a L.length cap u n) := D0.out.on hb
    clear ho hb
    go_wp2
    go_ret2
    exact duePost.bad HPZ.out D1.out.below
end Go.Proofs.YtehopfpcikbaiaaDoor
