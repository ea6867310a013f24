/- The reference's terms: Full. -/
import Derived.Test.YthojffiajlpneaaDoorTRef2
import Derived.Deep.RegionHeld3
namespace Go.Proofs.YthojffiajlpneaaDoor
open Go.RowKit

set_option maxHeartbeats 1000000 in
theorem refFull_bad (s u n k c : Int) (w : World) (h : Trm.bad u n s k 64 = c) (hc : c ≠ 0) :
    Calls Tryd.prog 13 #[.int .i64 s, .agg #[.int .i64 u, .int .i64 n], .int .i64 k] w fun e w' => e = .returned (.tuple #[.slice none 0 0, .int .i64 c]) ∧ Below w.heap.size w w' := by
  have hc1 : (c != 0) = true := by simpa using hc
  have hc2 : (c == 0) = false := by simpa using hc
  rcases bad_cases u n s k 64 c h hc with g | ⟨g, rfl, g2⟩ | ⟨g, rfl, g2, g3, g4⟩
  · have G : Hid (_) := g
    clear g h hc
    go_enter Tryd.func13, Tryd.ntmps13
    go_wp2_with fail
    refine (refTCheck_at _ _ _ _ G.out).mono ?_; rintro e w1 ⟨rfl, b1⟩
    go_wp2_with fail
    go_ret2
    exact ⟨rfl, below_next (below_box _ _) (Nat.le_refl _) b1⟩
  · have G : Hid (_) := g
    have G2 : Hid (_) := g2
    clear g g2 h hc
    go_enter Tryd.func13, Tryd.ntmps13
    go_wp2_with fail
    refine (refTCheck_at _ _ _ _ G.out).mono ?_; rintro e w1 ⟨rfl, b1⟩
    go_wp2_with (go_at_call 26; refine (noDay_yes _ _ G2.out).mono ?_; rintro e w' ⟨rfl, rfl⟩)
    go_ret2
    exact ⟨rfl, below_next (below_box _ _) (Nat.le_refl _) b1⟩
  · have G : Hid (_) := g
    clear g h hc
    rcases (show k < 0 ∨ (¬ k < 0 ∧ 64 < k) by omega) with g5 | ⟨g5, g6⟩
    · clear g4
      go_enter Tryd.func13, Tryd.ntmps13
      go_wp2_with fail
      refine (refTCheck_at _ _ _ _ G.out).mono ?_; rintro e w1 ⟨rfl, b1⟩
      go_wp2_with (go_at_call 26; refine (noDay_no _ _ g2 g3).mono ?_; rintro e w' ⟨rfl, rfl⟩)
      go_ret2
      exact ⟨rfl, below_next (below_box _ _) (Nat.le_refl _) b1⟩
    · clear g4
      have g5' : decide (k < 0) = false := by simpa using g5
      go_enter Tryd.func13, Tryd.ntmps13
      go_wp2_with fail
      refine (refTCheck_at _ _ _ _ G.out).mono ?_; rintro e w1 ⟨rfl, b1⟩
      go_wp2_with (go_at_call 26; refine (noDay_no _ _ g2 g3).mono ?_; rintro e w' ⟨rfl, rfl⟩)
      go_ret2
      exact ⟨rfl, below_next (below_box _ _) (Nat.le_refl _) b1⟩
/-- what a round of TermFull keeps: what it has made (below block T), and the world ahead of it -/
structure FInv (W0 : World) (B T : Nat) (v : Value) (xs : List Spn.Sp) (W : World) : Prop where
  own : OwnS W W0.heap.size v xs
  below : Below W0.heap.size W0 W
  lt : B < W0.heap.size
  top : ∀ g, v.ownBlock = some g → g < T
  size : T ≤ W.heap.size
  base : W0.heap.size ≤ T
theorem FInv.on {W0 W W' : World} {B T : Nat} {v : Value} {xs : List Spn.Sp} (h : FInv W0 B T v xs W) (hb : Below W.heap.size W W') : FInv W0 B T v xs W' :=
  ⟨OwnS.still h.own hb, below_on h.below (Nat.le_refl _) hb, h.lt, h.top, Nat.le_trans h.size hb.size, h.base⟩
theorem FInv.set {W0 W : World} {B T b : Nat} {v : Value} {xs : List Spn.Sp} (h : FInv W0 B T v xs W) (hb : T ≤ b) (o : Nat) (u : Value) : FInv W0 B T v xs (W.setCell ⟨b, o, none⟩ u) :=
  ⟨ownsRow_setCell_other h.own (fun e => by have := h.top b e; omega) u, h.below.setCell (Nat.le_trans h.base hb) u, h.lt, h.top, by rw [World.size_setCell]; exact h.size, h.base⟩
theorem FInv.set2 {W0 W : World} {B T b : Nat} {v x y : Value} {xs : List Spn.Sp} (h : Hid (FInv W0 B T v xs W)) (hb : T ≤ b) : Hid (FInv W0 B T v xs ((W.setCell ⟨b, 0, none⟩ x).setCell ⟨b, 1, none⟩ y)) :=
  FInv.set (FInv.set h.out hb 0 x) hb 1 y
theorem FInv.box {W0 W : World} {B T : Nat} {v : Value} {xs : List Spn.Sp} (h : Hid (FInv W0 B T v xs W)) (o : Obj) : Hid (FInv W0 B T v xs (W.alloc o)) := FInv.on h.out (below_box _ _)
theorem FInv.cell {W0 W : World} {B T : Nat} {v : Value} {xs : List Spn.Sp} (h : FInv W0 B T v xs W) (o : Nat) (u : Value) (hc : W0.cell? ⟨B, o, none⟩ = some u) : W.cell? ⟨B, o, none⟩ = some u := by
  rw [(bcell h.below).1 B o h.lt]; exact hc
theorem FInv.S {W0 W : World} {B T : Nat} {v u n : Value} {xs : List Spn.Sp} (h : Hid (FInv W0 B T v xs W)) (c : Hid (W0.cell? ⟨B, 0, none⟩ = some u ∧ W0.cell? ⟨B, 1, none⟩ = some n)) : W.cell? ⟨B, 0, none⟩ = some u ∧ W.cell? ⟨B, 1, none⟩ = some n ∧ Hid (FInv W0 B T v xs W) :=
  ⟨h.out.cell 0 _ c.out.1, h.out.cell 1 _ c.out.2, h⟩
/-- both calls of a round, whichever it is -/
theorem refDay_inv (s y m d u n k : Int) (W0 W : World) (B T : Nat) (v : Value) (xs : List Spn.Sp) (hI : FInv W0 B T v xs W) (hv : Cal.vld y m d) (hs : Cal.num y m d = s) (hu1 : 1 ≤ u) (hu2 : u ≤ 4) (hn1 : 1 ≤ n) (hn2 : n ≤ 120) (hk1 : 0 ≤ k) (hk2 : k ≤ 1001)
    (c0 : W0.cell? ⟨B, 0, none⟩ = some (.int .i64 u)) (c1 : W0.cell? ⟨B, 1, none⟩ = some (.int .i64 n)) :
    Calls Tryd.prog 27 #[.int .i64 s, .agg #[.int .i64 u, .int .i64 n], .int .i64 k] W fun e w' => e = .returned (.int .i64 (Trm.day y m d u n k)) ∧ w'.cell? ⟨B, 0, none⟩ = some (.int .i64 u) ∧ w'.cell? ⟨B, 1, none⟩ = some (.int .i64 n) ∧ Hid (FInv W0 B T v xs w') ∧
      (∀ b o, b < W.heap.size → w'.cell? ⟨b, o, none⟩ = W.cell? ⟨b, o, none⟩) ∧ (∀ b o, b < W.heap.size → w'.frozen? ⟨b, o, none⟩ = W.frozen? ⟨b, o, none⟩) ∧ T ≤ w'.heap.size ∧ W.heap.size ≤ w'.heap.size :=
  (refTermDay_any s y m d u n k W hv hs hu1 hu2 hn1 hn2 hk1 hk2).mono fun _ _ h => ⟨h.1, (hI.on h.2).cell 0 _ c0, (hI.on h.2).cell 1 _ c1, hI.on h.2, (bcell h.2).1, (bcell h.2).2, (hI.on h.2).size, h.2.size⟩
set_option maxHeartbeats 2000000 in
theorem refFull_ok (s y m d u n : Int) (M : Nat) (w : World) (hv : Cal.vld y m d) (hs : Cal.num y m d = s) (hu1 : 1 ≤ u) (hu2 : u ≤ 4) (hn1 : 1 ≤ n) (hn2 : n ≤ 120) (hM : M ≤ 64) :
    Calls Tryd.prog 13 #[.int .i64 s, .agg #[.int .i64 u, .int .i64 n], .int .i64 M] w fun e w' => ∃ v, e = .returned (.tuple #[v, .int .i64 (Trm.over (Trm.day y m d u n M))]) ∧ OwnS w' w.heap.size v (Trm.full y m d u n M) ∧ Below w.heap.size w w' := by
  have hi := Cal.num_in y m d hv
  rw [hs] at hi
  have h0 := Trm.day_zero y m d u n hv
  rw [hs] at h0
  have G : Hid (Trm.chk u n = 0) := Trm.chk_ok u n hu1 hu2 hn1 hn2
  have HV : Hid (Cal.vld y m d ∧ Cal.num y m d = s) := ⟨hv, hs⟩
  have H0 : Hid (_) := h0
  obtain ⟨W0, hW0⟩ : ∃ W0, W0 = w.alloc (.cells #[.int .i64 u, .int .i64 n] 23) := ⟨_, rfl⟩
  have hz : W0.heap.size = w.heap.size + 1 := by rw [hW0]; simp
  have BW : Hid (Below w.heap.size w W0) := by unfold Hid; rw [hW0]; exact below_box _ _
  have CW : Hid (W0.cell? ⟨w.heap.size, 0, none⟩ = some (.int .i64 u) ∧ W0.cell? ⟨w.heap.size, 1, none⟩ = some (.int .i64 n)) := by unfold Hid; rw [hW0]; exact has2_new _ _ _ _
  obtain ⟨i0, hi0, hz0, hz1, hz2⟩ := info_parts infoSpan
  have HI : Hid (Tryd.prog.info? 46 = some i0 ∧ i0.zero = some (.agg #[.int .i64 0, .int .i64 0]) ∧ i0.size = 2 ∧ i0.bytes = 16) := ⟨hi0, hz0, hz1, hz2⟩
  clear hi0 hz0 hz1 hz2 hv hs h0
  have HZ : Hid (W0.heap.size = w.heap.size + 1) := hz
  have HW0 : Hid (w.alloc (.cells #[.int .i64 u, .int .i64 n] 23) = W0) := hW0.symm
  have hm3 : decide ((M : Int) < 0) = false := by simp
  have hm4 : decide (64 < (M : Int)) = false := by simp; omega
  clear hz hW0
  go_enter Tryd.func13, Tryd.ntmps13
  go_wp2_with fail
  rw [HW0.out]
  refine (refTCheck_at _ _ _ _ G.out).mono ?_; rintro e w1 ⟨rfl, b1⟩
  have B1 : Hid (Below W0.heap.size W0 w1) := b1
  clear b1
  go_wp2_with (go_at_call 26; refine (noDay_no _ _ hi.1 hi.2).mono ?_; rintro e w' ⟨rfl, rfl⟩)
  clear hm3 hm4
  go_loopw [9, 10] (fun s9 s10 wr => ∃ (k : Nat) (v : Value), k ≤ M ∧ s10 = .int .i64 k ∧ s9 = v ∧ Hid (¬ Trm.day y m d u n k = 0) ∧ Hid (OwnS wr W0.heap.size v (Trm.spn y m d u n k) ∧ Below W0.heap.size W0 wr)) (fun _ s10 _ => M - (intOf s10).toNat)
  case atStart =>
    refine ⟨0, _, Nat.zero_le _, rfl, rfl, ?_, ⟨OwnS.nil _ _, B1.out⟩⟩
    show ¬ Trm.day y m d u n ((0 : Nat) : Int) = 0
    rw [show ((0 : Nat) : Int) = 0 from rfl, H0.out]; omega
  case round =>
    obtain ⟨k, v, hk, rfl, rfl, HN, HOT⟩ := hrel
    obtain ⟨T, hT⟩ : ∃ T, T = wr.heap.size := ⟨_, rfl⟩
    have HO : Hid (FInv W0 w.heap.size T u9 (Trm.spn y m d u n k) wr) := ⟨HOT.out.1, HOT.out.2, by have := HZ.out; omega, fun g hg => by rw [hT]; exact (World.ownsRow.lt HOT.out.1 g hg).2, by omega, by rw [hT]; exact HOT.out.2.size⟩
    have hTle : T ≤ wr.heap.size := by omega
    clear HOT hT
    clear B1
    by_cases hlt : k < M
    · have hlt' : (k : Int) < (M : Int) := by omega
      obtain ⟨x, hx⟩ : ∃ x, Trm.day y m d u n (k + 1) = x := ⟨_, rfl⟩
      have HX : Hid (Trm.day y m d u n (k + 1) = x) := hx
      obtain ⟨F, hF⟩ : ∃ F, Trm.day y m d u n k = F := ⟨_, rfl⟩
      have HF : Hid (Trm.day y m d u n k = F) := hF
      clear hx hF
      have hk0 : (0 : Int) ≤ (k : Int) := by omega
      have hk64 : (k : Int) ≤ 64 := by omega
      have hw : IntKind.i64.wrap ((k : Int) + 1) = (k : Int) + 1 := by simp [IntKind.wrap, IntKind.bits, IntKind.signed]; omega
      have c0 := FInv.cell HO.out 0 _ CW.out.1
      have c1 := FInv.cell HO.out 1 _ CW.out.2
      have HOd : Hid (FInv W0 w.heap.size T u9 (Trm.spn y m d u n k) wr.drew) := FInv.on HO.out (below_drewN (Below.refl _ _) 1)
      go_wp2_with fail
      go_region_held3 (fun w' => w'.cell? ⟨w.heap.size, 0, none⟩ = some (.int .i64 u) ∧ w'.cell? ⟨w.heap.size, 1, none⟩ = some (.int .i64 n) ∧ Hid (FInv W0 w.heap.size T u9 (Trm.spn y m d u n k) w')) (first | exact FInv.S (by assumption) CW | exact FInv.S (FInv.box (by assumption) _) CW | exact FInv.S (FInv.set2 (by assumption) (by first | assumption | (simp; omega))) CW)
        ((go_at_call 27; refine (refDay_inv s y m d u n _ W0 _ w.heap.size T u9 (Trm.spn y m d u n k) (Hid.out (by first | assumption | exact FInv.box (by assumption) _)) HV.out.1 HV.out.2 hu1 hu2 hn1 hn2 (by omega) (by omega) CW.out.1 CW.out.2).mono ?_; rintro e w2 ⟨rfl, q0, q1, HO2, hc2, hf2, hz2, hy2⟩; (try simp only [World.size_alloc, World.size_drew] at hy2); (try (have hlt2 : wr.heap.size < w2.heap.size := (by omega)))))
      all_goals
        obtain ⟨-, -, FI⟩ := ‹_ ∧ _ ∧ Hid (FInv W0 w.heap.size T u9 (Trm.spn y m d u n k) _)›
        rw [HX.out, HF.out] at FI ⊢
        by_cases hx0 : x = 0
        · have HX0 : Hid (x = 0) := hx0
          subst hx0
          go_wp2_with fail
          go_ret2
          have gone : Trm.day y m d u n M = 0 := Trm.day_gone y m d u n HV.out.1 hn1 (k + 1) M (by omega) (by rw [show ((k + 1 : Nat) : Int) = (k : Int) + 1 by omega, HX.out])
          refine ⟨.slice none 0 0, by rw [gone]; rfl, ?_, below_on BW.out (Nat.le_refl _) FI.out.below⟩
          unfold Trm.full; rw [if_pos gone]; exact OwnS.nil _ _
        · have HX0 : Hid (¬ x = 0) := hx0
          have hx1 : (x == 0) = false := by simpa using hx0
          have hlen := Trm.spn_len y m d u n k
          have hsz := FI.out.below.size
          have hown := FI.out.own
          clear hx0
          go_wp2_with (at_builtin; refine wpList_append_own _ rfl (.tmp 49) (.tmp 51) 27 rfl W0.heap.size 46 i0 _ 2 16 Tryd.underlying27 HI.out.1 HI.out.2.1 HI.out.2.2.1 HI.out.2.2.2 rfl (by decide) _ _ _ rfl (World.ownsRow.alloc hown _) ⟨_, 0, none⟩ 1 1 [.int .i64 F, .int .i64 x] rfl rfl (cell2_at _ _ (by simp) _ _ _) (one2 _ _) (by unfold maxLen; omega) (by omega) (by first | omega | (simp at hsz ⊢; omega)) ?_; intro v1 w3 own1 grow1 _)
          have R := OwnS.snoc hsz hown FI.out.below own1 grow1
          have HR : Hid (_) := R
          clear own1 grow1 hown R
          go_wp2
          go_roundw
          case rel =>
            refine ⟨k + 1, _, by omega, by go_num, rfl, ?_, ?_⟩
            · show ¬ Trm.day y m d u n ((k + 1 : Nat) : Int) = 0
              rw [show ((k + 1 : Nat) : Int) = (k : Int) + 1 by omega, HX.out]; exact HX0.out
            · show OwnS _ _ _ (Trm.spn y m d u n (k + 1)) ∧ _
              rw [Trm.spn_succ, HX.out, HF.out]; exact HR.out
          case measure => simp [intOf]; omega
    · obtain rfl : k = M := by omega
      go_wp2_with fail
      go_ret2
      refine ⟨_, ret_err (by unfold Trm.over; rw [if_neg HN.out]), ?_, below_on BW.out (Nat.le_refl _) HO.out.below⟩
      unfold Trm.full; rw [if_neg HN.out]
      exact OwnS.weak HO.out.own (by have := HZ.out; omega)
end Go.Proofs.YthojffiajlpneaaDoor
