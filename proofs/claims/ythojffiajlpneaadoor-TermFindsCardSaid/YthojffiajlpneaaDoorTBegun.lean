/- What must be in any case of terms (termBegun) is so. -/
import Derived.Test.YthojffiajlpneaaDoorTRef3
namespace Go.Proofs.YthojffiajlpneaaDoor
open Go.RowKit Go.BigFrame

theorem mkMonths_any (n : Int) (w : World) :
    Calls Tryd.prog 18 #[.int .i64 n] w fun e w' => e = .returned (.agg #[.int .i64 3, .int .i64 n]) ∧ Below w.heap.size w w' := by
  go_enter Tryd.func18, Tryd.ntmps18
  go_wp2
  exact bodyPost_ret (v := .agg #[.int .i64 3, .int .i64 n]) (by simp [results, Tryd.results18, go_sem]) rfl ⟨rfl, below_box _ _⟩
theorem full_at (s y m d u n : Int) (M : Nat) (c : Int) (l : List Spn.Sp) (w : World) (hw : Laid w) (hv : Cal.vld y m d) (hs : Cal.num y m d = s) (hu1 : 1 ≤ u) (hu2 : u ≤ 4) (hn1 : 1 ≤ n) (hn2 : n ≤ 120) (hM : M ≤ 64) (hc : Trm.over (Trm.day y m d u n M) = c) (hl : Trm.full y m d u n M = l) :
    Calls Tryd.prog 10 #[.int .i64 s, .agg #[.int .i64 u, .int .i64 n], .int .i64 M] w fun e w' => ∃ a cap, e = .returned (.tuple #[.slice a l.length cap, .int .i64 c]) ∧ Row2 w' a l ∧ Below w.heap.size w w' := by
  subst hc hl
  refine (full_ok s y m d u n M w hw hv hs hu1 hu2 hn1 hn2 hM).mono ?_
  rintro e w' ⟨v, rfl, own, b⟩
  obtain ⟨a, cap, rfl, -, row⟩ := OwnS.row own
  exact ⟨a, cap, rfl, row, b⟩
theorem listS_same (a : Option Addr) (n c : Nat) (w : World) :
    Calls Tryd.prog 30 #[.slice a n c] w fun e w' => e = .returned (.slice a n c) ∧ w' = w := by
  go_enter Tryd.func30, Tryd.ntmps30
  go_wp2
  go_ret
  exact ⟨rfl, rfl⟩
/-- what lies there while the last row is asked -/
structure TB (w : World) (bx bz : Nat) (al : Option Addr) (l : List Spn.Sp) (W : World) : Prop where
  below : Below w.heap.size w W
  row : Row2 W al l
  x : Has3 W bx 2024 2 29
  z : Has3 W bz 2024 3 31
theorem TB.on {w W W' : World} {bx bz : Nat} {al : Option Addr} {l : List Spn.Sp} (h : TB w bx bz al l W) (hb : Below W.heap.size W W') : TB w bx bz al l W' :=
  ⟨below_next h.below (Nat.le_refl _) hb, Row2.below h.row hb, h.x.below hb, h.z.below hb⟩
theorem TB.S {w W : World} {bx bz : Nat} {al : Option Addr} {l : List Spn.Sp} (h : Hid (TB w bx bz al l W)) : W.cell? ⟨bx, 0, none⟩ = some (.int .i64 2024) ∧ W.cell? ⟨bx, 1, none⟩ = some (.int .i64 2) ∧ W.cell? ⟨bx, 2, none⟩ = some (.int .i64 29) ∧ W.cell? ⟨bz, 0, none⟩ = some (.int .i64 2024) ∧ W.cell? ⟨bz, 1, none⟩ = some (.int .i64 3) ∧ W.cell? ⟨bz, 2, none⟩ = some (.int .i64 31) ∧ Hid (TB w bx bz al l W) :=
  ⟨h.out.x.2.1, h.out.x.2.2.1, h.out.x.2.2.2, h.out.z.2.1, h.out.z.2.2.1, h.out.z.2.2.2, h⟩
theorem TB.box {w W : World} {bx bz : Nat} {al : Option Addr} {l : List Spn.Sp} (h : Hid (TB w bx bz al l W)) (o : Obj) : Hid (TB w bx bz al l (W.alloc o)) := TB.on h.out (below_box _ _)
theorem tb_day (y m d : Int) (w W : World) (bx bz : Nat) (al : Option Addr) (l : List Spn.Sp) (h : Hid (TB w bx bz al l W)) :
    Calls Tryd.prog 29 #[.int .i64 y, .int .i64 m, .int .i64 d] W fun e w' => e = .returned (.agg #[.int .i64 y, .int .i64 m, .int .i64 d]) ∧ Hid (TB w bx bz al l w') :=
  (mk_any y m d W).mono fun _ _ g => ⟨g.1, TB.on h.out g.2⟩
theorem tb_span (x y : Int) (w W : World) (bx bz : Nat) (al : Option Addr) (l : List Spn.Sp) (h : Hid (TB w bx bz al l W)) :
    Calls Tryd.prog 31 #[.int .i64 x, .int .i64 y] W fun e w' => e = .returned (.agg #[.int .i64 x, .int .i64 y]) ∧ Hid (TB w bx bz al l w') :=
  (mkSpan_any x y W).mono fun _ _ g => ⟨g.1, TB.on h.out g.2⟩
theorem tb_same (al : Option Addr) (ca : Nat) (w W : World) (bx bz : Nat) (h : Hid (TB w bx bz al [(738916, 738945), (738945, 738976)] W)) :
    Calls Tryd.prog 17 #[.slice al 2 ca, .slice (some ⟨W.heap.size, 0, none⟩) 2 2] (W.alloc (.cells #[.int .i64 738916, .int .i64 738945, .int .i64 738945, .int .i64 738976] 46)) fun e w' => e = .returned (.bool true) ∧ Hid (TB w bx bz al [(738916, 738945), (738945, 738976)] w') :=
  (same_below [(738916, 738945), (738945, 738976)] [(738916, 738945), (738945, 738976)] true al (some ⟨W.heap.size, 0, none⟩) ca 2 _ (by decide) (by decide) (by decide) (TB.box h _).out.row (lit_row W _ _ rfl (by decide))).mono fun _ _ g => ⟨g.1, TB.on (TB.box h _).out g.2⟩
theorem ends_one : Trm.ends 2024 1 31 3 1 738945 0 = false ∧ Trm.ends 2024 1 31 3 1 738945 1 = true := by decide
set_option maxHeartbeats 2000000 in
theorem tbegun_any (w : World) (hw : Laid w) :
    Calls Tryd.prog 14 #[] w fun e w' => e = .returned (.bool true) ∧ Below w.heap.size w w' := by
  have hv : Cal.vld 2024 1 31 := by unfold Cal.vld; decide
  have HV : Hid (Cal.vld 2024 1 31) := hv
  have HW : Hid (Laid w) := hw
  clear hv hw
  go_enter Tryd.func14, Tryd.ntmps14
  go_wp2_with fail
  refine (mk_any _ _ _ _).mono ?_; rintro e w1 ⟨rfl, b1⟩
  have B1 : Hid (Below w.heap.size w w1) := b1
  clear b1
  go_wp2_with fail
  refine (day_at 2024 1 31 738916 _ (HW.out.below B1.out) HV.out (by decide)).mono ?_; rintro e w2 ⟨rfl, b2⟩
  have B2 : Hid (Below w.heap.size w w2) := below_next B1.out (Nat.le_refl _) b2
  clear b2 B1
  go_wp2_with fail
  refine (mkMonths_any _ _).mono ?_; rintro e w3 ⟨rfl, b3⟩
  have B3 : Hid (Below w.heap.size w w3) := below_next B2.out (Nat.le_refl _) b3
  clear b3 B2
  go_wp2_with fail
  refine (nth_ok 738916 2024 1 31 3 1 1 738945 0 _ (HW.out.below B3.out) HV.out (by decide) (by decide) (by decide) (by decide) (by decide) (by decide) (by decide) (by decide) (by decide)).mono ?_; rintro e w4 ⟨rfl, b4⟩
  have B4 : Hid (Below w.heap.size w w4) := below_next B3.out (Nat.le_refl _) b4
  clear b4 B3
  go_wp2_with fail
  refine (mkMonths_any _ _).mono ?_; rintro e w5 ⟨rfl, b5⟩
  have B5 : Hid (Below w.heap.size w w5) := below_next B4.out (Nat.le_refl _) b5
  clear b5 B4
  go_wp2_with fail
  refine (nth_ok 738916 2024 1 31 3 1 2 738976 0 _ (HW.out.below B5.out) HV.out (by decide) (by decide) (by decide) (by decide) (by decide) (by decide) (by decide) (by decide) (by decide)).mono ?_; rintro e w6 ⟨rfl, b6⟩
  have B6 : Hid (Below w.heap.size w w6) := below_next B5.out (Nat.le_refl _) b6
  clear b6 B5
  go_wp2_with fail
  refine (of_at 738945 2024 2 29 _ (HW.out.below B6.out) (by unfold Cal.vld; decide) (by decide)).mono ?_; rintro e w7 ⟨rfl, b7⟩
  have B7 : Hid (Below w.heap.size w w7) := below_next B6.out (Nat.le_refl _) b7
  have X7 : Hid (Has3 (w7.alloc (.cells #[.int .i64 2024, .int .i64 2, .int .i64 29] 38)) w7.heap.size 2024 2 29) := Has3.new _ _ _ _ _
  have B7' : Hid (Below w.heap.size w (w7.alloc (.cells #[.int .i64 2024, .int .i64 2, .int .i64 29] 38))) := below_next B7.out (Nat.le_refl _) (below_box _ _)
  clear b7 B6
  go_wp2_with fail
  refine (of_at 738976 2024 3 31 _ (HW.out.below B7'.out) (by unfold Cal.vld; decide) (by decide)).mono ?_; rintro e w8 ⟨rfl, b8⟩
  have B8 : Hid (Below w.heap.size w (w8.alloc (.cells #[.int .i64 2024, .int .i64 3, .int .i64 31] 38))) := below_next (below_next B7'.out (Nat.le_refl _) b8) (Nat.le_refl _) (below_box _ _)
  have X8 : Hid (Has3 (w8.alloc (.cells #[.int .i64 2024, .int .i64 3, .int .i64 31] 38)) w7.heap.size 2024 2 29) := (Has3.below X7.out b8).alloc _
  have Z8 : Hid (Has3 (w8.alloc (.cells #[.int .i64 2024, .int .i64 3, .int .i64 31] 38)) w8.heap.size 2024 3 31) := Has3.new _ _ _ _ _
  clear b8 B7' B7 X7
  go_wp2_with fail
  refine (mkMonths_any _ _).mono ?_; rintro e w9 ⟨rfl, b9⟩
  have B9 : Hid (Below w.heap.size w w9) := below_next B8.out (Nat.le_refl _) b9
  have X9 : Hid (Has3 w9 w7.heap.size 2024 2 29) := Has3.below X8.out b9
  have Z9 : Hid (Has3 w9 w8.heap.size 2024 3 31) := Has3.below Z8.out b9
  clear b9 B8 X8 Z8
  go_wp2_with fail
  refine (find_ok 738916 2024 1 31 3 1 738945 1 0 1 _ (HW.out.below B9.out) HV.out (by decide) (by decide) (by decide) (by decide) (by decide) (by decide) (by decide) (by decide)
    (fun t ht => by obtain rfl : t = 0 := by omega
                    exact ends_one.1) (fun t h1 _ => Trm.ends_mono 2024 1 31 3 1 738945 HV.out (by decide) 1 t h1 ends_one.2) (.inl ⟨by decide, rfl, rfl⟩)).mono ?_; rintro e wa ⟨rfl, ba⟩
  have Ba : Hid (Below w.heap.size w wa) := below_next B9.out (Nat.le_refl _) ba
  have Xa : Hid (Has3 wa w7.heap.size 2024 2 29) := Has3.below X9.out ba
  have Za : Hid (Has3 wa w8.heap.size 2024 3 31) := Has3.below Z9.out ba
  clear ba B9 X9 Z9
  go_wp2_with fail
  refine (mkMonths_any _ _).mono ?_; rintro e wb ⟨rfl, bb⟩
  have Bb : Hid (Below w.heap.size w wb) := below_next Ba.out (Nat.le_refl _) bb
  have Xb : Hid (Has3 wb w7.heap.size 2024 2 29) := Has3.below Xa.out bb
  have Zb : Hid (Has3 wb w8.heap.size 2024 3 31) := Has3.below Za.out bb
  clear bb Ba Xa Za
  go_wp2_with fail
  refine (full_at 738916 2024 1 31 3 1 2 0 [(738916, 738945), (738945, 738976)] _ (HW.out.below Bb.out) HV.out (by decide) (by decide) (by decide) (by decide) (by decide) (by decide) (by decide) (by decide)).mono ?_; rintro e wc ⟨al, ca, rfl, rowc, bc⟩
  have Tc : Hid (TB w w7.heap.size w8.heap.size al [(738916, 738945), (738945, 738976)] wc) := ⟨below_next Bb.out (Nat.le_refl _) bc, rowc, Has3.below Xb.out bc, Has3.below Zb.out bc⟩
  clear bc rowc Bb Xb Zb
  go_wp2_with fail
  refine (mkMonths_any _ _).mono ?_; rintro e wd ⟨rfl, bd⟩
  have Td : Hid (TB w w7.heap.size w8.heap.size al [(738916, 738945), (738945, 738976)] wd) := TB.on Tc.out bd
  clear bd Tc
  go_wp2_with fail
  refine (find_bad 738916 3 1 738915 4 _ (by decide) (by decide)).mono ?_; rintro e we ⟨rfl, be⟩
  have Te : Hid (TB w w7.heap.size w8.heap.size al [(738916, 738945), (738945, 738976)] we) := TB.on Td.out be
  have Tf : Hid (TB w w7.heap.size w8.heap.size al [(738916, 738945), (738945, 738976)] we.drew) := TB.on Te.out (below_drewN (Below.refl _ _) 1)
  clear be Td
  go_wp2_with fail
  go_region_held3 (fun w' => w'.cell? ⟨w7.heap.size, 0, none⟩ = some (.int .i64 2024) ∧ w'.cell? ⟨w7.heap.size, 1, none⟩ = some (.int .i64 2) ∧ w'.cell? ⟨w7.heap.size, 2, none⟩ = some (.int .i64 29) ∧ w'.cell? ⟨w8.heap.size, 0, none⟩ = some (.int .i64 2024) ∧ w'.cell? ⟨w8.heap.size, 1, none⟩ = some (.int .i64 3) ∧ w'.cell? ⟨w8.heap.size, 2, none⟩ = some (.int .i64 31) ∧ Hid (TB w w7.heap.size w8.heap.size al [(738916, 738945), (738945, 738976)] w'))
    (first | exact TB.S (by assumption) | exact TB.S (TB.box (by assumption) _))
    (first
      | (go_at_call 29; refine (tb_day _ _ _ w _ w7.heap.size w8.heap.size al [(738916, 738945), (738945, 738976)] (by assumption)).mono ?_; rintro e wx ⟨rfl, Tx⟩)
      | (go_at_call 31; refine (tb_span _ _ w _ w7.heap.size w8.heap.size al [(738916, 738945), (738945, 738976)] (by assumption)).mono ?_; rintro e wx ⟨rfl, Tx⟩)
      | (go_at_call 30; refine (listS_same _ _ _ _).mono ?_; rintro e wx ⟨rfl, rfl⟩)
      | (go_at_call 17; refine (tb_same al ca w _ w7.heap.size w8.heap.size (by assumption)).mono ?_; rintro e wx ⟨rfl, Tx⟩))
  have Bz : Hid (Below w.heap.size w _) := Tx.out.below
  go_wp2_with fail
  go_ret
  exact ⟨rfl, Bz.out⟩
end Go.Proofs.YthojffiajlpneaaDoor
