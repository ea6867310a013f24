/- What must be in any case of sets of days (spansBegun) is so. -/
import Derived.Test.YtmhmdjlongimaabProgSpans
namespace Go.Proofs.Ytmhmdjlongimaab
open Go.RowKit Go.BigFrame

theorem mkSpan_any (x y : Int) (w : World) :
    Calls Try.prog 4 #[.int .i64 x, .int .i64 y] w fun e w' => e = .returned (.agg #[.int .i64 x, .int .i64 y]) ∧ Below w.heap.size w w' := by
  go_enter Try.func4, Try.ntmps4
  go_wp2
  exact bodyPost_ret (v := .agg #[.int .i64 x, .int .i64 y]) (by simp [results, Try.results4, go_sem]) rfl ⟨rfl, (Below.refl _ _).alloc (Nat.le_refl _) _⟩
theorem listS_any (a : Option Addr) (n c : Nat) (w : World) :
    Calls Try.prog 20 #[.slice a n c] w fun e w' => e = .returned (.slice a n c) ∧ Below w.heap.size w w' := by
  go_enter Try.func20, Try.ntmps20
  go_wp2
  go_ret
  exact ⟨rfl, Below.refl _ _⟩
theorem lit_row (w : World) (l : List Spn.Sp) (cs : Array Value) (h : cs.toList = flat l) (hl : l.length ≤ maxLen) : Row2 (w.alloc (.cells cs 24)) (some ⟨w.heap.size, 0, none⟩) l := by
  have hs : cs.size = l.length * 2 := by rw [← Array.length_toList, h, flat_len]
  have o : OwnS (w.alloc (.cells cs 24)) w.heap.size (.slice (some ⟨w.heap.size, 0, none⟩) l.length l.length) l := by
    have := World.ownsRow_lit (base := w.heap.size) (e := 24) (size := 2) w cs l.length (Nat.le_refl _) hl hs
    unfold OwnS; rw [← h]; exact this
  obtain ⟨a, c, e, _, r⟩ := o.row
  cases e
  exact r
theorem box_below (w : World) (o : Obj) : Below w.heap.size w (w.alloc o) := (Below.refl _ _).alloc (Nat.le_refl _) _
theorem same_below (l r : List Spn.Sp) (b : Bool) (a a' : Option Addr) (cap cap' : Nat) (w : World) (hl : l.length ≤ maxLen) (hl' : r.length ≤ maxLen) (hb : decide (l = r) = b) (hr : Row2 w a l) (hr' : Row2 w a' r) :
    Calls Try.prog 10 #[.slice a l.length cap, .slice a' r.length cap'] w fun e w' => e = .returned (.bool b) ∧ Below w.heap.size w w' := by
  subst hb
  exact (sameSpans_any l r a a' cap cap' w hl hl' hr hr').mono fun _ _ h => ⟨h.1, drewN_below h.2⟩
theorem pOf_at (l r : List Spn.Sp) (c : Int) (a : Option Addr) (cap : Nat) (w : World) (hl : l.length ≤ maxLen) (h1 : Spn.setOf l = r) (h2 : Spn.chkOf l = c) (hna : a = none → cap = 0 ∧ l = []) (hr : Row2 w a l) :
    Calls Try.prog 8 #[.slice a l.length cap] w fun e w' => ∃ v, e = .returned (.tuple #[v, .int .i64 c]) ∧ OwnS w' w.heap.size v r ∧ Below w.heap.size w w' := by
  subst h1 h2; exact pOf l a cap w hl hna hr
theorem pUnion_at (la lb r : List Spn.Sp) (c : Int) (a b : Option Addr) (ca cb : Nat) (w : World) (hla : la.length ≤ maxLen) (hlb : lb.length ≤ maxLen) (h1 : Spn.ans 0 la lb = r) (h2 : Spn.code 0 la lb = c) (hna : a = none → ca = 0 ∧ la = []) (hnb : b = none → cb = 0 ∧ lb = []) (ra : Row2 w a la) (rb : Row2 w b lb) :
    Calls Try.prog 5 #[.slice a la.length ca, .slice b lb.length cb] w fun e w' => ∃ v, e = .returned (.tuple #[v, .int .i64 c]) ∧ OwnS w' w.heap.size v r ∧ Below w.heap.size w w' := by
  subst h1 h2; exact pUnion la lb a b ca cb w hla hlb hna hnb ra rb
theorem pMeet_at (la lb r : List Spn.Sp) (c : Int) (a b : Option Addr) (ca cb : Nat) (w : World) (hla : la.length ≤ maxLen) (hlb : lb.length ≤ maxLen) (h1 : Spn.ans 1 la lb = r) (h2 : Spn.code 1 la lb = c) (hna : a = none → ca = 0 ∧ la = []) (hnb : b = none → cb = 0 ∧ lb = []) (ra : Row2 w a la) (rb : Row2 w b lb) :
    Calls Try.prog 6 #[.slice a la.length ca, .slice b lb.length cb] w fun e w' => ∃ v, e = .returned (.tuple #[v, .int .i64 c]) ∧ OwnS w' w.heap.size v r ∧ Below w.heap.size w w' := by
  subst h1 h2; exact pMeet la lb a b ca cb w hla hlb hna hnb ra rb
theorem pMinus_at (la lb r : List Spn.Sp) (c : Int) (a b : Option Addr) (ca cb : Nat) (w : World) (hla : la.length ≤ maxLen) (hlb : lb.length ≤ maxLen) (h1 : Spn.ans 2 la lb = r) (h2 : Spn.code 2 la lb = c) (hna : a = none → ca = 0 ∧ la = []) (hnb : b = none → cb = 0 ∧ lb = []) (ra : Row2 w a la) (rb : Row2 w b lb) :
    Calls Try.prog 7 #[.slice a la.length ca, .slice b lb.length cb] w fun e w' => ∃ v, e = .returned (.tuple #[v, .int .i64 c]) ∧ OwnS w' w.heap.size v r ∧ Below w.heap.size w w' := by
  subst h1 h2; exact pMinus la lb a b ca cb w hla hlb hna hnb ra rb
theorem pCheck_at (l : List Spn.Sp) (c : Int) (a : Option Addr) (cap : Nat) (w : World) (hl : l.length ≤ maxLen) (h : Spn.chk l = c) (hr : Row2 w a l) :
    Calls Try.prog 23 #[.slice a l.length cap] w fun e w' => e = .returned (.int .i64 c) ∧ Below w.heap.size w w' := by
  subst h; exact pCheck l a cap w hl hr
theorem pHas_at (l : List Spn.Sp) (n c : Int) (b : Bool) (a : Option Addr) (cap : Nat) (w : World) (hl : l.length ≤ maxLen) (h1 : (decide (Spn.chk l = 0) && Spn.memB l n) = b) (h2 : Spn.chk l = c) (hr : Row2 w a l) :
    Calls Try.prog 22 #[.slice a l.length cap, .int .i64 n] w fun e w' => e = .returned (.tuple #[.bool b, .int .i64 c]) ∧ Below w.heap.size w w' := by
  subst h1 h2; exact pHas l a cap n w hl hr
theorem pSize_at (l : List Spn.Sp) (n c : Int) (a : Option Addr) (cap : Nat) (w : World) (hl : l.length ≤ maxLen) (h1 : (if Spn.chk l = 0 then Spn.size l else 0) = n) (h2 : Spn.chk l = c) (hr : Row2 w a l) :
    Calls Try.prog 21 #[.slice a l.length cap] w fun e w' => e = .returned (.tuple #[.int .i64 n, .int .i64 c]) ∧ Below w.heap.size w w' := by
  subst h1 h2; exact pSize l a cap w hl hr
set_option maxHeartbeats 4000000 in
theorem sbegun_any (w : World) :
    Calls Try.prog 9 #[] w fun e w' => e = .returned (.bool true) ∧ Below w.heap.size w w' := by
  go_enter Try.func9, Try.ntmps9
  go_wp2_with fail
  refine (mkSpan_any 5 7 _).mono ?_; rintro e w1 ⟨rfl, b1⟩
  have B_1 := below_on (Below.refl _ w) (Nat.le_refl _) b1
  clear b1
  go_wp2_with fail
  refine (mkSpan_any 1 3 _).mono ?_; rintro e w2 ⟨rfl, b2⟩
  have B_2 := below_on B_1 (Nat.le_refl _) b2
  clear B_1
  clear b2
  go_wp2_with fail
  refine (mkSpan_any 3 4 _).mono ?_; rintro e w3 ⟨rfl, b3⟩
  have B_3 := below_on B_2 (Nat.le_refl _) b3
  clear B_2
  clear b3
  go_wp2_with fail
  refine (mkSpan_any 9 9 _).mono ?_; rintro e w4 ⟨rfl, b4⟩
  have B_4 := below_on B_3 (Nat.le_refl _) b4
  clear B_3
  clear b4
  go_wp2_with fail
  have B_5 := below_on B_4 (Nat.le_refl _) (box_below w4 (.cells #[.int .i64 5, .int .i64 7, .int .i64 1, .int .i64 3, .int .i64 3, .int .i64 4, .int .i64 9, .int .i64 9] 24))
  clear B_4
  have x1_0 := lit_row w4 [(5, 7), (1, 3), (3, 4), (9, 9)] #[.int .i64 5, .int .i64 7, .int .i64 1, .int .i64 3, .int .i64 3, .int .i64 4, .int .i64 9, .int .i64 9] rfl (by decide)
  refine (listS_any _ _ _ _).mono ?_; rintro e w5 ⟨rfl, b5⟩
  have B_6 := below_on B_5 (Nat.le_refl _) b5
  have x1_6 := Row2.below x1_0 b5
  clear B_5 x1_0
  clear b5
  go_wp2_with fail
  refine (pOf_at [(5, 7), (1, 3), (3, 4), (9, 9)] [(1, 4), (5, 7)] 0 (some ⟨w4.heap.size, 0, none⟩) 4 _ (by decide) (by decide +kernel) (by decide) (fun e => by cases e) x1_6).mono ?_; rintro e w6 ⟨v6, rfl, o6, b6⟩
  have B_7 := below_on B_6 (Nat.le_refl _) b6
  have x1_7 := Row2.below x1_6 b6
  clear B_6 x1_6
  obtain ⟨a6, c6, hv6, nil6, row6⟩ := OwnS.row o6
  subst hv6
  clear o6 b6
  go_wp2_with fail
  refine (mkSpan_any 4 5 _).mono ?_; rintro e w7 ⟨rfl, b7⟩
  have B_8 := below_on B_7 (Nat.le_refl _) b7
  have A_8 := Row2.below row6 b7
  clear B_7 row6
  clear b7
  go_wp2_with fail
  have B_9 := below_on B_8 (Nat.le_refl _) (box_below w7 (.cells #[.int .i64 4, .int .i64 5] 24))
  have A_9 := Row2.below A_8 (box_below w7 (.cells #[.int .i64 4, .int .i64 5] 24))
  clear B_8 A_8
  have x2_0 := lit_row w7 [(4, 5)] #[.int .i64 4, .int .i64 5] rfl (by decide)
  refine (listS_any _ _ _ _).mono ?_; rintro e w8 ⟨rfl, b8⟩
  have B_10 := below_on B_9 (Nat.le_refl _) b8
  have A_10 := Row2.below A_9 b8
  have x2_10 := Row2.below x2_0 b8
  clear B_9 A_9 x2_0
  clear b8
  go_wp2_with fail
  refine (pUnion_at [(1, 4), (5, 7)] [(4, 5)] [(1, 7)] 0 a6 (some ⟨w7.heap.size, 0, none⟩) c6 1 _ (by decide) (by decide) (by decide +kernel) (by decide +kernel) nil6 (fun e => by cases e) A_10 x2_10).mono ?_; rintro e w9 ⟨v9, rfl, o9, b9⟩
  have B_11 := below_on B_10 (Nat.le_refl _) b9
  have A_11 := Row2.below A_10 b9
  have x2_11 := Row2.below x2_10 b9
  clear B_10 A_10 x2_10
  obtain ⟨a9, c9, hv9, nil9, row9⟩ := OwnS.row o9
  subst hv9
  clear o9 b9
  go_wp2_with fail
  refine (mkSpan_any 2 6 _).mono ?_; rintro e w10 ⟨rfl, b10⟩
  have B_12 := below_on B_11 (Nat.le_refl _) b10
  have A_12 := Row2.below A_11 b10
  have U_12 := Row2.below row9 b10
  clear B_11 A_11 row9
  clear b10
  go_wp2_with fail
  have B_13 := below_on B_12 (Nat.le_refl _) (box_below w10 (.cells #[.int .i64 2, .int .i64 6] 24))
  have A_13 := Row2.below A_12 (box_below w10 (.cells #[.int .i64 2, .int .i64 6] 24))
  have U_13 := Row2.below U_12 (box_below w10 (.cells #[.int .i64 2, .int .i64 6] 24))
  clear B_12 A_12 U_12
  have x3_0 := lit_row w10 [(2, 6)] #[.int .i64 2, .int .i64 6] rfl (by decide)
  refine (listS_any _ _ _ _).mono ?_; rintro e w11 ⟨rfl, b11⟩
  have B_14 := below_on B_13 (Nat.le_refl _) b11
  have A_14 := Row2.below A_13 b11
  have U_14 := Row2.below U_13 b11
  have x3_14 := Row2.below x3_0 b11
  clear B_13 A_13 U_13 x3_0
  clear b11
  go_wp2_with fail
  refine (pMeet_at [(1, 4), (5, 7)] [(2, 6)] [(2, 4), (5, 6)] 0 a6 (some ⟨w10.heap.size, 0, none⟩) c6 1 _ (by decide) (by decide) (by decide +kernel) (by decide +kernel) nil6 (fun e => by cases e) A_14 x3_14).mono ?_; rintro e w12 ⟨v12, rfl, o12, b12⟩
  have B_15 := below_on B_14 (Nat.le_refl _) b12
  have A_15 := Row2.below A_14 b12
  have U_15 := Row2.below U_14 b12
  have x3_15 := Row2.below x3_14 b12
  clear B_14 A_14 U_14 x3_14
  obtain ⟨a12, c12, hv12, nil12, row12⟩ := OwnS.row o12
  subst hv12
  clear o12 b12
  go_wp2_with fail
  refine (mkSpan_any 2 6 _).mono ?_; rintro e w13 ⟨rfl, b13⟩
  have B_16 := below_on B_15 (Nat.le_refl _) b13
  have A_16 := Row2.below A_15 b13
  have U_16 := Row2.below U_15 b13
  have M_16 := Row2.below row12 b13
  clear B_15 A_15 U_15 row12
  clear b13
  go_wp2_with fail
  have B_17 := below_on B_16 (Nat.le_refl _) (box_below w13 (.cells #[.int .i64 2, .int .i64 6] 24))
  have A_17 := Row2.below A_16 (box_below w13 (.cells #[.int .i64 2, .int .i64 6] 24))
  have U_17 := Row2.below U_16 (box_below w13 (.cells #[.int .i64 2, .int .i64 6] 24))
  have M_17 := Row2.below M_16 (box_below w13 (.cells #[.int .i64 2, .int .i64 6] 24))
  clear B_16 A_16 U_16 M_16
  have x4_0 := lit_row w13 [(2, 6)] #[.int .i64 2, .int .i64 6] rfl (by decide)
  refine (listS_any _ _ _ _).mono ?_; rintro e w14 ⟨rfl, b14⟩
  have B_18 := below_on B_17 (Nat.le_refl _) b14
  have A_18 := Row2.below A_17 b14
  have U_18 := Row2.below U_17 b14
  have M_18 := Row2.below M_17 b14
  have x4_18 := Row2.below x4_0 b14
  clear B_17 A_17 U_17 M_17 x4_0
  clear b14
  go_wp2_with fail
  refine (pMinus_at [(1, 4), (5, 7)] [(2, 6)] [(1, 2), (6, 7)] 0 a6 (some ⟨w13.heap.size, 0, none⟩) c6 1 _ (by decide) (by decide) (by decide +kernel) (by decide +kernel) nil6 (fun e => by cases e) A_18 x4_18).mono ?_; rintro e w15 ⟨v15, rfl, o15, b15⟩
  have B_19 := below_on B_18 (Nat.le_refl _) b15
  have A_19 := Row2.below A_18 b15
  have U_19 := Row2.below U_18 b15
  have M_19 := Row2.below M_18 b15
  have x4_19 := Row2.below x4_18 b15
  clear B_18 A_18 U_18 M_18 x4_18
  obtain ⟨a15, c15, hv15, nil15, row15⟩ := OwnS.row o15
  subst hv15
  clear o15 b15
  go_wp2_with fail
  refine (pSize_at [(1, 4), (5, 7)] 5 0 a6 c6 _ (by decide) (by decide +kernel) (by decide +kernel) A_19).mono ?_; rintro e w16 ⟨rfl, b16⟩
  have B_20 := below_on B_19 (Nat.le_refl _) b16
  have A_20 := Row2.below A_19 b16
  have U_20 := Row2.below U_19 b16
  have M_20 := Row2.below M_19 b16
  have D_20 := Row2.below row15 b16
  clear B_19 A_19 U_19 M_19 row15
  clear b16
  go_wp2_with fail
  refine (pHas_at [(1, 4), (5, 7)] 4 0 false a6 c6 _ (by decide) (by decide +kernel) (by decide +kernel) A_20).mono ?_; rintro e w17 ⟨rfl, b17⟩
  have B_21 := below_on B_20 (Nat.le_refl _) b17
  have A_21 := Row2.below A_20 b17
  have U_21 := Row2.below U_20 b17
  have M_21 := Row2.below M_20 b17
  have D_21 := Row2.below D_20 b17
  clear B_20 A_20 U_20 M_20 D_20
  clear b17
  go_wp2_with fail
  refine (mkSpan_any 1 4 _).mono ?_; rintro e w18 ⟨rfl, b18⟩
  have B_22 := below_on B_21 (Nat.le_refl _) b18
  have A_22 := Row2.below A_21 b18
  have U_22 := Row2.below U_21 b18
  have M_22 := Row2.below M_21 b18
  have D_22 := Row2.below D_21 b18
  clear B_21 A_21 U_21 M_21 D_21
  clear b18
  go_wp2_with fail
  refine (mkSpan_any 5 7 _).mono ?_; rintro e w19 ⟨rfl, b19⟩
  have B_23 := below_on B_22 (Nat.le_refl _) b19
  have A_23 := Row2.below A_22 b19
  have U_23 := Row2.below U_22 b19
  have M_23 := Row2.below M_22 b19
  have D_23 := Row2.below D_22 b19
  clear B_22 A_22 U_22 M_22 D_22
  clear b19
  go_wp2_with fail
  have B_24 := below_on B_23 (Nat.le_refl _) (box_below w19 (.cells #[.int .i64 1, .int .i64 4, .int .i64 5, .int .i64 7] 24))
  have A_24 := Row2.below A_23 (box_below w19 (.cells #[.int .i64 1, .int .i64 4, .int .i64 5, .int .i64 7] 24))
  have U_24 := Row2.below U_23 (box_below w19 (.cells #[.int .i64 1, .int .i64 4, .int .i64 5, .int .i64 7] 24))
  have M_24 := Row2.below M_23 (box_below w19 (.cells #[.int .i64 1, .int .i64 4, .int .i64 5, .int .i64 7] 24))
  have D_24 := Row2.below D_23 (box_below w19 (.cells #[.int .i64 1, .int .i64 4, .int .i64 5, .int .i64 7] 24))
  clear B_23 A_23 U_23 M_23 D_23
  have x5_0 := lit_row w19 [(1, 4), (5, 7)] #[.int .i64 1, .int .i64 4, .int .i64 5, .int .i64 7] rfl (by decide)
  refine (listS_any _ _ _ _).mono ?_; rintro e w20 ⟨rfl, b20⟩
  have B_25 := below_on B_24 (Nat.le_refl _) b20
  have A_25 := Row2.below A_24 b20
  have U_25 := Row2.below U_24 b20
  have M_25 := Row2.below M_24 b20
  have D_25 := Row2.below D_24 b20
  have x5_25 := Row2.below x5_0 b20
  clear B_24 A_24 U_24 M_24 D_24 x5_0
  clear b20
  go_wp2_with fail
  refine (same_below [(1, 4), (5, 7)] [(1, 4), (5, 7)] true a6 (some ⟨w19.heap.size, 0, none⟩) c6 2 _ (by decide) (by decide) (by decide) A_25 x5_25).mono ?_; rintro e w21 ⟨rfl, b21⟩
  have B_26 := below_on B_25 (Nat.le_refl _) b21
  have A_26 := Row2.below A_25 b21
  have U_26 := Row2.below U_25 b21
  have M_26 := Row2.below M_25 b21
  have D_26 := Row2.below D_25 b21
  have x5_26 := Row2.below x5_25 b21
  clear B_25 A_25 U_25 M_25 D_25 x5_25
  clear b21
  go_wp2_with fail
  refine (mkSpan_any 1 7 _).mono ?_; rintro e w22 ⟨rfl, b22⟩
  have B_27 := below_on B_26 (Nat.le_refl _) b22
  have A_27 := Row2.below A_26 b22
  have U_27 := Row2.below U_26 b22
  have M_27 := Row2.below M_26 b22
  have D_27 := Row2.below D_26 b22
  clear B_26 A_26 U_26 M_26 D_26
  clear b22
  go_wp2_with fail
  have B_28 := below_on B_27 (Nat.le_refl _) (box_below w22 (.cells #[.int .i64 1, .int .i64 7] 24))
  have A_28 := Row2.below A_27 (box_below w22 (.cells #[.int .i64 1, .int .i64 7] 24))
  have U_28 := Row2.below U_27 (box_below w22 (.cells #[.int .i64 1, .int .i64 7] 24))
  have M_28 := Row2.below M_27 (box_below w22 (.cells #[.int .i64 1, .int .i64 7] 24))
  have D_28 := Row2.below D_27 (box_below w22 (.cells #[.int .i64 1, .int .i64 7] 24))
  clear B_27 A_27 U_27 M_27 D_27
  have x6_0 := lit_row w22 [(1, 7)] #[.int .i64 1, .int .i64 7] rfl (by decide)
  refine (listS_any _ _ _ _).mono ?_; rintro e w23 ⟨rfl, b23⟩
  have B_29 := below_on B_28 (Nat.le_refl _) b23
  have A_29 := Row2.below A_28 b23
  have U_29 := Row2.below U_28 b23
  have M_29 := Row2.below M_28 b23
  have D_29 := Row2.below D_28 b23
  have x6_29 := Row2.below x6_0 b23
  clear B_28 A_28 U_28 M_28 D_28 x6_0
  clear b23
  go_wp2_with fail
  refine (same_below [(1, 7)] [(1, 7)] true a9 (some ⟨w22.heap.size, 0, none⟩) c9 1 _ (by decide) (by decide) (by decide) U_29 x6_29).mono ?_; rintro e w24 ⟨rfl, b24⟩
  have B_30 := below_on B_29 (Nat.le_refl _) b24
  have A_30 := Row2.below A_29 b24
  have U_30 := Row2.below U_29 b24
  have M_30 := Row2.below M_29 b24
  have D_30 := Row2.below D_29 b24
  have x6_30 := Row2.below x6_29 b24
  clear B_29 A_29 U_29 M_29 D_29 x6_29
  clear b24
  go_wp2_with fail
  refine (mkSpan_any 2 4 _).mono ?_; rintro e w25 ⟨rfl, b25⟩
  have B_31 := below_on B_30 (Nat.le_refl _) b25
  have A_31 := Row2.below A_30 b25
  have U_31 := Row2.below U_30 b25
  have M_31 := Row2.below M_30 b25
  have D_31 := Row2.below D_30 b25
  clear B_30 A_30 U_30 M_30 D_30
  clear b25
  go_wp2_with fail
  refine (mkSpan_any 5 6 _).mono ?_; rintro e w26 ⟨rfl, b26⟩
  have B_32 := below_on B_31 (Nat.le_refl _) b26
  have A_32 := Row2.below A_31 b26
  have U_32 := Row2.below U_31 b26
  have M_32 := Row2.below M_31 b26
  have D_32 := Row2.below D_31 b26
  clear B_31 A_31 U_31 M_31 D_31
  clear b26
  go_wp2_with fail
  have B_33 := below_on B_32 (Nat.le_refl _) (box_below w26 (.cells #[.int .i64 2, .int .i64 4, .int .i64 5, .int .i64 6] 24))
  have A_33 := Row2.below A_32 (box_below w26 (.cells #[.int .i64 2, .int .i64 4, .int .i64 5, .int .i64 6] 24))
  have U_33 := Row2.below U_32 (box_below w26 (.cells #[.int .i64 2, .int .i64 4, .int .i64 5, .int .i64 6] 24))
  have M_33 := Row2.below M_32 (box_below w26 (.cells #[.int .i64 2, .int .i64 4, .int .i64 5, .int .i64 6] 24))
  have D_33 := Row2.below D_32 (box_below w26 (.cells #[.int .i64 2, .int .i64 4, .int .i64 5, .int .i64 6] 24))
  clear B_32 A_32 U_32 M_32 D_32
  have x7_0 := lit_row w26 [(2, 4), (5, 6)] #[.int .i64 2, .int .i64 4, .int .i64 5, .int .i64 6] rfl (by decide)
  refine (listS_any _ _ _ _).mono ?_; rintro e w27 ⟨rfl, b27⟩
  have B_34 := below_on B_33 (Nat.le_refl _) b27
  have A_34 := Row2.below A_33 b27
  have U_34 := Row2.below U_33 b27
  have M_34 := Row2.below M_33 b27
  have D_34 := Row2.below D_33 b27
  have x7_34 := Row2.below x7_0 b27
  clear B_33 A_33 U_33 M_33 D_33 x7_0
  clear b27
  go_wp2_with fail
  refine (same_below [(2, 4), (5, 6)] [(2, 4), (5, 6)] true a12 (some ⟨w26.heap.size, 0, none⟩) c12 2 _ (by decide) (by decide) (by decide) M_34 x7_34).mono ?_; rintro e w28 ⟨rfl, b28⟩
  have B_35 := below_on B_34 (Nat.le_refl _) b28
  have A_35 := Row2.below A_34 b28
  have U_35 := Row2.below U_34 b28
  have M_35 := Row2.below M_34 b28
  have D_35 := Row2.below D_34 b28
  have x7_35 := Row2.below x7_34 b28
  clear B_34 A_34 U_34 M_34 D_34 x7_34
  clear b28
  go_wp2_with fail
  refine (mkSpan_any 1 2 _).mono ?_; rintro e w29 ⟨rfl, b29⟩
  have B_36 := below_on B_35 (Nat.le_refl _) b29
  have A_36 := Row2.below A_35 b29
  have U_36 := Row2.below U_35 b29
  have M_36 := Row2.below M_35 b29
  have D_36 := Row2.below D_35 b29
  clear B_35 A_35 U_35 M_35 D_35
  clear b29
  go_wp2_with fail
  refine (mkSpan_any 6 7 _).mono ?_; rintro e w30 ⟨rfl, b30⟩
  have B_37 := below_on B_36 (Nat.le_refl _) b30
  have A_37 := Row2.below A_36 b30
  have U_37 := Row2.below U_36 b30
  have M_37 := Row2.below M_36 b30
  have D_37 := Row2.below D_36 b30
  clear B_36 A_36 U_36 M_36 D_36
  clear b30
  go_wp2_with fail
  have B_38 := below_on B_37 (Nat.le_refl _) (box_below w30 (.cells #[.int .i64 1, .int .i64 2, .int .i64 6, .int .i64 7] 24))
  have A_38 := Row2.below A_37 (box_below w30 (.cells #[.int .i64 1, .int .i64 2, .int .i64 6, .int .i64 7] 24))
  have U_38 := Row2.below U_37 (box_below w30 (.cells #[.int .i64 1, .int .i64 2, .int .i64 6, .int .i64 7] 24))
  have M_38 := Row2.below M_37 (box_below w30 (.cells #[.int .i64 1, .int .i64 2, .int .i64 6, .int .i64 7] 24))
  have D_38 := Row2.below D_37 (box_below w30 (.cells #[.int .i64 1, .int .i64 2, .int .i64 6, .int .i64 7] 24))
  clear B_37 A_37 U_37 M_37 D_37
  have x8_0 := lit_row w30 [(1, 2), (6, 7)] #[.int .i64 1, .int .i64 2, .int .i64 6, .int .i64 7] rfl (by decide)
  refine (listS_any _ _ _ _).mono ?_; rintro e w31 ⟨rfl, b31⟩
  have B_39 := below_on B_38 (Nat.le_refl _) b31
  have A_39 := Row2.below A_38 b31
  have U_39 := Row2.below U_38 b31
  have M_39 := Row2.below M_38 b31
  have D_39 := Row2.below D_38 b31
  have x8_39 := Row2.below x8_0 b31
  clear B_38 A_38 U_38 M_38 D_38 x8_0
  clear b31
  go_wp2_with fail
  refine (same_below [(1, 2), (6, 7)] [(1, 2), (6, 7)] true a15 (some ⟨w30.heap.size, 0, none⟩) c15 2 _ (by decide) (by decide) (by decide) D_39 x8_39).mono ?_; rintro e w32 ⟨rfl, b32⟩
  have B_40 := below_on B_39 (Nat.le_refl _) b32
  have A_40 := Row2.below A_39 b32
  have U_40 := Row2.below U_39 b32
  have M_40 := Row2.below M_39 b32
  have D_40 := Row2.below D_39 b32
  have x8_40 := Row2.below x8_39 b32
  clear B_39 A_39 U_39 M_39 D_39 x8_39
  clear b32
  go_wp2_with fail
  refine (mkSpan_any 1 2 _).mono ?_; rintro e w33 ⟨rfl, b33⟩
  have B_41 := below_on B_40 (Nat.le_refl _) b33
  have A_41 := Row2.below A_40 b33
  have U_41 := Row2.below U_40 b33
  have M_41 := Row2.below M_40 b33
  have D_41 := Row2.below D_40 b33
  clear B_40 A_40 U_40 M_40 D_40
  clear b33
  go_wp2_with fail
  refine (mkSpan_any 2 3 _).mono ?_; rintro e w34 ⟨rfl, b34⟩
  have B_42 := below_on B_41 (Nat.le_refl _) b34
  have A_42 := Row2.below A_41 b34
  have U_42 := Row2.below U_41 b34
  have M_42 := Row2.below M_41 b34
  have D_42 := Row2.below D_41 b34
  clear B_41 A_41 U_41 M_41 D_41
  clear b34
  go_wp2_with fail
  have B_43 := below_on B_42 (Nat.le_refl _) (box_below w34 (.cells #[.int .i64 1, .int .i64 2, .int .i64 2, .int .i64 3] 24))
  have A_43 := Row2.below A_42 (box_below w34 (.cells #[.int .i64 1, .int .i64 2, .int .i64 2, .int .i64 3] 24))
  have U_43 := Row2.below U_42 (box_below w34 (.cells #[.int .i64 1, .int .i64 2, .int .i64 2, .int .i64 3] 24))
  have M_43 := Row2.below M_42 (box_below w34 (.cells #[.int .i64 1, .int .i64 2, .int .i64 2, .int .i64 3] 24))
  have D_43 := Row2.below D_42 (box_below w34 (.cells #[.int .i64 1, .int .i64 2, .int .i64 2, .int .i64 3] 24))
  clear B_42 A_42 U_42 M_42 D_42
  have x9_0 := lit_row w34 [(1, 2), (2, 3)] #[.int .i64 1, .int .i64 2, .int .i64 2, .int .i64 3] rfl (by decide)
  refine (listS_any _ _ _ _).mono ?_; rintro e w35 ⟨rfl, b35⟩
  have B_44 := below_on B_43 (Nat.le_refl _) b35
  have A_44 := Row2.below A_43 b35
  have U_44 := Row2.below U_43 b35
  have M_44 := Row2.below M_43 b35
  have D_44 := Row2.below D_43 b35
  have x9_44 := Row2.below x9_0 b35
  clear B_43 A_43 U_43 M_43 D_43 x9_0
  clear b35
  go_wp2_with fail
  refine (pCheck_at [(1, 2), (2, 3)] 4 (some ⟨w34.heap.size, 0, none⟩) 2 _ (by decide) (by decide +kernel) x9_44).mono ?_; rintro e w36 ⟨rfl, b36⟩
  have B_45 := below_on B_44 (Nat.le_refl _) b36
  have A_45 := Row2.below A_44 b36
  have U_45 := Row2.below U_44 b36
  have M_45 := Row2.below M_44 b36
  have D_45 := Row2.below D_44 b36
  have x9_45 := Row2.below x9_44 b36
  clear B_44 A_44 U_44 M_44 D_44 x9_44
  clear b36
  go_wp2
  go_ret
  exact ⟨rfl, B_45⟩
end Go.Proofs.Ytmhmdjlongimaab
