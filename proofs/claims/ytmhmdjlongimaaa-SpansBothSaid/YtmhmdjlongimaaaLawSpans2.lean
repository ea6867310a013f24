/- The walk of SpansBoth: it answers true, whatever it is handed. -/
import Derived.Test.YtmhmdjlongimaaaSBegun
namespace Go.Proofs.Ytmhmdjlongimaaa
open Go.RowKit Go.BigFrame
set_option maxRecDepth 100000 in
set_option maxHeartbeats 4000000 in
theorem spansBoth_any (la lb : List Spn.Sp) (a b : Option Addr) (ca cb : Nat) (w : World) (ha : la.length ≤ maxLen) (na : a = none → ca = 0 ∧ la = []) (ra : Row2 w a la) (hb : lb.length ≤ maxLen) (nb : b = none → cb = 0 ∧ lb = []) (rb : Row2 w b lb) :
    Calls Try.prog 4 #[.slice a la.length ca, .slice b lb.length cb] w fun e w' => e = .returned (.bool true) ∧ Below w.heap.size w w' := by
  have m0 : (Spn.ans 0 la lb).length ≤ maxLen := by have := Spn.ans_len 0 la lb; unfold maxLen; omega
  have m1 : (Spn.ans 1 la lb).length ≤ maxLen := by have := Spn.ans_len 1 la lb; unfold maxLen; omega
  have m2 : (Spn.ans 2 la lb).length ≤ maxLen := by have := Spn.ans_len 2 la lb; unfold maxLen; omega
  go_enter Try.func4, Try.ntmps4
  go_wp2_with fail
  refine (pUnion la lb a b ca cb _ ha hb na nb ra rb).mono ?_; rintro e w1 ⟨v1, rfl, o1, b1⟩
  have B_1 := below_on (Below.refl _ w) (Nat.le_refl _) b1
  have ra_1 := Row2.below ra b1
  have rb_1 := Row2.below rb b1
  clear ra rb
  obtain ⟨a1, c1, hv1, nil1, row1⟩ := OwnS.row o1
  subst hv1
  clear o1 b1
  go_wp2_with fail
  refine (pMeet la lb a b ca cb _ ha hb na nb ra_1 rb_1).mono ?_; rintro e w2 ⟨v2, rfl, o2, b2⟩
  have B_2 := below_on B_1 (Nat.le_refl _) b2
  have ra_2 := Row2.below ra_1 b2
  have rb_2 := Row2.below rb_1 b2
  have U_2 := Row2.below row1 b2
  clear B_1 ra_1 rb_1 row1
  obtain ⟨a2, c2, hv2, nil2, row2⟩ := OwnS.row o2
  subst hv2
  clear o2 b2
  go_wp2_with fail
  refine (pMinus la lb a b ca cb _ ha hb na nb ra_2 rb_2).mono ?_; rintro e w3 ⟨v3, rfl, o3, b3⟩
  have B_3 := below_on B_2 (Nat.le_refl _) b3
  have ra_3 := Row2.below ra_2 b3
  have rb_3 := Row2.below rb_2 b3
  have U_3 := Row2.below U_2 b3
  have M_3 := Row2.below row2 b3
  clear B_2 ra_2 rb_2 U_2 row2
  obtain ⟨a3, c3, hv3, nil3, row3⟩ := OwnS.row o3
  subst hv3
  clear o3 b3
  go_wp2_with fail
  refine (refBoth_all la lb a b ca cb 0 _ ha hb na nb (by decide) ra_3 rb_3).mono ?_; rintro e w4 ⟨v4, rfl, o4, b4⟩
  have B_4 := below_on B_3 (Nat.le_refl _) b4
  have ra_4 := Row2.below ra_3 b4
  have rb_4 := Row2.below rb_3 b4
  have U_4 := Row2.below U_3 b4
  have M_4 := Row2.below M_3 b4
  have D_4 := Row2.below row3 b4
  clear B_3 ra_3 rb_3 U_3 M_3 row3
  obtain ⟨a4, c4, hv4, nil4, row4⟩ := OwnS.row o4
  subst hv4
  clear o4 b4
  go_wp2_with fail
  refine (refBoth_all la lb a b ca cb 1 _ ha hb na nb (by decide) ra_4 rb_4).mono ?_; rintro e w5 ⟨v5, rfl, o5, b5⟩
  have B_5 := below_on B_4 (Nat.le_refl _) b5
  have ra_5 := Row2.below ra_4 b5
  have rb_5 := Row2.below rb_4 b5
  have U_5 := Row2.below U_4 b5
  have M_5 := Row2.below M_4 b5
  have D_5 := Row2.below D_4 b5
  have X_5 := Row2.below row4 b5
  clear B_4 ra_4 rb_4 U_4 M_4 D_4 row4
  obtain ⟨a5, c5, hv5, nil5, row5⟩ := OwnS.row o5
  subst hv5
  clear o5 b5
  go_wp2_with fail
  refine (refBoth_all la lb a b ca cb 2 _ ha hb na nb (by decide) ra_5 rb_5).mono ?_; rintro e w6 ⟨v6, rfl, o6, b6⟩
  have B_6 := below_on B_5 (Nat.le_refl _) b6
  have ra_6 := Row2.below ra_5 b6
  have rb_6 := Row2.below rb_5 b6
  have U_6 := Row2.below U_5 b6
  have M_6 := Row2.below M_5 b6
  have D_6 := Row2.below D_5 b6
  have X_6 := Row2.below X_5 b6
  have Y_6 := Row2.below row5 b6
  clear B_5 ra_5 rb_5 U_5 M_5 D_5 X_5 row5
  obtain ⟨a6, c6, hv6, nil6, row6⟩ := OwnS.row o6
  subst hv6
  clear o6 b6
  go_wp2_with fail
  refine (sbegun_any _).mono ?_; rintro e w7 ⟨rfl, b7⟩
  have B_7 := below_on B_6 (Nat.le_refl _) b7
  have ra_7 := Row2.below ra_6 b7
  have rb_7 := Row2.below rb_6 b7
  have U_7 := Row2.below U_6 b7
  have M_7 := Row2.below M_6 b7
  have D_7 := Row2.below D_6 b7
  have X_7 := Row2.below X_6 b7
  have Y_7 := Row2.below Y_6 b7
  have Z_7 := Row2.below row6 b7
  clear B_6 ra_6 rb_6 U_6 M_6 D_6 X_6 Y_6 row6
  clear b7
  go_wp2_with fail
  refine (same_below (Spn.ans 0 la lb) (Spn.ans 0 la lb) true a1 a4 c1 c4 _ m0 m0 (by simp) U_7 X_7).mono ?_; rintro e w8 ⟨rfl, b8⟩
  have B_8 := below_on B_7 (Nat.le_refl _) b8
  have ra_8 := Row2.below ra_7 b8
  have rb_8 := Row2.below rb_7 b8
  have U_8 := Row2.below U_7 b8
  have M_8 := Row2.below M_7 b8
  have D_8 := Row2.below D_7 b8
  have X_8 := Row2.below X_7 b8
  have Y_8 := Row2.below Y_7 b8
  have Z_8 := Row2.below Z_7 b8
  clear B_7 ra_7 rb_7 U_7 M_7 D_7 X_7 Y_7 Z_7
  clear b8
  go_wp2_with fail
  refine (same_below (Spn.ans 1 la lb) (Spn.ans 1 la lb) true a2 a5 c2 c5 _ m1 m1 (by simp) M_8 Y_8).mono ?_; rintro e w9 ⟨rfl, b9⟩
  have B_9 := below_on B_8 (Nat.le_refl _) b9
  have ra_9 := Row2.below ra_8 b9
  have rb_9 := Row2.below rb_8 b9
  have U_9 := Row2.below U_8 b9
  have M_9 := Row2.below M_8 b9
  have D_9 := Row2.below D_8 b9
  have X_9 := Row2.below X_8 b9
  have Y_9 := Row2.below Y_8 b9
  have Z_9 := Row2.below Z_8 b9
  clear B_8 ra_8 rb_8 U_8 M_8 D_8 X_8 Y_8 Z_8
  clear b9
  go_wp2_with fail
  refine (same_below (Spn.ans 2 la lb) (Spn.ans 2 la lb) true a3 a6 c3 c6 _ m2 m2 (by simp) D_9 Z_9).mono ?_; rintro e w10 ⟨rfl, b10⟩
  have B_10 := below_on B_9 (Nat.le_refl _) b10
  have ra_10 := Row2.below ra_9 b10
  have rb_10 := Row2.below rb_9 b10
  have U_10 := Row2.below U_9 b10
  have M_10 := Row2.below M_9 b10
  have D_10 := Row2.below D_9 b10
  have X_10 := Row2.below X_9 b10
  have Y_10 := Row2.below Y_9 b10
  have Z_10 := Row2.below Z_9 b10
  clear B_9 ra_9 rb_9 U_9 M_9 D_9 X_9 Y_9 Z_9
  clear b10
  go_wp2
  go_ret
  exact ⟨rfl, B_10⟩
end Go.Proofs.Ytmhmdjlongimaaa
