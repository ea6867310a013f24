/- The walk of SpansBoole: it answers true, whatever it is handed. -/
import Derived.Test.YtmhmdjlongimaaaLawSpans3
namespace Go.Proofs.Ytmhmdjlongimaaa
open Go.RowKit Go.BigFrame
namespace Spn
theorem code_comm (op : Int) (a b : List Sp) (h : ∀ x y, opB op x y = opB op y x) : code op a b = 0 ↔ code op b a = 0 := by
  have key : ∀ a b : List Sp, both op a b = both op b a → code op a b = 0 → code op b a = 0 := by
    intro a b e hz
    obtain ⟨h1, h2, h3⟩ := code_zero op a b hz
    unfold code; rw [if_pos h2, if_pos h1, if_neg (by rw [← e]; omega)]
  exact ⟨key a b (both_comm op a b h), key b a (both_comm op b a h)⟩
theorem ans_comm (op : Int) (a b : List Sp) (h : ∀ x y, opB op x y = opB op y x) : ans op a b = ans op b a := by
  unfold ans
  by_cases z : code op a b = 0
  · rw [if_pos z, if_pos ((code_comm op a b h).1 z), both_comm op a b h]
  · rw [if_neg z, if_neg (fun q => z ((code_comm op a b h).2 q))]
theorem dist_eq (a b c : List Sp) (ze : code 0 a b = 0) (zi : code 1 a c = 0) (zj : code 1 b c = 0) (zk : code 1 (ans 0 a b) c = 0) (zl : code 0 (ans 1 a c) (ans 1 b c) = 0) : ans 1 (ans 0 a b) c = ans 0 (ans 1 a c) (ans 1 b c) := by
  have e := ans_chk 0 a b ze
  have i := ans_chk 1 a c zi
  have j := ans_chk 1 b c zj
  have k := ans_chk _ _ _ zk
  have l := ans_chk _ _ _ zl
  refine ext_chk _ _ k.1 l.1 fun n => ?_
  rw [k.2 n, l.2 n, e.2 n, i.2 n, j.2 n]
  simp only [opB_00, opB_01]
  cases memB a n <;> cases memB b n <;> cases memB c n <;> rfl
theorem morgan_eq (a b c : List Sp) (ze : code 0 a b = 0) (zm : code 2 c (ans 0 a b) = 0) (zn : code 2 c a = 0) (zo : code 2 (ans 2 c a) b = 0) : ans 2 c (ans 0 a b) = ans 2 (ans 2 c a) b := by
  have e := ans_chk 0 a b ze
  have m := ans_chk _ _ _ zm
  have n := ans_chk _ _ _ zn
  have o := ans_chk _ _ _ zo
  refine ext_chk _ _ m.1 o.1 fun t => ?_
  rw [m.2 t, o.2 t, e.2 t, n.2 t]
  simp only [opB_00, opB_02]
  cases memB a t <;> cases memB b t <;> cases memB c t <;> rfl
end Spn
set_option maxRecDepth 100000 in
set_option maxHeartbeats 4000000 in
theorem spansBoole_any (la lb lc : List Spn.Sp) (a b c : Option Addr) (ca cb cc : Nat) (w : World) (ha : la.length ≤ maxLen) (na : a = none → ca = 0 ∧ la = []) (ra : Row2 w a la) (hb : lb.length ≤ maxLen) (nb : b = none → cb = 0 ∧ lb = []) (rb : Row2 w b lb) (hc : lc.length ≤ maxLen) (nc : c = none → cc = 0 ∧ lc = []) (rc : Row2 w c lc) :
    Calls Try.prog 7 #[.slice a la.length ca, .slice b lb.length cb, .slice c lc.length cc] w fun e w' => e = .returned (.bool true) ∧ Below w.heap.size w w' := by
  have ml : Hid (∀ (op : Int) (x y : List Spn.Sp), (Spn.ans op x y).length ≤ maxLen) := fun op x y => by have := Spn.ans_len op x y; unfold maxLen; omega
  have sAB : Hid (decide (Spn.ans 0 la lb = Spn.ans 0 lb la) = true) := decide_eq_true (Spn.ans_comm 0 la lb (fun x y => by simp [Spn.opB_00, Bool.or_comm]))
  have sM : Hid (decide (Spn.ans 1 la lb = Spn.ans 1 lb la) = true) := decide_eq_true (Spn.ans_comm 1 la lb (fun x y => by simp [Spn.opB_01, Bool.and_comm]))
  by_cases ze : Spn.code 0 la lb = 0
  · skip
    have zf := (Spn.code_comm 0 la lb (fun x y => by simp [Spn.opB_00, Bool.or_comm])).1 ze
    by_cases zg : Spn.code 1 la lb = 0
    · skip
      have zh := (Spn.code_comm 1 la lb (fun x y => by simp [Spn.opB_01, Bool.and_comm])).1 zg
      by_cases zi : Spn.code 1 la lc = 0
      · skip
        by_cases zj : Spn.code 1 lb lc = 0
        · skip
          by_cases zk : Spn.code 1 (Spn.ans 0 la lb) lc = 0
          · skip
            by_cases zl : Spn.code 0 (Spn.ans 1 la lc) (Spn.ans 1 lb lc) = 0
            · skip
              have sX : Hid (decide (Spn.ans 1 (Spn.ans 0 la lb) lc = Spn.ans 0 (Spn.ans 1 la lc) (Spn.ans 1 lb lc)) = true) := decide_eq_true (Spn.dist_eq la lb lc ze zi zj zk zl)
              by_cases zm : Spn.code 2 lc (Spn.ans 0 la lb) = 0
              · skip
                by_cases zn : Spn.code 2 lc la = 0
                · skip
                  by_cases zo : Spn.code 2 (Spn.ans 2 lc la) lb = 0
                  · skip
                    have sP : Hid (decide (Spn.ans 2 lc (Spn.ans 0 la lb) = Spn.ans 2 (Spn.ans 2 lc la) lb) = true) := decide_eq_true (Spn.morgan_eq la lb lc ze zm zn zo)
                    go_enter Try.func7, Try.ntmps7
                    go_wp2_with fail
                    refine (sbegun_any _).mono ?_; rintro e w1 ⟨rfl, b1⟩
                    have B_1 := below_on (Below.refl _ w) (Nat.le_refl _) b1
                    have ra_1 := Row2.below ra b1
                    have rb_1 := Row2.below rb b1
                    have rc_1 := Row2.below rc b1
                    clear ra rb rc
                    clear b1
                    go_wp2_with fail
                    refine (pUnion_at la lb (Spn.ans 0 la lb) 0 a b ca cb _ ha hb rfl ze na nb ra_1 rb_1).mono ?_; rintro e w2 ⟨v2, rfl, o2, b2⟩
                    have B_2 := below_on B_1 (Nat.le_refl _) b2
                    have ra_2 := Row2.below ra_1 b2
                    have rb_2 := Row2.below rb_1 b2
                    have rc_2 := Row2.below rc_1 b2
                    clear B_1 ra_1 rb_1 rc_1
                    obtain ⟨a2, c2, hv2, nil2, row2⟩ := OwnS.row o2
                    subst hv2
                    clear o2 b2
                    go_wp2_with fail
                    refine (pUnion_at lb la (Spn.ans 0 lb la) 0 b a cb ca _ hb ha rfl zf nb na rb_2 ra_2).mono ?_; rintro e w3 ⟨v3, rfl, o3, b3⟩
                    have B_3 := below_on B_2 (Nat.le_refl _) b3
                    have ra_3 := Row2.below ra_2 b3
                    have rb_3 := Row2.below rb_2 b3
                    have rc_3 := Row2.below rc_2 b3
                    have AB_3 := Row2.below row2 b3
                    clear B_2 ra_2 rb_2 rc_2 row2
                    obtain ⟨a3, c3, hv3, nil3, row3⟩ := OwnS.row o3
                    subst hv3
                    clear o3 b3
                    go_wp2_with fail
                    refine (pMeet_at la lb (Spn.ans 1 la lb) 0 a b ca cb _ ha hb rfl zg na nb ra_3 rb_3).mono ?_; rintro e w4 ⟨v4, rfl, o4, b4⟩
                    have B_4 := below_on B_3 (Nat.le_refl _) b4
                    have ra_4 := Row2.below ra_3 b4
                    have rb_4 := Row2.below rb_3 b4
                    have rc_4 := Row2.below rc_3 b4
                    have AB_4 := Row2.below AB_3 b4
                    have BA_4 := Row2.below row3 b4
                    clear B_3 ra_3 rb_3 rc_3 AB_3 row3
                    obtain ⟨a4, c4, hv4, nil4, row4⟩ := OwnS.row o4
                    subst hv4
                    clear o4 b4
                    go_wp2_with fail
                    refine (pMeet_at lb la (Spn.ans 1 lb la) 0 b a cb ca _ hb ha rfl zh nb na rb_4 ra_4).mono ?_; rintro e w5 ⟨v5, rfl, o5, b5⟩
                    have B_5 := below_on B_4 (Nat.le_refl _) b5
                    have ra_5 := Row2.below ra_4 b5
                    have rb_5 := Row2.below rb_4 b5
                    have rc_5 := Row2.below rc_4 b5
                    have AB_5 := Row2.below AB_4 b5
                    have BA_5 := Row2.below BA_4 b5
                    have MAB_5 := Row2.below row4 b5
                    clear B_4 ra_4 rb_4 rc_4 AB_4 BA_4 row4
                    obtain ⟨a5, c5, hv5, nil5, row5⟩ := OwnS.row o5
                    subst hv5
                    clear o5 b5
                    go_wp2_with fail
                    refine (same_below (Spn.ans 0 la lb) (Spn.ans 0 lb la) true a2 a3 c2 c3 _ (ml.out 0 la lb) (ml.out 0 lb la) sAB.out AB_5 BA_5).mono ?_; rintro e w6 ⟨rfl, b6⟩
                    have B_6 := below_on B_5 (Nat.le_refl _) b6
                    have ra_6 := Row2.below ra_5 b6
                    have rb_6 := Row2.below rb_5 b6
                    have rc_6 := Row2.below rc_5 b6
                    have AB_6 := Row2.below AB_5 b6
                    have BA_6 := Row2.below BA_5 b6
                    have MAB_6 := Row2.below MAB_5 b6
                    have MBA_6 := Row2.below row5 b6
                    clear B_5 ra_5 rb_5 rc_5 AB_5 BA_5 MAB_5 row5
                    clear b6
                    go_wp2_with fail
                    refine (same_below (Spn.ans 1 la lb) (Spn.ans 1 lb la) true a4 a5 c4 c5 _ (ml.out 1 la lb) (ml.out 1 lb la) sM.out MAB_6 MBA_6).mono ?_; rintro e w7 ⟨rfl, b7⟩
                    have B_7 := below_on B_6 (Nat.le_refl _) b7
                    have ra_7 := Row2.below ra_6 b7
                    have rb_7 := Row2.below rb_6 b7
                    have rc_7 := Row2.below rc_6 b7
                    have AB_7 := Row2.below AB_6 b7
                    have BA_7 := Row2.below BA_6 b7
                    have MAB_7 := Row2.below MAB_6 b7
                    have MBA_7 := Row2.below MBA_6 b7
                    clear B_6 ra_6 rb_6 rc_6 AB_6 BA_6 MAB_6 MBA_6
                    clear b7
                    clear BA_7 MBA_7
                    go_wp2_with fail
                    refine (pMeet_at la lc (Spn.ans 1 la lc) 0 a c ca cc _ ha hc rfl zi na nc ra_7 rc_7).mono ?_; rintro e w8 ⟨v8, rfl, o8, b8⟩
                    have B_8 := below_on B_7 (Nat.le_refl _) b8
                    have ra_8 := Row2.below ra_7 b8
                    have rb_8 := Row2.below rb_7 b8
                    have rc_8 := Row2.below rc_7 b8
                    have AB_8 := Row2.below AB_7 b8
                    have MAB_8 := Row2.below MAB_7 b8
                    clear B_7 ra_7 rb_7 rc_7 AB_7 MAB_7
                    obtain ⟨a8, c8, hv8, nil8, row8⟩ := OwnS.row o8
                    subst hv8
                    clear o8 b8
                    go_wp2_with fail
                    refine (pMeet_at lb lc (Spn.ans 1 lb lc) 0 b c cb cc _ hb hc rfl zj nb nc rb_8 rc_8).mono ?_; rintro e w9 ⟨v9, rfl, o9, b9⟩
                    have B_9 := below_on B_8 (Nat.le_refl _) b9
                    have ra_9 := Row2.below ra_8 b9
                    have rb_9 := Row2.below rb_8 b9
                    have rc_9 := Row2.below rc_8 b9
                    have AB_9 := Row2.below AB_8 b9
                    have MAB_9 := Row2.below MAB_8 b9
                    have MAC_9 := Row2.below row8 b9
                    clear B_8 ra_8 rb_8 rc_8 AB_8 MAB_8 row8
                    obtain ⟨a9, c9, hv9, nil9, row9⟩ := OwnS.row o9
                    subst hv9
                    clear o9 b9
                    go_wp2_with fail
                    refine (pMeet_at (Spn.ans 0 la lb) lc (Spn.ans 1 (Spn.ans 0 la lb) lc) 0 a2 c c2 cc _ (ml.out 0 la lb) hc rfl zk nil2 nc AB_9 rc_9).mono ?_; rintro e w10 ⟨v10, rfl, o10, b10⟩
                    have B_10 := below_on B_9 (Nat.le_refl _) b10
                    have ra_10 := Row2.below ra_9 b10
                    have rb_10 := Row2.below rb_9 b10
                    have rc_10 := Row2.below rc_9 b10
                    have AB_10 := Row2.below AB_9 b10
                    have MAB_10 := Row2.below MAB_9 b10
                    have MAC_10 := Row2.below MAC_9 b10
                    have MBC_10 := Row2.below row9 b10
                    clear B_9 ra_9 rb_9 rc_9 AB_9 MAB_9 MAC_9 row9
                    obtain ⟨a10, c10, hv10, nil10, row10⟩ := OwnS.row o10
                    subst hv10
                    clear o10 b10
                    go_wp2_with fail
                    refine (pUnion_at (Spn.ans 1 la lc) (Spn.ans 1 lb lc) (Spn.ans 0 (Spn.ans 1 la lc) (Spn.ans 1 lb lc)) 0 a8 a9 c8 c9 _ (ml.out 1 la lc) (ml.out 1 lb lc) rfl zl nil8 nil9 MAC_10 MBC_10).mono ?_; rintro e w11 ⟨v11, rfl, o11, b11⟩
                    have B_11 := below_on B_10 (Nat.le_refl _) b11
                    have ra_11 := Row2.below ra_10 b11
                    have rb_11 := Row2.below rb_10 b11
                    have rc_11 := Row2.below rc_10 b11
                    have AB_11 := Row2.below AB_10 b11
                    have MAB_11 := Row2.below MAB_10 b11
                    have MAC_11 := Row2.below MAC_10 b11
                    have MBC_11 := Row2.below MBC_10 b11
                    have X_11 := Row2.below row10 b11
                    clear B_10 ra_10 rb_10 rc_10 AB_10 MAB_10 MAC_10 MBC_10 row10
                    obtain ⟨a11, c11, hv11, nil11, row11⟩ := OwnS.row o11
                    subst hv11
                    clear o11 b11
                    go_wp2_with fail
                    refine (same_below (Spn.ans 1 (Spn.ans 0 la lb) lc) (Spn.ans 0 (Spn.ans 1 la lc) (Spn.ans 1 lb lc)) true a10 a11 c10 c11 _ (ml.out 1 (Spn.ans 0 la lb) lc) (ml.out 0 (Spn.ans 1 la lc) (Spn.ans 1 lb lc)) sX.out X_11 row11).mono ?_; rintro e w12 ⟨rfl, b12⟩
                    have B_12 := below_on B_11 (Nat.le_refl _) b12
                    have ra_12 := Row2.below ra_11 b12
                    have rb_12 := Row2.below rb_11 b12
                    have rc_12 := Row2.below rc_11 b12
                    have AB_12 := Row2.below AB_11 b12
                    have MAB_12 := Row2.below MAB_11 b12
                    have MAC_12 := Row2.below MAC_11 b12
                    have MBC_12 := Row2.below MBC_11 b12
                    have X_12 := Row2.below X_11 b12
                    have Y_12 := Row2.below row11 b12
                    clear B_11 ra_11 rb_11 rc_11 AB_11 MAB_11 MAC_11 MBC_11 X_11 row11
                    clear b12
                    go_wp2_with fail
                    refine (pMinus_at lc (Spn.ans 0 la lb) (Spn.ans 2 lc (Spn.ans 0 la lb)) 0 c a2 cc c2 _ hc (ml.out 0 la lb) rfl zm nc nil2 rc_12 AB_12).mono ?_; rintro e w13 ⟨v13, rfl, o13, b13⟩
                    have B_13 := below_on B_12 (Nat.le_refl _) b13
                    have ra_13 := Row2.below ra_12 b13
                    have rb_13 := Row2.below rb_12 b13
                    have rc_13 := Row2.below rc_12 b13
                    have AB_13 := Row2.below AB_12 b13
                    have MAB_13 := Row2.below MAB_12 b13
                    have MAC_13 := Row2.below MAC_12 b13
                    have MBC_13 := Row2.below MBC_12 b13
                    have X_13 := Row2.below X_12 b13
                    have Y_13 := Row2.below Y_12 b13
                    clear B_12 ra_12 rb_12 rc_12 AB_12 MAB_12 MAC_12 MBC_12 X_12 Y_12
                    obtain ⟨a13, c13, hv13, nil13, row13⟩ := OwnS.row o13
                    subst hv13
                    clear o13 b13
                    go_wp2_with fail
                    refine (pMinus_at lc la (Spn.ans 2 lc la) 0 c a cc ca _ hc ha rfl zn nc na rc_13 ra_13).mono ?_; rintro e w14 ⟨v14, rfl, o14, b14⟩
                    have B_14 := below_on B_13 (Nat.le_refl _) b14
                    have ra_14 := Row2.below ra_13 b14
                    have rb_14 := Row2.below rb_13 b14
                    have rc_14 := Row2.below rc_13 b14
                    have AB_14 := Row2.below AB_13 b14
                    have MAB_14 := Row2.below MAB_13 b14
                    have MAC_14 := Row2.below MAC_13 b14
                    have MBC_14 := Row2.below MBC_13 b14
                    have X_14 := Row2.below X_13 b14
                    have Y_14 := Row2.below Y_13 b14
                    have P_14 := Row2.below row13 b14
                    clear B_13 ra_13 rb_13 rc_13 AB_13 MAB_13 MAC_13 MBC_13 X_13 Y_13 row13
                    obtain ⟨a14, c14, hv14, nil14, row14⟩ := OwnS.row o14
                    subst hv14
                    clear o14 b14
                    go_wp2_with fail
                    refine (pMinus_at (Spn.ans 2 lc la) lb (Spn.ans 2 (Spn.ans 2 lc la) lb) 0 a14 b c14 cb _ (ml.out 2 lc la) hb rfl zo nil14 nb row14 rb_14).mono ?_; rintro e w15 ⟨v15, rfl, o15, b15⟩
                    have B_15 := below_on B_14 (Nat.le_refl _) b15
                    have ra_15 := Row2.below ra_14 b15
                    have rb_15 := Row2.below rb_14 b15
                    have rc_15 := Row2.below rc_14 b15
                    have AB_15 := Row2.below AB_14 b15
                    have MAB_15 := Row2.below MAB_14 b15
                    have MAC_15 := Row2.below MAC_14 b15
                    have MBC_15 := Row2.below MBC_14 b15
                    have X_15 := Row2.below X_14 b15
                    have Y_15 := Row2.below Y_14 b15
                    have P_15 := Row2.below P_14 b15
                    have Q_15 := Row2.below row14 b15
                    clear B_14 ra_14 rb_14 rc_14 AB_14 MAB_14 MAC_14 MBC_14 X_14 Y_14 P_14 row14
                    obtain ⟨a15, c15, hv15, nil15, row15⟩ := OwnS.row o15
                    subst hv15
                    clear o15 b15
                    go_wp2_with fail
                    refine (same_below (Spn.ans 2 lc (Spn.ans 0 la lb)) (Spn.ans 2 (Spn.ans 2 lc la) lb) true a13 a15 c13 c15 _ (ml.out 2 lc (Spn.ans 0 la lb)) (ml.out 2 (Spn.ans 2 lc la) lb) sP.out P_15 row15).mono ?_; rintro e w16 ⟨rfl, b16⟩
                    have B_16 := below_on B_15 (Nat.le_refl _) b16
                    have ra_16 := Row2.below ra_15 b16
                    have rb_16 := Row2.below rb_15 b16
                    have rc_16 := Row2.below rc_15 b16
                    have AB_16 := Row2.below AB_15 b16
                    have MAB_16 := Row2.below MAB_15 b16
                    have MAC_16 := Row2.below MAC_15 b16
                    have MBC_16 := Row2.below MBC_15 b16
                    have X_16 := Row2.below X_15 b16
                    have Y_16 := Row2.below Y_15 b16
                    have P_16 := Row2.below P_15 b16
                    have Q_16 := Row2.below Q_15 b16
                    have Z_16 := Row2.below row15 b16
                    clear B_15 ra_15 rb_15 rc_15 AB_15 MAB_15 MAC_15 MBC_15 X_15 Y_15 P_15 Q_15 row15
                    clear b16
                    go_wp2
                    go_ret
                    exact ⟨rfl, B_16⟩
                  · skip
                    have neo : (Spn.code 2 (Spn.ans 2 lc la) lb != 0) = true := by simpa using zo
                    have nqo : (Spn.code 2 (Spn.ans 2 lc la) lb == 0) = false := by simpa using zo
                    go_enter Try.func7, Try.ntmps7
                    go_wp2_with fail
                    refine (sbegun_any _).mono ?_; rintro e w1 ⟨rfl, b1⟩
                    have B_1 := below_on (Below.refl _ w) (Nat.le_refl _) b1
                    have ra_1 := Row2.below ra b1
                    have rb_1 := Row2.below rb b1
                    have rc_1 := Row2.below rc b1
                    clear ra rb rc
                    clear b1
                    go_wp2_with fail
                    refine (pUnion_at la lb (Spn.ans 0 la lb) 0 a b ca cb _ ha hb rfl ze na nb ra_1 rb_1).mono ?_; rintro e w2 ⟨v2, rfl, o2, b2⟩
                    have B_2 := below_on B_1 (Nat.le_refl _) b2
                    have ra_2 := Row2.below ra_1 b2
                    have rb_2 := Row2.below rb_1 b2
                    have rc_2 := Row2.below rc_1 b2
                    clear B_1 ra_1 rb_1 rc_1
                    obtain ⟨a2, c2, hv2, nil2, row2⟩ := OwnS.row o2
                    subst hv2
                    clear o2 b2
                    go_wp2_with fail
                    refine (pUnion_at lb la (Spn.ans 0 lb la) 0 b a cb ca _ hb ha rfl zf nb na rb_2 ra_2).mono ?_; rintro e w3 ⟨v3, rfl, o3, b3⟩
                    have B_3 := below_on B_2 (Nat.le_refl _) b3
                    have ra_3 := Row2.below ra_2 b3
                    have rb_3 := Row2.below rb_2 b3
                    have rc_3 := Row2.below rc_2 b3
                    have AB_3 := Row2.below row2 b3
                    clear B_2 ra_2 rb_2 rc_2 row2
                    obtain ⟨a3, c3, hv3, nil3, row3⟩ := OwnS.row o3
                    subst hv3
                    clear o3 b3
                    go_wp2_with fail
                    refine (pMeet_at la lb (Spn.ans 1 la lb) 0 a b ca cb _ ha hb rfl zg na nb ra_3 rb_3).mono ?_; rintro e w4 ⟨v4, rfl, o4, b4⟩
                    have B_4 := below_on B_3 (Nat.le_refl _) b4
                    have ra_4 := Row2.below ra_3 b4
                    have rb_4 := Row2.below rb_3 b4
                    have rc_4 := Row2.below rc_3 b4
                    have AB_4 := Row2.below AB_3 b4
                    have BA_4 := Row2.below row3 b4
                    clear B_3 ra_3 rb_3 rc_3 AB_3 row3
                    obtain ⟨a4, c4, hv4, nil4, row4⟩ := OwnS.row o4
                    subst hv4
                    clear o4 b4
                    go_wp2_with fail
                    refine (pMeet_at lb la (Spn.ans 1 lb la) 0 b a cb ca _ hb ha rfl zh nb na rb_4 ra_4).mono ?_; rintro e w5 ⟨v5, rfl, o5, b5⟩
                    have B_5 := below_on B_4 (Nat.le_refl _) b5
                    have ra_5 := Row2.below ra_4 b5
                    have rb_5 := Row2.below rb_4 b5
                    have rc_5 := Row2.below rc_4 b5
                    have AB_5 := Row2.below AB_4 b5
                    have BA_5 := Row2.below BA_4 b5
                    have MAB_5 := Row2.below row4 b5
                    clear B_4 ra_4 rb_4 rc_4 AB_4 BA_4 row4
                    obtain ⟨a5, c5, hv5, nil5, row5⟩ := OwnS.row o5
                    subst hv5
                    clear o5 b5
                    go_wp2_with fail
                    refine (same_below (Spn.ans 0 la lb) (Spn.ans 0 lb la) true a2 a3 c2 c3 _ (ml.out 0 la lb) (ml.out 0 lb la) sAB.out AB_5 BA_5).mono ?_; rintro e w6 ⟨rfl, b6⟩
                    have B_6 := below_on B_5 (Nat.le_refl _) b6
                    have ra_6 := Row2.below ra_5 b6
                    have rb_6 := Row2.below rb_5 b6
                    have rc_6 := Row2.below rc_5 b6
                    have AB_6 := Row2.below AB_5 b6
                    have BA_6 := Row2.below BA_5 b6
                    have MAB_6 := Row2.below MAB_5 b6
                    have MBA_6 := Row2.below row5 b6
                    clear B_5 ra_5 rb_5 rc_5 AB_5 BA_5 MAB_5 row5
                    clear b6
                    go_wp2_with fail
                    refine (same_below (Spn.ans 1 la lb) (Spn.ans 1 lb la) true a4 a5 c4 c5 _ (ml.out 1 la lb) (ml.out 1 lb la) sM.out MAB_6 MBA_6).mono ?_; rintro e w7 ⟨rfl, b7⟩
                    have B_7 := below_on B_6 (Nat.le_refl _) b7
                    have ra_7 := Row2.below ra_6 b7
                    have rb_7 := Row2.below rb_6 b7
                    have rc_7 := Row2.below rc_6 b7
                    have AB_7 := Row2.below AB_6 b7
                    have BA_7 := Row2.below BA_6 b7
                    have MAB_7 := Row2.below MAB_6 b7
                    have MBA_7 := Row2.below MBA_6 b7
                    clear B_6 ra_6 rb_6 rc_6 AB_6 BA_6 MAB_6 MBA_6
                    clear b7
                    clear BA_7 MBA_7
                    go_wp2_with fail
                    refine (pMeet_at la lc (Spn.ans 1 la lc) 0 a c ca cc _ ha hc rfl zi na nc ra_7 rc_7).mono ?_; rintro e w8 ⟨v8, rfl, o8, b8⟩
                    have B_8 := below_on B_7 (Nat.le_refl _) b8
                    have ra_8 := Row2.below ra_7 b8
                    have rb_8 := Row2.below rb_7 b8
                    have rc_8 := Row2.below rc_7 b8
                    have AB_8 := Row2.below AB_7 b8
                    have MAB_8 := Row2.below MAB_7 b8
                    clear B_7 ra_7 rb_7 rc_7 AB_7 MAB_7
                    obtain ⟨a8, c8, hv8, nil8, row8⟩ := OwnS.row o8
                    subst hv8
                    clear o8 b8
                    go_wp2_with fail
                    refine (pMeet_at lb lc (Spn.ans 1 lb lc) 0 b c cb cc _ hb hc rfl zj nb nc rb_8 rc_8).mono ?_; rintro e w9 ⟨v9, rfl, o9, b9⟩
                    have B_9 := below_on B_8 (Nat.le_refl _) b9
                    have ra_9 := Row2.below ra_8 b9
                    have rb_9 := Row2.below rb_8 b9
                    have rc_9 := Row2.below rc_8 b9
                    have AB_9 := Row2.below AB_8 b9
                    have MAB_9 := Row2.below MAB_8 b9
                    have MAC_9 := Row2.below row8 b9
                    clear B_8 ra_8 rb_8 rc_8 AB_8 MAB_8 row8
                    obtain ⟨a9, c9, hv9, nil9, row9⟩ := OwnS.row o9
                    subst hv9
                    clear o9 b9
                    go_wp2_with fail
                    refine (pMeet_at (Spn.ans 0 la lb) lc (Spn.ans 1 (Spn.ans 0 la lb) lc) 0 a2 c c2 cc _ (ml.out 0 la lb) hc rfl zk nil2 nc AB_9 rc_9).mono ?_; rintro e w10 ⟨v10, rfl, o10, b10⟩
                    have B_10 := below_on B_9 (Nat.le_refl _) b10
                    have ra_10 := Row2.below ra_9 b10
                    have rb_10 := Row2.below rb_9 b10
                    have rc_10 := Row2.below rc_9 b10
                    have AB_10 := Row2.below AB_9 b10
                    have MAB_10 := Row2.below MAB_9 b10
                    have MAC_10 := Row2.below MAC_9 b10
                    have MBC_10 := Row2.below row9 b10
                    clear B_9 ra_9 rb_9 rc_9 AB_9 MAB_9 MAC_9 row9
                    obtain ⟨a10, c10, hv10, nil10, row10⟩ := OwnS.row o10
                    subst hv10
                    clear o10 b10
                    go_wp2_with fail
                    refine (pUnion_at (Spn.ans 1 la lc) (Spn.ans 1 lb lc) (Spn.ans 0 (Spn.ans 1 la lc) (Spn.ans 1 lb lc)) 0 a8 a9 c8 c9 _ (ml.out 1 la lc) (ml.out 1 lb lc) rfl zl nil8 nil9 MAC_10 MBC_10).mono ?_; rintro e w11 ⟨v11, rfl, o11, b11⟩
                    have B_11 := below_on B_10 (Nat.le_refl _) b11
                    have ra_11 := Row2.below ra_10 b11
                    have rb_11 := Row2.below rb_10 b11
                    have rc_11 := Row2.below rc_10 b11
                    have AB_11 := Row2.below AB_10 b11
                    have MAB_11 := Row2.below MAB_10 b11
                    have MAC_11 := Row2.below MAC_10 b11
                    have MBC_11 := Row2.below MBC_10 b11
                    have X_11 := Row2.below row10 b11
                    clear B_10 ra_10 rb_10 rc_10 AB_10 MAB_10 MAC_10 MBC_10 row10
                    obtain ⟨a11, c11, hv11, nil11, row11⟩ := OwnS.row o11
                    subst hv11
                    clear o11 b11
                    go_wp2_with fail
                    refine (same_below (Spn.ans 1 (Spn.ans 0 la lb) lc) (Spn.ans 0 (Spn.ans 1 la lc) (Spn.ans 1 lb lc)) true a10 a11 c10 c11 _ (ml.out 1 (Spn.ans 0 la lb) lc) (ml.out 0 (Spn.ans 1 la lc) (Spn.ans 1 lb lc)) sX.out X_11 row11).mono ?_; rintro e w12 ⟨rfl, b12⟩
                    have B_12 := below_on B_11 (Nat.le_refl _) b12
                    have ra_12 := Row2.below ra_11 b12
                    have rb_12 := Row2.below rb_11 b12
                    have rc_12 := Row2.below rc_11 b12
                    have AB_12 := Row2.below AB_11 b12
                    have MAB_12 := Row2.below MAB_11 b12
                    have MAC_12 := Row2.below MAC_11 b12
                    have MBC_12 := Row2.below MBC_11 b12
                    have X_12 := Row2.below X_11 b12
                    have Y_12 := Row2.below row11 b12
                    clear B_11 ra_11 rb_11 rc_11 AB_11 MAB_11 MAC_11 MBC_11 X_11 row11
                    clear b12
                    go_wp2_with fail
                    refine (pMinus_at lc (Spn.ans 0 la lb) (Spn.ans 2 lc (Spn.ans 0 la lb)) 0 c a2 cc c2 _ hc (ml.out 0 la lb) rfl zm nc nil2 rc_12 AB_12).mono ?_; rintro e w13 ⟨v13, rfl, o13, b13⟩
                    have B_13 := below_on B_12 (Nat.le_refl _) b13
                    have ra_13 := Row2.below ra_12 b13
                    have rb_13 := Row2.below rb_12 b13
                    have rc_13 := Row2.below rc_12 b13
                    have AB_13 := Row2.below AB_12 b13
                    have MAB_13 := Row2.below MAB_12 b13
                    have MAC_13 := Row2.below MAC_12 b13
                    have MBC_13 := Row2.below MBC_12 b13
                    have X_13 := Row2.below X_12 b13
                    have Y_13 := Row2.below Y_12 b13
                    clear B_12 ra_12 rb_12 rc_12 AB_12 MAB_12 MAC_12 MBC_12 X_12 Y_12
                    obtain ⟨a13, c13, hv13, nil13, row13⟩ := OwnS.row o13
                    subst hv13
                    clear o13 b13
                    go_wp2_with fail
                    refine (pMinus_at lc la (Spn.ans 2 lc la) 0 c a cc ca _ hc ha rfl zn nc na rc_13 ra_13).mono ?_; rintro e w14 ⟨v14, rfl, o14, b14⟩
                    have B_14 := below_on B_13 (Nat.le_refl _) b14
                    have ra_14 := Row2.below ra_13 b14
                    have rb_14 := Row2.below rb_13 b14
                    have rc_14 := Row2.below rc_13 b14
                    have AB_14 := Row2.below AB_13 b14
                    have MAB_14 := Row2.below MAB_13 b14
                    have MAC_14 := Row2.below MAC_13 b14
                    have MBC_14 := Row2.below MBC_13 b14
                    have X_14 := Row2.below X_13 b14
                    have Y_14 := Row2.below Y_13 b14
                    have P_14 := Row2.below row13 b14
                    clear B_13 ra_13 rb_13 rc_13 AB_13 MAB_13 MAC_13 MBC_13 X_13 Y_13 row13
                    obtain ⟨a14, c14, hv14, nil14, row14⟩ := OwnS.row o14
                    subst hv14
                    clear o14 b14
                    go_wp2_with fail
                    refine (pMinus_at (Spn.ans 2 lc la) lb (Spn.ans 2 (Spn.ans 2 lc la) lb) (Spn.code 2 (Spn.ans 2 lc la) lb) a14 b c14 cb _ (ml.out 2 lc la) hb rfl rfl nil14 nb row14 rb_14).mono ?_; rintro e w15 ⟨v15, rfl, o15, b15⟩
                    have B_15 := below_on B_14 (Nat.le_refl _) b15
                    have ra_15 := Row2.below ra_14 b15
                    have rb_15 := Row2.below rb_14 b15
                    have rc_15 := Row2.below rc_14 b15
                    have AB_15 := Row2.below AB_14 b15
                    have MAB_15 := Row2.below MAB_14 b15
                    have MAC_15 := Row2.below MAC_14 b15
                    have MBC_15 := Row2.below MBC_14 b15
                    have X_15 := Row2.below X_14 b15
                    have Y_15 := Row2.below Y_14 b15
                    have P_15 := Row2.below P_14 b15
                    have Q_15 := Row2.below row14 b15
                    clear B_14 ra_14 rb_14 rc_14 AB_14 MAB_14 MAC_14 MBC_14 X_14 Y_14 P_14 row14
                    obtain ⟨a15, c15, hv15, nil15, row15⟩ := OwnS.row o15
                    subst hv15
                    clear o15 b15
                    go_wp2
                    go_ret
                    exact ⟨rfl, B_15⟩
                · skip
                  have nen : (Spn.code 2 lc la != 0) = true := by simpa using zn
                  have nqn : (Spn.code 2 lc la == 0) = false := by simpa using zn
                  go_enter Try.func7, Try.ntmps7
                  go_wp2_with fail
                  refine (sbegun_any _).mono ?_; rintro e w1 ⟨rfl, b1⟩
                  have B_1 := below_on (Below.refl _ w) (Nat.le_refl _) b1
                  have ra_1 := Row2.below ra b1
                  have rb_1 := Row2.below rb b1
                  have rc_1 := Row2.below rc b1
                  clear ra rb rc
                  clear b1
                  go_wp2_with fail
                  refine (pUnion_at la lb (Spn.ans 0 la lb) 0 a b ca cb _ ha hb rfl ze na nb ra_1 rb_1).mono ?_; rintro e w2 ⟨v2, rfl, o2, b2⟩
                  have B_2 := below_on B_1 (Nat.le_refl _) b2
                  have ra_2 := Row2.below ra_1 b2
                  have rb_2 := Row2.below rb_1 b2
                  have rc_2 := Row2.below rc_1 b2
                  clear B_1 ra_1 rb_1 rc_1
                  obtain ⟨a2, c2, hv2, nil2, row2⟩ := OwnS.row o2
                  subst hv2
                  clear o2 b2
                  go_wp2_with fail
                  refine (pUnion_at lb la (Spn.ans 0 lb la) 0 b a cb ca _ hb ha rfl zf nb na rb_2 ra_2).mono ?_; rintro e w3 ⟨v3, rfl, o3, b3⟩
                  have B_3 := below_on B_2 (Nat.le_refl _) b3
                  have ra_3 := Row2.below ra_2 b3
                  have rb_3 := Row2.below rb_2 b3
                  have rc_3 := Row2.below rc_2 b3
                  have AB_3 := Row2.below row2 b3
                  clear B_2 ra_2 rb_2 rc_2 row2
                  obtain ⟨a3, c3, hv3, nil3, row3⟩ := OwnS.row o3
                  subst hv3
                  clear o3 b3
                  go_wp2_with fail
                  refine (pMeet_at la lb (Spn.ans 1 la lb) 0 a b ca cb _ ha hb rfl zg na nb ra_3 rb_3).mono ?_; rintro e w4 ⟨v4, rfl, o4, b4⟩
                  have B_4 := below_on B_3 (Nat.le_refl _) b4
                  have ra_4 := Row2.below ra_3 b4
                  have rb_4 := Row2.below rb_3 b4
                  have rc_4 := Row2.below rc_3 b4
                  have AB_4 := Row2.below AB_3 b4
                  have BA_4 := Row2.below row3 b4
                  clear B_3 ra_3 rb_3 rc_3 AB_3 row3
                  obtain ⟨a4, c4, hv4, nil4, row4⟩ := OwnS.row o4
                  subst hv4
                  clear o4 b4
                  go_wp2_with fail
                  refine (pMeet_at lb la (Spn.ans 1 lb la) 0 b a cb ca _ hb ha rfl zh nb na rb_4 ra_4).mono ?_; rintro e w5 ⟨v5, rfl, o5, b5⟩
                  have B_5 := below_on B_4 (Nat.le_refl _) b5
                  have ra_5 := Row2.below ra_4 b5
                  have rb_5 := Row2.below rb_4 b5
                  have rc_5 := Row2.below rc_4 b5
                  have AB_5 := Row2.below AB_4 b5
                  have BA_5 := Row2.below BA_4 b5
                  have MAB_5 := Row2.below row4 b5
                  clear B_4 ra_4 rb_4 rc_4 AB_4 BA_4 row4
                  obtain ⟨a5, c5, hv5, nil5, row5⟩ := OwnS.row o5
                  subst hv5
                  clear o5 b5
                  go_wp2_with fail
                  refine (same_below (Spn.ans 0 la lb) (Spn.ans 0 lb la) true a2 a3 c2 c3 _ (ml.out 0 la lb) (ml.out 0 lb la) sAB.out AB_5 BA_5).mono ?_; rintro e w6 ⟨rfl, b6⟩
                  have B_6 := below_on B_5 (Nat.le_refl _) b6
                  have ra_6 := Row2.below ra_5 b6
                  have rb_6 := Row2.below rb_5 b6
                  have rc_6 := Row2.below rc_5 b6
                  have AB_6 := Row2.below AB_5 b6
                  have BA_6 := Row2.below BA_5 b6
                  have MAB_6 := Row2.below MAB_5 b6
                  have MBA_6 := Row2.below row5 b6
                  clear B_5 ra_5 rb_5 rc_5 AB_5 BA_5 MAB_5 row5
                  clear b6
                  go_wp2_with fail
                  refine (same_below (Spn.ans 1 la lb) (Spn.ans 1 lb la) true a4 a5 c4 c5 _ (ml.out 1 la lb) (ml.out 1 lb la) sM.out MAB_6 MBA_6).mono ?_; rintro e w7 ⟨rfl, b7⟩
                  have B_7 := below_on B_6 (Nat.le_refl _) b7
                  have ra_7 := Row2.below ra_6 b7
                  have rb_7 := Row2.below rb_6 b7
                  have rc_7 := Row2.below rc_6 b7
                  have AB_7 := Row2.below AB_6 b7
                  have BA_7 := Row2.below BA_6 b7
                  have MAB_7 := Row2.below MAB_6 b7
                  have MBA_7 := Row2.below MBA_6 b7
                  clear B_6 ra_6 rb_6 rc_6 AB_6 BA_6 MAB_6 MBA_6
                  clear b7
                  clear BA_7 MBA_7
                  go_wp2_with fail
                  refine (pMeet_at la lc (Spn.ans 1 la lc) 0 a c ca cc _ ha hc rfl zi na nc ra_7 rc_7).mono ?_; rintro e w8 ⟨v8, rfl, o8, b8⟩
                  have B_8 := below_on B_7 (Nat.le_refl _) b8
                  have ra_8 := Row2.below ra_7 b8
                  have rb_8 := Row2.below rb_7 b8
                  have rc_8 := Row2.below rc_7 b8
                  have AB_8 := Row2.below AB_7 b8
                  have MAB_8 := Row2.below MAB_7 b8
                  clear B_7 ra_7 rb_7 rc_7 AB_7 MAB_7
                  obtain ⟨a8, c8, hv8, nil8, row8⟩ := OwnS.row o8
                  subst hv8
                  clear o8 b8
                  go_wp2_with fail
                  refine (pMeet_at lb lc (Spn.ans 1 lb lc) 0 b c cb cc _ hb hc rfl zj nb nc rb_8 rc_8).mono ?_; rintro e w9 ⟨v9, rfl, o9, b9⟩
                  have B_9 := below_on B_8 (Nat.le_refl _) b9
                  have ra_9 := Row2.below ra_8 b9
                  have rb_9 := Row2.below rb_8 b9
                  have rc_9 := Row2.below rc_8 b9
                  have AB_9 := Row2.below AB_8 b9
                  have MAB_9 := Row2.below MAB_8 b9
                  have MAC_9 := Row2.below row8 b9
                  clear B_8 ra_8 rb_8 rc_8 AB_8 MAB_8 row8
                  obtain ⟨a9, c9, hv9, nil9, row9⟩ := OwnS.row o9
                  subst hv9
                  clear o9 b9
                  go_wp2_with fail
                  refine (pMeet_at (Spn.ans 0 la lb) lc (Spn.ans 1 (Spn.ans 0 la lb) lc) 0 a2 c c2 cc _ (ml.out 0 la lb) hc rfl zk nil2 nc AB_9 rc_9).mono ?_; rintro e w10 ⟨v10, rfl, o10, b10⟩
                  have B_10 := below_on B_9 (Nat.le_refl _) b10
                  have ra_10 := Row2.below ra_9 b10
                  have rb_10 := Row2.below rb_9 b10
                  have rc_10 := Row2.below rc_9 b10
                  have AB_10 := Row2.below AB_9 b10
                  have MAB_10 := Row2.below MAB_9 b10
                  have MAC_10 := Row2.below MAC_9 b10
                  have MBC_10 := Row2.below row9 b10
                  clear B_9 ra_9 rb_9 rc_9 AB_9 MAB_9 MAC_9 row9
                  obtain ⟨a10, c10, hv10, nil10, row10⟩ := OwnS.row o10
                  subst hv10
                  clear o10 b10
                  go_wp2_with fail
                  refine (pUnion_at (Spn.ans 1 la lc) (Spn.ans 1 lb lc) (Spn.ans 0 (Spn.ans 1 la lc) (Spn.ans 1 lb lc)) 0 a8 a9 c8 c9 _ (ml.out 1 la lc) (ml.out 1 lb lc) rfl zl nil8 nil9 MAC_10 MBC_10).mono ?_; rintro e w11 ⟨v11, rfl, o11, b11⟩
                  have B_11 := below_on B_10 (Nat.le_refl _) b11
                  have ra_11 := Row2.below ra_10 b11
                  have rb_11 := Row2.below rb_10 b11
                  have rc_11 := Row2.below rc_10 b11
                  have AB_11 := Row2.below AB_10 b11
                  have MAB_11 := Row2.below MAB_10 b11
                  have MAC_11 := Row2.below MAC_10 b11
                  have MBC_11 := Row2.below MBC_10 b11
                  have X_11 := Row2.below row10 b11
                  clear B_10 ra_10 rb_10 rc_10 AB_10 MAB_10 MAC_10 MBC_10 row10
                  obtain ⟨a11, c11, hv11, nil11, row11⟩ := OwnS.row o11
                  subst hv11
                  clear o11 b11
                  go_wp2_with fail
                  refine (same_below (Spn.ans 1 (Spn.ans 0 la lb) lc) (Spn.ans 0 (Spn.ans 1 la lc) (Spn.ans 1 lb lc)) true a10 a11 c10 c11 _ (ml.out 1 (Spn.ans 0 la lb) lc) (ml.out 0 (Spn.ans 1 la lc) (Spn.ans 1 lb lc)) sX.out X_11 row11).mono ?_; rintro e w12 ⟨rfl, b12⟩
                  have B_12 := below_on B_11 (Nat.le_refl _) b12
                  have ra_12 := Row2.below ra_11 b12
                  have rb_12 := Row2.below rb_11 b12
                  have rc_12 := Row2.below rc_11 b12
                  have AB_12 := Row2.below AB_11 b12
                  have MAB_12 := Row2.below MAB_11 b12
                  have MAC_12 := Row2.below MAC_11 b12
                  have MBC_12 := Row2.below MBC_11 b12
                  have X_12 := Row2.below X_11 b12
                  have Y_12 := Row2.below row11 b12
                  clear B_11 ra_11 rb_11 rc_11 AB_11 MAB_11 MAC_11 MBC_11 X_11 row11
                  clear b12
                  go_wp2_with fail
                  refine (pMinus_at lc (Spn.ans 0 la lb) (Spn.ans 2 lc (Spn.ans 0 la lb)) 0 c a2 cc c2 _ hc (ml.out 0 la lb) rfl zm nc nil2 rc_12 AB_12).mono ?_; rintro e w13 ⟨v13, rfl, o13, b13⟩
                  have B_13 := below_on B_12 (Nat.le_refl _) b13
                  have ra_13 := Row2.below ra_12 b13
                  have rb_13 := Row2.below rb_12 b13
                  have rc_13 := Row2.below rc_12 b13
                  have AB_13 := Row2.below AB_12 b13
                  have MAB_13 := Row2.below MAB_12 b13
                  have MAC_13 := Row2.below MAC_12 b13
                  have MBC_13 := Row2.below MBC_12 b13
                  have X_13 := Row2.below X_12 b13
                  have Y_13 := Row2.below Y_12 b13
                  clear B_12 ra_12 rb_12 rc_12 AB_12 MAB_12 MAC_12 MBC_12 X_12 Y_12
                  obtain ⟨a13, c13, hv13, nil13, row13⟩ := OwnS.row o13
                  subst hv13
                  clear o13 b13
                  go_wp2_with fail
                  refine (pMinus_at lc la (Spn.ans 2 lc la) (Spn.code 2 lc la) c a cc ca _ hc ha rfl rfl nc na rc_13 ra_13).mono ?_; rintro e w14 ⟨v14, rfl, o14, b14⟩
                  have B_14 := below_on B_13 (Nat.le_refl _) b14
                  have ra_14 := Row2.below ra_13 b14
                  have rb_14 := Row2.below rb_13 b14
                  have rc_14 := Row2.below rc_13 b14
                  have AB_14 := Row2.below AB_13 b14
                  have MAB_14 := Row2.below MAB_13 b14
                  have MAC_14 := Row2.below MAC_13 b14
                  have MBC_14 := Row2.below MBC_13 b14
                  have X_14 := Row2.below X_13 b14
                  have Y_14 := Row2.below Y_13 b14
                  have P_14 := Row2.below row13 b14
                  clear B_13 ra_13 rb_13 rc_13 AB_13 MAB_13 MAC_13 MBC_13 X_13 Y_13 row13
                  obtain ⟨a14, c14, hv14, nil14, row14⟩ := OwnS.row o14
                  subst hv14
                  clear o14 b14
                  go_wp2
                  go_ret
                  exact ⟨rfl, B_14⟩
              · skip
                have nem : (Spn.code 2 lc (Spn.ans 0 la lb) != 0) = true := by simpa using zm
                have nqm : (Spn.code 2 lc (Spn.ans 0 la lb) == 0) = false := by simpa using zm
                go_enter Try.func7, Try.ntmps7
                go_wp2_with fail
                refine (sbegun_any _).mono ?_; rintro e w1 ⟨rfl, b1⟩
                have B_1 := below_on (Below.refl _ w) (Nat.le_refl _) b1
                have ra_1 := Row2.below ra b1
                have rb_1 := Row2.below rb b1
                have rc_1 := Row2.below rc b1
                clear ra rb rc
                clear b1
                go_wp2_with fail
                refine (pUnion_at la lb (Spn.ans 0 la lb) 0 a b ca cb _ ha hb rfl ze na nb ra_1 rb_1).mono ?_; rintro e w2 ⟨v2, rfl, o2, b2⟩
                have B_2 := below_on B_1 (Nat.le_refl _) b2
                have ra_2 := Row2.below ra_1 b2
                have rb_2 := Row2.below rb_1 b2
                have rc_2 := Row2.below rc_1 b2
                clear B_1 ra_1 rb_1 rc_1
                obtain ⟨a2, c2, hv2, nil2, row2⟩ := OwnS.row o2
                subst hv2
                clear o2 b2
                go_wp2_with fail
                refine (pUnion_at lb la (Spn.ans 0 lb la) 0 b a cb ca _ hb ha rfl zf nb na rb_2 ra_2).mono ?_; rintro e w3 ⟨v3, rfl, o3, b3⟩
                have B_3 := below_on B_2 (Nat.le_refl _) b3
                have ra_3 := Row2.below ra_2 b3
                have rb_3 := Row2.below rb_2 b3
                have rc_3 := Row2.below rc_2 b3
                have AB_3 := Row2.below row2 b3
                clear B_2 ra_2 rb_2 rc_2 row2
                obtain ⟨a3, c3, hv3, nil3, row3⟩ := OwnS.row o3
                subst hv3
                clear o3 b3
                go_wp2_with fail
                refine (pMeet_at la lb (Spn.ans 1 la lb) 0 a b ca cb _ ha hb rfl zg na nb ra_3 rb_3).mono ?_; rintro e w4 ⟨v4, rfl, o4, b4⟩
                have B_4 := below_on B_3 (Nat.le_refl _) b4
                have ra_4 := Row2.below ra_3 b4
                have rb_4 := Row2.below rb_3 b4
                have rc_4 := Row2.below rc_3 b4
                have AB_4 := Row2.below AB_3 b4
                have BA_4 := Row2.below row3 b4
                clear B_3 ra_3 rb_3 rc_3 AB_3 row3
                obtain ⟨a4, c4, hv4, nil4, row4⟩ := OwnS.row o4
                subst hv4
                clear o4 b4
                go_wp2_with fail
                refine (pMeet_at lb la (Spn.ans 1 lb la) 0 b a cb ca _ hb ha rfl zh nb na rb_4 ra_4).mono ?_; rintro e w5 ⟨v5, rfl, o5, b5⟩
                have B_5 := below_on B_4 (Nat.le_refl _) b5
                have ra_5 := Row2.below ra_4 b5
                have rb_5 := Row2.below rb_4 b5
                have rc_5 := Row2.below rc_4 b5
                have AB_5 := Row2.below AB_4 b5
                have BA_5 := Row2.below BA_4 b5
                have MAB_5 := Row2.below row4 b5
                clear B_4 ra_4 rb_4 rc_4 AB_4 BA_4 row4
                obtain ⟨a5, c5, hv5, nil5, row5⟩ := OwnS.row o5
                subst hv5
                clear o5 b5
                go_wp2_with fail
                refine (same_below (Spn.ans 0 la lb) (Spn.ans 0 lb la) true a2 a3 c2 c3 _ (ml.out 0 la lb) (ml.out 0 lb la) sAB.out AB_5 BA_5).mono ?_; rintro e w6 ⟨rfl, b6⟩
                have B_6 := below_on B_5 (Nat.le_refl _) b6
                have ra_6 := Row2.below ra_5 b6
                have rb_6 := Row2.below rb_5 b6
                have rc_6 := Row2.below rc_5 b6
                have AB_6 := Row2.below AB_5 b6
                have BA_6 := Row2.below BA_5 b6
                have MAB_6 := Row2.below MAB_5 b6
                have MBA_6 := Row2.below row5 b6
                clear B_5 ra_5 rb_5 rc_5 AB_5 BA_5 MAB_5 row5
                clear b6
                go_wp2_with fail
                refine (same_below (Spn.ans 1 la lb) (Spn.ans 1 lb la) true a4 a5 c4 c5 _ (ml.out 1 la lb) (ml.out 1 lb la) sM.out MAB_6 MBA_6).mono ?_; rintro e w7 ⟨rfl, b7⟩
                have B_7 := below_on B_6 (Nat.le_refl _) b7
                have ra_7 := Row2.below ra_6 b7
                have rb_7 := Row2.below rb_6 b7
                have rc_7 := Row2.below rc_6 b7
                have AB_7 := Row2.below AB_6 b7
                have BA_7 := Row2.below BA_6 b7
                have MAB_7 := Row2.below MAB_6 b7
                have MBA_7 := Row2.below MBA_6 b7
                clear B_6 ra_6 rb_6 rc_6 AB_6 BA_6 MAB_6 MBA_6
                clear b7
                clear BA_7 MBA_7
                go_wp2_with fail
                refine (pMeet_at la lc (Spn.ans 1 la lc) 0 a c ca cc _ ha hc rfl zi na nc ra_7 rc_7).mono ?_; rintro e w8 ⟨v8, rfl, o8, b8⟩
                have B_8 := below_on B_7 (Nat.le_refl _) b8
                have ra_8 := Row2.below ra_7 b8
                have rb_8 := Row2.below rb_7 b8
                have rc_8 := Row2.below rc_7 b8
                have AB_8 := Row2.below AB_7 b8
                have MAB_8 := Row2.below MAB_7 b8
                clear B_7 ra_7 rb_7 rc_7 AB_7 MAB_7
                obtain ⟨a8, c8, hv8, nil8, row8⟩ := OwnS.row o8
                subst hv8
                clear o8 b8
                go_wp2_with fail
                refine (pMeet_at lb lc (Spn.ans 1 lb lc) 0 b c cb cc _ hb hc rfl zj nb nc rb_8 rc_8).mono ?_; rintro e w9 ⟨v9, rfl, o9, b9⟩
                have B_9 := below_on B_8 (Nat.le_refl _) b9
                have ra_9 := Row2.below ra_8 b9
                have rb_9 := Row2.below rb_8 b9
                have rc_9 := Row2.below rc_8 b9
                have AB_9 := Row2.below AB_8 b9
                have MAB_9 := Row2.below MAB_8 b9
                have MAC_9 := Row2.below row8 b9
                clear B_8 ra_8 rb_8 rc_8 AB_8 MAB_8 row8
                obtain ⟨a9, c9, hv9, nil9, row9⟩ := OwnS.row o9
                subst hv9
                clear o9 b9
                go_wp2_with fail
                refine (pMeet_at (Spn.ans 0 la lb) lc (Spn.ans 1 (Spn.ans 0 la lb) lc) 0 a2 c c2 cc _ (ml.out 0 la lb) hc rfl zk nil2 nc AB_9 rc_9).mono ?_; rintro e w10 ⟨v10, rfl, o10, b10⟩
                have B_10 := below_on B_9 (Nat.le_refl _) b10
                have ra_10 := Row2.below ra_9 b10
                have rb_10 := Row2.below rb_9 b10
                have rc_10 := Row2.below rc_9 b10
                have AB_10 := Row2.below AB_9 b10
                have MAB_10 := Row2.below MAB_9 b10
                have MAC_10 := Row2.below MAC_9 b10
                have MBC_10 := Row2.below row9 b10
                clear B_9 ra_9 rb_9 rc_9 AB_9 MAB_9 MAC_9 row9
                obtain ⟨a10, c10, hv10, nil10, row10⟩ := OwnS.row o10
                subst hv10
                clear o10 b10
                go_wp2_with fail
                refine (pUnion_at (Spn.ans 1 la lc) (Spn.ans 1 lb lc) (Spn.ans 0 (Spn.ans 1 la lc) (Spn.ans 1 lb lc)) 0 a8 a9 c8 c9 _ (ml.out 1 la lc) (ml.out 1 lb lc) rfl zl nil8 nil9 MAC_10 MBC_10).mono ?_; rintro e w11 ⟨v11, rfl, o11, b11⟩
                have B_11 := below_on B_10 (Nat.le_refl _) b11
                have ra_11 := Row2.below ra_10 b11
                have rb_11 := Row2.below rb_10 b11
                have rc_11 := Row2.below rc_10 b11
                have AB_11 := Row2.below AB_10 b11
                have MAB_11 := Row2.below MAB_10 b11
                have MAC_11 := Row2.below MAC_10 b11
                have MBC_11 := Row2.below MBC_10 b11
                have X_11 := Row2.below row10 b11
                clear B_10 ra_10 rb_10 rc_10 AB_10 MAB_10 MAC_10 MBC_10 row10
                obtain ⟨a11, c11, hv11, nil11, row11⟩ := OwnS.row o11
                subst hv11
                clear o11 b11
                go_wp2_with fail
                refine (same_below (Spn.ans 1 (Spn.ans 0 la lb) lc) (Spn.ans 0 (Spn.ans 1 la lc) (Spn.ans 1 lb lc)) true a10 a11 c10 c11 _ (ml.out 1 (Spn.ans 0 la lb) lc) (ml.out 0 (Spn.ans 1 la lc) (Spn.ans 1 lb lc)) sX.out X_11 row11).mono ?_; rintro e w12 ⟨rfl, b12⟩
                have B_12 := below_on B_11 (Nat.le_refl _) b12
                have ra_12 := Row2.below ra_11 b12
                have rb_12 := Row2.below rb_11 b12
                have rc_12 := Row2.below rc_11 b12
                have AB_12 := Row2.below AB_11 b12
                have MAB_12 := Row2.below MAB_11 b12
                have MAC_12 := Row2.below MAC_11 b12
                have MBC_12 := Row2.below MBC_11 b12
                have X_12 := Row2.below X_11 b12
                have Y_12 := Row2.below row11 b12
                clear B_11 ra_11 rb_11 rc_11 AB_11 MAB_11 MAC_11 MBC_11 X_11 row11
                clear b12
                go_wp2_with fail
                refine (pMinus_at lc (Spn.ans 0 la lb) (Spn.ans 2 lc (Spn.ans 0 la lb)) (Spn.code 2 lc (Spn.ans 0 la lb)) c a2 cc c2 _ hc (ml.out 0 la lb) rfl rfl nc nil2 rc_12 AB_12).mono ?_; rintro e w13 ⟨v13, rfl, o13, b13⟩
                have B_13 := below_on B_12 (Nat.le_refl _) b13
                have ra_13 := Row2.below ra_12 b13
                have rb_13 := Row2.below rb_12 b13
                have rc_13 := Row2.below rc_12 b13
                have AB_13 := Row2.below AB_12 b13
                have MAB_13 := Row2.below MAB_12 b13
                have MAC_13 := Row2.below MAC_12 b13
                have MBC_13 := Row2.below MBC_12 b13
                have X_13 := Row2.below X_12 b13
                have Y_13 := Row2.below Y_12 b13
                clear B_12 ra_12 rb_12 rc_12 AB_12 MAB_12 MAC_12 MBC_12 X_12 Y_12
                obtain ⟨a13, c13, hv13, nil13, row13⟩ := OwnS.row o13
                subst hv13
                clear o13 b13
                go_wp2_with fail
                refine (pMinus_at lc la (Spn.ans 2 lc la) (Spn.code 2 lc la) c a cc ca _ hc ha rfl rfl nc na rc_13 ra_13).mono ?_; rintro e w14 ⟨v14, rfl, o14, b14⟩
                have B_14 := below_on B_13 (Nat.le_refl _) b14
                have ra_14 := Row2.below ra_13 b14
                have rb_14 := Row2.below rb_13 b14
                have rc_14 := Row2.below rc_13 b14
                have AB_14 := Row2.below AB_13 b14
                have MAB_14 := Row2.below MAB_13 b14
                have MAC_14 := Row2.below MAC_13 b14
                have MBC_14 := Row2.below MBC_13 b14
                have X_14 := Row2.below X_13 b14
                have Y_14 := Row2.below Y_13 b14
                have P_14 := Row2.below row13 b14
                clear B_13 ra_13 rb_13 rc_13 AB_13 MAB_13 MAC_13 MBC_13 X_13 Y_13 row13
                obtain ⟨a14, c14, hv14, nil14, row14⟩ := OwnS.row o14
                subst hv14
                clear o14 b14
                go_wp2
                go_ret
                exact ⟨rfl, B_14⟩
            · skip
              have nel : (Spn.code 0 (Spn.ans 1 la lc) (Spn.ans 1 lb lc) != 0) = true := by simpa using zl
              have nql : (Spn.code 0 (Spn.ans 1 la lc) (Spn.ans 1 lb lc) == 0) = false := by simpa using zl
              by_cases zm : Spn.code 2 lc (Spn.ans 0 la lb) = 0
              · skip
                by_cases zn : Spn.code 2 lc la = 0
                · skip
                  by_cases zo : Spn.code 2 (Spn.ans 2 lc la) lb = 0
                  · skip
                    have sP : Hid (decide (Spn.ans 2 lc (Spn.ans 0 la lb) = Spn.ans 2 (Spn.ans 2 lc la) lb) = true) := decide_eq_true (Spn.morgan_eq la lb lc ze zm zn zo)
                    go_enter Try.func7, Try.ntmps7
                    go_wp2_with fail
                    refine (sbegun_any _).mono ?_; rintro e w1 ⟨rfl, b1⟩
                    have B_1 := below_on (Below.refl _ w) (Nat.le_refl _) b1
                    have ra_1 := Row2.below ra b1
                    have rb_1 := Row2.below rb b1
                    have rc_1 := Row2.below rc b1
                    clear ra rb rc
                    clear b1
                    go_wp2_with fail
                    refine (pUnion_at la lb (Spn.ans 0 la lb) 0 a b ca cb _ ha hb rfl ze na nb ra_1 rb_1).mono ?_; rintro e w2 ⟨v2, rfl, o2, b2⟩
                    have B_2 := below_on B_1 (Nat.le_refl _) b2
                    have ra_2 := Row2.below ra_1 b2
                    have rb_2 := Row2.below rb_1 b2
                    have rc_2 := Row2.below rc_1 b2
                    clear B_1 ra_1 rb_1 rc_1
                    obtain ⟨a2, c2, hv2, nil2, row2⟩ := OwnS.row o2
                    subst hv2
                    clear o2 b2
                    go_wp2_with fail
                    refine (pUnion_at lb la (Spn.ans 0 lb la) 0 b a cb ca _ hb ha rfl zf nb na rb_2 ra_2).mono ?_; rintro e w3 ⟨v3, rfl, o3, b3⟩
                    have B_3 := below_on B_2 (Nat.le_refl _) b3
                    have ra_3 := Row2.below ra_2 b3
                    have rb_3 := Row2.below rb_2 b3
                    have rc_3 := Row2.below rc_2 b3
                    have AB_3 := Row2.below row2 b3
                    clear B_2 ra_2 rb_2 rc_2 row2
                    obtain ⟨a3, c3, hv3, nil3, row3⟩ := OwnS.row o3
                    subst hv3
                    clear o3 b3
                    go_wp2_with fail
                    refine (pMeet_at la lb (Spn.ans 1 la lb) 0 a b ca cb _ ha hb rfl zg na nb ra_3 rb_3).mono ?_; rintro e w4 ⟨v4, rfl, o4, b4⟩
                    have B_4 := below_on B_3 (Nat.le_refl _) b4
                    have ra_4 := Row2.below ra_3 b4
                    have rb_4 := Row2.below rb_3 b4
                    have rc_4 := Row2.below rc_3 b4
                    have AB_4 := Row2.below AB_3 b4
                    have BA_4 := Row2.below row3 b4
                    clear B_3 ra_3 rb_3 rc_3 AB_3 row3
                    obtain ⟨a4, c4, hv4, nil4, row4⟩ := OwnS.row o4
                    subst hv4
                    clear o4 b4
                    go_wp2_with fail
                    refine (pMeet_at lb la (Spn.ans 1 lb la) 0 b a cb ca _ hb ha rfl zh nb na rb_4 ra_4).mono ?_; rintro e w5 ⟨v5, rfl, o5, b5⟩
                    have B_5 := below_on B_4 (Nat.le_refl _) b5
                    have ra_5 := Row2.below ra_4 b5
                    have rb_5 := Row2.below rb_4 b5
                    have rc_5 := Row2.below rc_4 b5
                    have AB_5 := Row2.below AB_4 b5
                    have BA_5 := Row2.below BA_4 b5
                    have MAB_5 := Row2.below row4 b5
                    clear B_4 ra_4 rb_4 rc_4 AB_4 BA_4 row4
                    obtain ⟨a5, c5, hv5, nil5, row5⟩ := OwnS.row o5
                    subst hv5
                    clear o5 b5
                    go_wp2_with fail
                    refine (same_below (Spn.ans 0 la lb) (Spn.ans 0 lb la) true a2 a3 c2 c3 _ (ml.out 0 la lb) (ml.out 0 lb la) sAB.out AB_5 BA_5).mono ?_; rintro e w6 ⟨rfl, b6⟩
                    have B_6 := below_on B_5 (Nat.le_refl _) b6
                    have ra_6 := Row2.below ra_5 b6
                    have rb_6 := Row2.below rb_5 b6
                    have rc_6 := Row2.below rc_5 b6
                    have AB_6 := Row2.below AB_5 b6
                    have BA_6 := Row2.below BA_5 b6
                    have MAB_6 := Row2.below MAB_5 b6
                    have MBA_6 := Row2.below row5 b6
                    clear B_5 ra_5 rb_5 rc_5 AB_5 BA_5 MAB_5 row5
                    clear b6
                    go_wp2_with fail
                    refine (same_below (Spn.ans 1 la lb) (Spn.ans 1 lb la) true a4 a5 c4 c5 _ (ml.out 1 la lb) (ml.out 1 lb la) sM.out MAB_6 MBA_6).mono ?_; rintro e w7 ⟨rfl, b7⟩
                    have B_7 := below_on B_6 (Nat.le_refl _) b7
                    have ra_7 := Row2.below ra_6 b7
                    have rb_7 := Row2.below rb_6 b7
                    have rc_7 := Row2.below rc_6 b7
                    have AB_7 := Row2.below AB_6 b7
                    have BA_7 := Row2.below BA_6 b7
                    have MAB_7 := Row2.below MAB_6 b7
                    have MBA_7 := Row2.below MBA_6 b7
                    clear B_6 ra_6 rb_6 rc_6 AB_6 BA_6 MAB_6 MBA_6
                    clear b7
                    clear BA_7 MBA_7
                    go_wp2_with fail
                    refine (pMeet_at la lc (Spn.ans 1 la lc) 0 a c ca cc _ ha hc rfl zi na nc ra_7 rc_7).mono ?_; rintro e w8 ⟨v8, rfl, o8, b8⟩
                    have B_8 := below_on B_7 (Nat.le_refl _) b8
                    have ra_8 := Row2.below ra_7 b8
                    have rb_8 := Row2.below rb_7 b8
                    have rc_8 := Row2.below rc_7 b8
                    have AB_8 := Row2.below AB_7 b8
                    have MAB_8 := Row2.below MAB_7 b8
                    clear B_7 ra_7 rb_7 rc_7 AB_7 MAB_7
                    obtain ⟨a8, c8, hv8, nil8, row8⟩ := OwnS.row o8
                    subst hv8
                    clear o8 b8
                    go_wp2_with fail
                    refine (pMeet_at lb lc (Spn.ans 1 lb lc) 0 b c cb cc _ hb hc rfl zj nb nc rb_8 rc_8).mono ?_; rintro e w9 ⟨v9, rfl, o9, b9⟩
                    have B_9 := below_on B_8 (Nat.le_refl _) b9
                    have ra_9 := Row2.below ra_8 b9
                    have rb_9 := Row2.below rb_8 b9
                    have rc_9 := Row2.below rc_8 b9
                    have AB_9 := Row2.below AB_8 b9
                    have MAB_9 := Row2.below MAB_8 b9
                    have MAC_9 := Row2.below row8 b9
                    clear B_8 ra_8 rb_8 rc_8 AB_8 MAB_8 row8
                    obtain ⟨a9, c9, hv9, nil9, row9⟩ := OwnS.row o9
                    subst hv9
                    clear o9 b9
                    go_wp2_with fail
                    refine (pMeet_at (Spn.ans 0 la lb) lc (Spn.ans 1 (Spn.ans 0 la lb) lc) 0 a2 c c2 cc _ (ml.out 0 la lb) hc rfl zk nil2 nc AB_9 rc_9).mono ?_; rintro e w10 ⟨v10, rfl, o10, b10⟩
                    have B_10 := below_on B_9 (Nat.le_refl _) b10
                    have ra_10 := Row2.below ra_9 b10
                    have rb_10 := Row2.below rb_9 b10
                    have rc_10 := Row2.below rc_9 b10
                    have AB_10 := Row2.below AB_9 b10
                    have MAB_10 := Row2.below MAB_9 b10
                    have MAC_10 := Row2.below MAC_9 b10
                    have MBC_10 := Row2.below row9 b10
                    clear B_9 ra_9 rb_9 rc_9 AB_9 MAB_9 MAC_9 row9
                    obtain ⟨a10, c10, hv10, nil10, row10⟩ := OwnS.row o10
                    subst hv10
                    clear o10 b10
                    go_wp2_with fail
                    refine (pUnion_at (Spn.ans 1 la lc) (Spn.ans 1 lb lc) (Spn.ans 0 (Spn.ans 1 la lc) (Spn.ans 1 lb lc)) (Spn.code 0 (Spn.ans 1 la lc) (Spn.ans 1 lb lc)) a8 a9 c8 c9 _ (ml.out 1 la lc) (ml.out 1 lb lc) rfl rfl nil8 nil9 MAC_10 MBC_10).mono ?_; rintro e w11 ⟨v11, rfl, o11, b11⟩
                    have B_11 := below_on B_10 (Nat.le_refl _) b11
                    have ra_11 := Row2.below ra_10 b11
                    have rb_11 := Row2.below rb_10 b11
                    have rc_11 := Row2.below rc_10 b11
                    have AB_11 := Row2.below AB_10 b11
                    have MAB_11 := Row2.below MAB_10 b11
                    have MAC_11 := Row2.below MAC_10 b11
                    have MBC_11 := Row2.below MBC_10 b11
                    have X_11 := Row2.below row10 b11
                    clear B_10 ra_10 rb_10 rc_10 AB_10 MAB_10 MAC_10 MBC_10 row10
                    obtain ⟨a11, c11, hv11, nil11, row11⟩ := OwnS.row o11
                    subst hv11
                    clear o11 b11
                    go_wp2_with fail
                    refine (pMinus_at lc (Spn.ans 0 la lb) (Spn.ans 2 lc (Spn.ans 0 la lb)) 0 c a2 cc c2 _ hc (ml.out 0 la lb) rfl zm nc nil2 rc_11 AB_11).mono ?_; rintro e w12 ⟨v12, rfl, o12, b12⟩
                    have B_12 := below_on B_11 (Nat.le_refl _) b12
                    have ra_12 := Row2.below ra_11 b12
                    have rb_12 := Row2.below rb_11 b12
                    have rc_12 := Row2.below rc_11 b12
                    have AB_12 := Row2.below AB_11 b12
                    have MAB_12 := Row2.below MAB_11 b12
                    have MAC_12 := Row2.below MAC_11 b12
                    have MBC_12 := Row2.below MBC_11 b12
                    have X_12 := Row2.below X_11 b12
                    have Y_12 := Row2.below row11 b12
                    clear B_11 ra_11 rb_11 rc_11 AB_11 MAB_11 MAC_11 MBC_11 X_11 row11
                    obtain ⟨a12, c12, hv12, nil12, row12⟩ := OwnS.row o12
                    subst hv12
                    clear o12 b12
                    go_wp2_with fail
                    refine (pMinus_at lc la (Spn.ans 2 lc la) 0 c a cc ca _ hc ha rfl zn nc na rc_12 ra_12).mono ?_; rintro e w13 ⟨v13, rfl, o13, b13⟩
                    have B_13 := below_on B_12 (Nat.le_refl _) b13
                    have ra_13 := Row2.below ra_12 b13
                    have rb_13 := Row2.below rb_12 b13
                    have rc_13 := Row2.below rc_12 b13
                    have AB_13 := Row2.below AB_12 b13
                    have MAB_13 := Row2.below MAB_12 b13
                    have MAC_13 := Row2.below MAC_12 b13
                    have MBC_13 := Row2.below MBC_12 b13
                    have X_13 := Row2.below X_12 b13
                    have Y_13 := Row2.below Y_12 b13
                    have P_13 := Row2.below row12 b13
                    clear B_12 ra_12 rb_12 rc_12 AB_12 MAB_12 MAC_12 MBC_12 X_12 Y_12 row12
                    obtain ⟨a13, c13, hv13, nil13, row13⟩ := OwnS.row o13
                    subst hv13
                    clear o13 b13
                    go_wp2_with fail
                    refine (pMinus_at (Spn.ans 2 lc la) lb (Spn.ans 2 (Spn.ans 2 lc la) lb) 0 a13 b c13 cb _ (ml.out 2 lc la) hb rfl zo nil13 nb row13 rb_13).mono ?_; rintro e w14 ⟨v14, rfl, o14, b14⟩
                    have B_14 := below_on B_13 (Nat.le_refl _) b14
                    have ra_14 := Row2.below ra_13 b14
                    have rb_14 := Row2.below rb_13 b14
                    have rc_14 := Row2.below rc_13 b14
                    have AB_14 := Row2.below AB_13 b14
                    have MAB_14 := Row2.below MAB_13 b14
                    have MAC_14 := Row2.below MAC_13 b14
                    have MBC_14 := Row2.below MBC_13 b14
                    have X_14 := Row2.below X_13 b14
                    have Y_14 := Row2.below Y_13 b14
                    have P_14 := Row2.below P_13 b14
                    have Q_14 := Row2.below row13 b14
                    clear B_13 ra_13 rb_13 rc_13 AB_13 MAB_13 MAC_13 MBC_13 X_13 Y_13 P_13 row13
                    obtain ⟨a14, c14, hv14, nil14, row14⟩ := OwnS.row o14
                    subst hv14
                    clear o14 b14
                    go_wp2_with fail
                    refine (same_below (Spn.ans 2 lc (Spn.ans 0 la lb)) (Spn.ans 2 (Spn.ans 2 lc la) lb) true a12 a14 c12 c14 _ (ml.out 2 lc (Spn.ans 0 la lb)) (ml.out 2 (Spn.ans 2 lc la) lb) sP.out P_14 row14).mono ?_; rintro e w15 ⟨rfl, b15⟩
                    have B_15 := below_on B_14 (Nat.le_refl _) b15
                    have ra_15 := Row2.below ra_14 b15
                    have rb_15 := Row2.below rb_14 b15
                    have rc_15 := Row2.below rc_14 b15
                    have AB_15 := Row2.below AB_14 b15
                    have MAB_15 := Row2.below MAB_14 b15
                    have MAC_15 := Row2.below MAC_14 b15
                    have MBC_15 := Row2.below MBC_14 b15
                    have X_15 := Row2.below X_14 b15
                    have Y_15 := Row2.below Y_14 b15
                    have P_15 := Row2.below P_14 b15
                    have Q_15 := Row2.below Q_14 b15
                    have Z_15 := Row2.below row14 b15
                    clear B_14 ra_14 rb_14 rc_14 AB_14 MAB_14 MAC_14 MBC_14 X_14 Y_14 P_14 Q_14 row14
                    clear b15
                    go_wp2
                    go_ret
                    exact ⟨rfl, B_15⟩
                  · skip
                    have neo : (Spn.code 2 (Spn.ans 2 lc la) lb != 0) = true := by simpa using zo
                    have nqo : (Spn.code 2 (Spn.ans 2 lc la) lb == 0) = false := by simpa using zo
                    go_enter Try.func7, Try.ntmps7
                    go_wp2_with fail
                    refine (sbegun_any _).mono ?_; rintro e w1 ⟨rfl, b1⟩
                    have B_1 := below_on (Below.refl _ w) (Nat.le_refl _) b1
                    have ra_1 := Row2.below ra b1
                    have rb_1 := Row2.below rb b1
                    have rc_1 := Row2.below rc b1
                    clear ra rb rc
                    clear b1
                    go_wp2_with fail
                    refine (pUnion_at la lb (Spn.ans 0 la lb) 0 a b ca cb _ ha hb rfl ze na nb ra_1 rb_1).mono ?_; rintro e w2 ⟨v2, rfl, o2, b2⟩
                    have B_2 := below_on B_1 (Nat.le_refl _) b2
                    have ra_2 := Row2.below ra_1 b2
                    have rb_2 := Row2.below rb_1 b2
                    have rc_2 := Row2.below rc_1 b2
                    clear B_1 ra_1 rb_1 rc_1
                    obtain ⟨a2, c2, hv2, nil2, row2⟩ := OwnS.row o2
                    subst hv2
                    clear o2 b2
                    go_wp2_with fail
                    refine (pUnion_at lb la (Spn.ans 0 lb la) 0 b a cb ca _ hb ha rfl zf nb na rb_2 ra_2).mono ?_; rintro e w3 ⟨v3, rfl, o3, b3⟩
                    have B_3 := below_on B_2 (Nat.le_refl _) b3
                    have ra_3 := Row2.below ra_2 b3
                    have rb_3 := Row2.below rb_2 b3
                    have rc_3 := Row2.below rc_2 b3
                    have AB_3 := Row2.below row2 b3
                    clear B_2 ra_2 rb_2 rc_2 row2
                    obtain ⟨a3, c3, hv3, nil3, row3⟩ := OwnS.row o3
                    subst hv3
                    clear o3 b3
                    go_wp2_with fail
                    refine (pMeet_at la lb (Spn.ans 1 la lb) 0 a b ca cb _ ha hb rfl zg na nb ra_3 rb_3).mono ?_; rintro e w4 ⟨v4, rfl, o4, b4⟩
                    have B_4 := below_on B_3 (Nat.le_refl _) b4
                    have ra_4 := Row2.below ra_3 b4
                    have rb_4 := Row2.below rb_3 b4
                    have rc_4 := Row2.below rc_3 b4
                    have AB_4 := Row2.below AB_3 b4
                    have BA_4 := Row2.below row3 b4
                    clear B_3 ra_3 rb_3 rc_3 AB_3 row3
                    obtain ⟨a4, c4, hv4, nil4, row4⟩ := OwnS.row o4
                    subst hv4
                    clear o4 b4
                    go_wp2_with fail
                    refine (pMeet_at lb la (Spn.ans 1 lb la) 0 b a cb ca _ hb ha rfl zh nb na rb_4 ra_4).mono ?_; rintro e w5 ⟨v5, rfl, o5, b5⟩
                    have B_5 := below_on B_4 (Nat.le_refl _) b5
                    have ra_5 := Row2.below ra_4 b5
                    have rb_5 := Row2.below rb_4 b5
                    have rc_5 := Row2.below rc_4 b5
                    have AB_5 := Row2.below AB_4 b5
                    have BA_5 := Row2.below BA_4 b5
                    have MAB_5 := Row2.below row4 b5
                    clear B_4 ra_4 rb_4 rc_4 AB_4 BA_4 row4
                    obtain ⟨a5, c5, hv5, nil5, row5⟩ := OwnS.row o5
                    subst hv5
                    clear o5 b5
                    go_wp2_with fail
                    refine (same_below (Spn.ans 0 la lb) (Spn.ans 0 lb la) true a2 a3 c2 c3 _ (ml.out 0 la lb) (ml.out 0 lb la) sAB.out AB_5 BA_5).mono ?_; rintro e w6 ⟨rfl, b6⟩
                    have B_6 := below_on B_5 (Nat.le_refl _) b6
                    have ra_6 := Row2.below ra_5 b6
                    have rb_6 := Row2.below rb_5 b6
                    have rc_6 := Row2.below rc_5 b6
                    have AB_6 := Row2.below AB_5 b6
                    have BA_6 := Row2.below BA_5 b6
                    have MAB_6 := Row2.below MAB_5 b6
                    have MBA_6 := Row2.below row5 b6
                    clear B_5 ra_5 rb_5 rc_5 AB_5 BA_5 MAB_5 row5
                    clear b6
                    go_wp2_with fail
                    refine (same_below (Spn.ans 1 la lb) (Spn.ans 1 lb la) true a4 a5 c4 c5 _ (ml.out 1 la lb) (ml.out 1 lb la) sM.out MAB_6 MBA_6).mono ?_; rintro e w7 ⟨rfl, b7⟩
                    have B_7 := below_on B_6 (Nat.le_refl _) b7
                    have ra_7 := Row2.below ra_6 b7
                    have rb_7 := Row2.below rb_6 b7
                    have rc_7 := Row2.below rc_6 b7
                    have AB_7 := Row2.below AB_6 b7
                    have BA_7 := Row2.below BA_6 b7
                    have MAB_7 := Row2.below MAB_6 b7
                    have MBA_7 := Row2.below MBA_6 b7
                    clear B_6 ra_6 rb_6 rc_6 AB_6 BA_6 MAB_6 MBA_6
                    clear b7
                    clear BA_7 MBA_7
                    go_wp2_with fail
                    refine (pMeet_at la lc (Spn.ans 1 la lc) 0 a c ca cc _ ha hc rfl zi na nc ra_7 rc_7).mono ?_; rintro e w8 ⟨v8, rfl, o8, b8⟩
                    have B_8 := below_on B_7 (Nat.le_refl _) b8
                    have ra_8 := Row2.below ra_7 b8
                    have rb_8 := Row2.below rb_7 b8
                    have rc_8 := Row2.below rc_7 b8
                    have AB_8 := Row2.below AB_7 b8
                    have MAB_8 := Row2.below MAB_7 b8
                    clear B_7 ra_7 rb_7 rc_7 AB_7 MAB_7
                    obtain ⟨a8, c8, hv8, nil8, row8⟩ := OwnS.row o8
                    subst hv8
                    clear o8 b8
                    go_wp2_with fail
                    refine (pMeet_at lb lc (Spn.ans 1 lb lc) 0 b c cb cc _ hb hc rfl zj nb nc rb_8 rc_8).mono ?_; rintro e w9 ⟨v9, rfl, o9, b9⟩
                    have B_9 := below_on B_8 (Nat.le_refl _) b9
                    have ra_9 := Row2.below ra_8 b9
                    have rb_9 := Row2.below rb_8 b9
                    have rc_9 := Row2.below rc_8 b9
                    have AB_9 := Row2.below AB_8 b9
                    have MAB_9 := Row2.below MAB_8 b9
                    have MAC_9 := Row2.below row8 b9
                    clear B_8 ra_8 rb_8 rc_8 AB_8 MAB_8 row8
                    obtain ⟨a9, c9, hv9, nil9, row9⟩ := OwnS.row o9
                    subst hv9
                    clear o9 b9
                    go_wp2_with fail
                    refine (pMeet_at (Spn.ans 0 la lb) lc (Spn.ans 1 (Spn.ans 0 la lb) lc) 0 a2 c c2 cc _ (ml.out 0 la lb) hc rfl zk nil2 nc AB_9 rc_9).mono ?_; rintro e w10 ⟨v10, rfl, o10, b10⟩
                    have B_10 := below_on B_9 (Nat.le_refl _) b10
                    have ra_10 := Row2.below ra_9 b10
                    have rb_10 := Row2.below rb_9 b10
                    have rc_10 := Row2.below rc_9 b10
                    have AB_10 := Row2.below AB_9 b10
                    have MAB_10 := Row2.below MAB_9 b10
                    have MAC_10 := Row2.below MAC_9 b10
                    have MBC_10 := Row2.below row9 b10
                    clear B_9 ra_9 rb_9 rc_9 AB_9 MAB_9 MAC_9 row9
                    obtain ⟨a10, c10, hv10, nil10, row10⟩ := OwnS.row o10
                    subst hv10
                    clear o10 b10
                    go_wp2_with fail
                    refine (pUnion_at (Spn.ans 1 la lc) (Spn.ans 1 lb lc) (Spn.ans 0 (Spn.ans 1 la lc) (Spn.ans 1 lb lc)) (Spn.code 0 (Spn.ans 1 la lc) (Spn.ans 1 lb lc)) a8 a9 c8 c9 _ (ml.out 1 la lc) (ml.out 1 lb lc) rfl rfl nil8 nil9 MAC_10 MBC_10).mono ?_; rintro e w11 ⟨v11, rfl, o11, b11⟩
                    have B_11 := below_on B_10 (Nat.le_refl _) b11
                    have ra_11 := Row2.below ra_10 b11
                    have rb_11 := Row2.below rb_10 b11
                    have rc_11 := Row2.below rc_10 b11
                    have AB_11 := Row2.below AB_10 b11
                    have MAB_11 := Row2.below MAB_10 b11
                    have MAC_11 := Row2.below MAC_10 b11
                    have MBC_11 := Row2.below MBC_10 b11
                    have X_11 := Row2.below row10 b11
                    clear B_10 ra_10 rb_10 rc_10 AB_10 MAB_10 MAC_10 MBC_10 row10
                    obtain ⟨a11, c11, hv11, nil11, row11⟩ := OwnS.row o11
                    subst hv11
                    clear o11 b11
                    go_wp2_with fail
                    refine (pMinus_at lc (Spn.ans 0 la lb) (Spn.ans 2 lc (Spn.ans 0 la lb)) 0 c a2 cc c2 _ hc (ml.out 0 la lb) rfl zm nc nil2 rc_11 AB_11).mono ?_; rintro e w12 ⟨v12, rfl, o12, b12⟩
                    have B_12 := below_on B_11 (Nat.le_refl _) b12
                    have ra_12 := Row2.below ra_11 b12
                    have rb_12 := Row2.below rb_11 b12
                    have rc_12 := Row2.below rc_11 b12
                    have AB_12 := Row2.below AB_11 b12
                    have MAB_12 := Row2.below MAB_11 b12
                    have MAC_12 := Row2.below MAC_11 b12
                    have MBC_12 := Row2.below MBC_11 b12
                    have X_12 := Row2.below X_11 b12
                    have Y_12 := Row2.below row11 b12
                    clear B_11 ra_11 rb_11 rc_11 AB_11 MAB_11 MAC_11 MBC_11 X_11 row11
                    obtain ⟨a12, c12, hv12, nil12, row12⟩ := OwnS.row o12
                    subst hv12
                    clear o12 b12
                    go_wp2_with fail
                    refine (pMinus_at lc la (Spn.ans 2 lc la) 0 c a cc ca _ hc ha rfl zn nc na rc_12 ra_12).mono ?_; rintro e w13 ⟨v13, rfl, o13, b13⟩
                    have B_13 := below_on B_12 (Nat.le_refl _) b13
                    have ra_13 := Row2.below ra_12 b13
                    have rb_13 := Row2.below rb_12 b13
                    have rc_13 := Row2.below rc_12 b13
                    have AB_13 := Row2.below AB_12 b13
                    have MAB_13 := Row2.below MAB_12 b13
                    have MAC_13 := Row2.below MAC_12 b13
                    have MBC_13 := Row2.below MBC_12 b13
                    have X_13 := Row2.below X_12 b13
                    have Y_13 := Row2.below Y_12 b13
                    have P_13 := Row2.below row12 b13
                    clear B_12 ra_12 rb_12 rc_12 AB_12 MAB_12 MAC_12 MBC_12 X_12 Y_12 row12
                    obtain ⟨a13, c13, hv13, nil13, row13⟩ := OwnS.row o13
                    subst hv13
                    clear o13 b13
                    go_wp2_with fail
                    refine (pMinus_at (Spn.ans 2 lc la) lb (Spn.ans 2 (Spn.ans 2 lc la) lb) (Spn.code 2 (Spn.ans 2 lc la) lb) a13 b c13 cb _ (ml.out 2 lc la) hb rfl rfl nil13 nb row13 rb_13).mono ?_; rintro e w14 ⟨v14, rfl, o14, b14⟩
                    have B_14 := below_on B_13 (Nat.le_refl _) b14
                    have ra_14 := Row2.below ra_13 b14
                    have rb_14 := Row2.below rb_13 b14
                    have rc_14 := Row2.below rc_13 b14
                    have AB_14 := Row2.below AB_13 b14
                    have MAB_14 := Row2.below MAB_13 b14
                    have MAC_14 := Row2.below MAC_13 b14
                    have MBC_14 := Row2.below MBC_13 b14
                    have X_14 := Row2.below X_13 b14
                    have Y_14 := Row2.below Y_13 b14
                    have P_14 := Row2.below P_13 b14
                    have Q_14 := Row2.below row13 b14
                    clear B_13 ra_13 rb_13 rc_13 AB_13 MAB_13 MAC_13 MBC_13 X_13 Y_13 P_13 row13
                    obtain ⟨a14, c14, hv14, nil14, row14⟩ := OwnS.row o14
                    subst hv14
                    clear o14 b14
                    go_wp2
                    go_ret
                    exact ⟨rfl, B_14⟩
                · skip
                  have nen : (Spn.code 2 lc la != 0) = true := by simpa using zn
                  have nqn : (Spn.code 2 lc la == 0) = false := by simpa using zn
                  go_enter Try.func7, Try.ntmps7
                  go_wp2_with fail
                  refine (sbegun_any _).mono ?_; rintro e w1 ⟨rfl, b1⟩
                  have B_1 := below_on (Below.refl _ w) (Nat.le_refl _) b1
                  have ra_1 := Row2.below ra b1
                  have rb_1 := Row2.below rb b1
                  have rc_1 := Row2.below rc b1
                  clear ra rb rc
                  clear b1
                  go_wp2_with fail
                  refine (pUnion_at la lb (Spn.ans 0 la lb) 0 a b ca cb _ ha hb rfl ze na nb ra_1 rb_1).mono ?_; rintro e w2 ⟨v2, rfl, o2, b2⟩
                  have B_2 := below_on B_1 (Nat.le_refl _) b2
                  have ra_2 := Row2.below ra_1 b2
                  have rb_2 := Row2.below rb_1 b2
                  have rc_2 := Row2.below rc_1 b2
                  clear B_1 ra_1 rb_1 rc_1
                  obtain ⟨a2, c2, hv2, nil2, row2⟩ := OwnS.row o2
                  subst hv2
                  clear o2 b2
                  go_wp2_with fail
                  refine (pUnion_at lb la (Spn.ans 0 lb la) 0 b a cb ca _ hb ha rfl zf nb na rb_2 ra_2).mono ?_; rintro e w3 ⟨v3, rfl, o3, b3⟩
                  have B_3 := below_on B_2 (Nat.le_refl _) b3
                  have ra_3 := Row2.below ra_2 b3
                  have rb_3 := Row2.below rb_2 b3
                  have rc_3 := Row2.below rc_2 b3
                  have AB_3 := Row2.below row2 b3
                  clear B_2 ra_2 rb_2 rc_2 row2
                  obtain ⟨a3, c3, hv3, nil3, row3⟩ := OwnS.row o3
                  subst hv3
                  clear o3 b3
                  go_wp2_with fail
                  refine (pMeet_at la lb (Spn.ans 1 la lb) 0 a b ca cb _ ha hb rfl zg na nb ra_3 rb_3).mono ?_; rintro e w4 ⟨v4, rfl, o4, b4⟩
                  have B_4 := below_on B_3 (Nat.le_refl _) b4
                  have ra_4 := Row2.below ra_3 b4
                  have rb_4 := Row2.below rb_3 b4
                  have rc_4 := Row2.below rc_3 b4
                  have AB_4 := Row2.below AB_3 b4
                  have BA_4 := Row2.below row3 b4
                  clear B_3 ra_3 rb_3 rc_3 AB_3 row3
                  obtain ⟨a4, c4, hv4, nil4, row4⟩ := OwnS.row o4
                  subst hv4
                  clear o4 b4
                  go_wp2_with fail
                  refine (pMeet_at lb la (Spn.ans 1 lb la) 0 b a cb ca _ hb ha rfl zh nb na rb_4 ra_4).mono ?_; rintro e w5 ⟨v5, rfl, o5, b5⟩
                  have B_5 := below_on B_4 (Nat.le_refl _) b5
                  have ra_5 := Row2.below ra_4 b5
                  have rb_5 := Row2.below rb_4 b5
                  have rc_5 := Row2.below rc_4 b5
                  have AB_5 := Row2.below AB_4 b5
                  have BA_5 := Row2.below BA_4 b5
                  have MAB_5 := Row2.below row4 b5
                  clear B_4 ra_4 rb_4 rc_4 AB_4 BA_4 row4
                  obtain ⟨a5, c5, hv5, nil5, row5⟩ := OwnS.row o5
                  subst hv5
                  clear o5 b5
                  go_wp2_with fail
                  refine (same_below (Spn.ans 0 la lb) (Spn.ans 0 lb la) true a2 a3 c2 c3 _ (ml.out 0 la lb) (ml.out 0 lb la) sAB.out AB_5 BA_5).mono ?_; rintro e w6 ⟨rfl, b6⟩
                  have B_6 := below_on B_5 (Nat.le_refl _) b6
                  have ra_6 := Row2.below ra_5 b6
                  have rb_6 := Row2.below rb_5 b6
                  have rc_6 := Row2.below rc_5 b6
                  have AB_6 := Row2.below AB_5 b6
                  have BA_6 := Row2.below BA_5 b6
                  have MAB_6 := Row2.below MAB_5 b6
                  have MBA_6 := Row2.below row5 b6
                  clear B_5 ra_5 rb_5 rc_5 AB_5 BA_5 MAB_5 row5
                  clear b6
                  go_wp2_with fail
                  refine (same_below (Spn.ans 1 la lb) (Spn.ans 1 lb la) true a4 a5 c4 c5 _ (ml.out 1 la lb) (ml.out 1 lb la) sM.out MAB_6 MBA_6).mono ?_; rintro e w7 ⟨rfl, b7⟩
                  have B_7 := below_on B_6 (Nat.le_refl _) b7
                  have ra_7 := Row2.below ra_6 b7
                  have rb_7 := Row2.below rb_6 b7
                  have rc_7 := Row2.below rc_6 b7
                  have AB_7 := Row2.below AB_6 b7
                  have BA_7 := Row2.below BA_6 b7
                  have MAB_7 := Row2.below MAB_6 b7
                  have MBA_7 := Row2.below MBA_6 b7
                  clear B_6 ra_6 rb_6 rc_6 AB_6 BA_6 MAB_6 MBA_6
                  clear b7
                  clear BA_7 MBA_7
                  go_wp2_with fail
                  refine (pMeet_at la lc (Spn.ans 1 la lc) 0 a c ca cc _ ha hc rfl zi na nc ra_7 rc_7).mono ?_; rintro e w8 ⟨v8, rfl, o8, b8⟩
                  have B_8 := below_on B_7 (Nat.le_refl _) b8
                  have ra_8 := Row2.below ra_7 b8
                  have rb_8 := Row2.below rb_7 b8
                  have rc_8 := Row2.below rc_7 b8
                  have AB_8 := Row2.below AB_7 b8
                  have MAB_8 := Row2.below MAB_7 b8
                  clear B_7 ra_7 rb_7 rc_7 AB_7 MAB_7
                  obtain ⟨a8, c8, hv8, nil8, row8⟩ := OwnS.row o8
                  subst hv8
                  clear o8 b8
                  go_wp2_with fail
                  refine (pMeet_at lb lc (Spn.ans 1 lb lc) 0 b c cb cc _ hb hc rfl zj nb nc rb_8 rc_8).mono ?_; rintro e w9 ⟨v9, rfl, o9, b9⟩
                  have B_9 := below_on B_8 (Nat.le_refl _) b9
                  have ra_9 := Row2.below ra_8 b9
                  have rb_9 := Row2.below rb_8 b9
                  have rc_9 := Row2.below rc_8 b9
                  have AB_9 := Row2.below AB_8 b9
                  have MAB_9 := Row2.below MAB_8 b9
                  have MAC_9 := Row2.below row8 b9
                  clear B_8 ra_8 rb_8 rc_8 AB_8 MAB_8 row8
                  obtain ⟨a9, c9, hv9, nil9, row9⟩ := OwnS.row o9
                  subst hv9
                  clear o9 b9
                  go_wp2_with fail
                  refine (pMeet_at (Spn.ans 0 la lb) lc (Spn.ans 1 (Spn.ans 0 la lb) lc) 0 a2 c c2 cc _ (ml.out 0 la lb) hc rfl zk nil2 nc AB_9 rc_9).mono ?_; rintro e w10 ⟨v10, rfl, o10, b10⟩
                  have B_10 := below_on B_9 (Nat.le_refl _) b10
                  have ra_10 := Row2.below ra_9 b10
                  have rb_10 := Row2.below rb_9 b10
                  have rc_10 := Row2.below rc_9 b10
                  have AB_10 := Row2.below AB_9 b10
                  have MAB_10 := Row2.below MAB_9 b10
                  have MAC_10 := Row2.below MAC_9 b10
                  have MBC_10 := Row2.below row9 b10
                  clear B_9 ra_9 rb_9 rc_9 AB_9 MAB_9 MAC_9 row9
                  obtain ⟨a10, c10, hv10, nil10, row10⟩ := OwnS.row o10
                  subst hv10
                  clear o10 b10
                  go_wp2_with fail
                  refine (pUnion_at (Spn.ans 1 la lc) (Spn.ans 1 lb lc) (Spn.ans 0 (Spn.ans 1 la lc) (Spn.ans 1 lb lc)) (Spn.code 0 (Spn.ans 1 la lc) (Spn.ans 1 lb lc)) a8 a9 c8 c9 _ (ml.out 1 la lc) (ml.out 1 lb lc) rfl rfl nil8 nil9 MAC_10 MBC_10).mono ?_; rintro e w11 ⟨v11, rfl, o11, b11⟩
                  have B_11 := below_on B_10 (Nat.le_refl _) b11
                  have ra_11 := Row2.below ra_10 b11
                  have rb_11 := Row2.below rb_10 b11
                  have rc_11 := Row2.below rc_10 b11
                  have AB_11 := Row2.below AB_10 b11
                  have MAB_11 := Row2.below MAB_10 b11
                  have MAC_11 := Row2.below MAC_10 b11
                  have MBC_11 := Row2.below MBC_10 b11
                  have X_11 := Row2.below row10 b11
                  clear B_10 ra_10 rb_10 rc_10 AB_10 MAB_10 MAC_10 MBC_10 row10
                  obtain ⟨a11, c11, hv11, nil11, row11⟩ := OwnS.row o11
                  subst hv11
                  clear o11 b11
                  go_wp2_with fail
                  refine (pMinus_at lc (Spn.ans 0 la lb) (Spn.ans 2 lc (Spn.ans 0 la lb)) 0 c a2 cc c2 _ hc (ml.out 0 la lb) rfl zm nc nil2 rc_11 AB_11).mono ?_; rintro e w12 ⟨v12, rfl, o12, b12⟩
                  have B_12 := below_on B_11 (Nat.le_refl _) b12
                  have ra_12 := Row2.below ra_11 b12
                  have rb_12 := Row2.below rb_11 b12
                  have rc_12 := Row2.below rc_11 b12
                  have AB_12 := Row2.below AB_11 b12
                  have MAB_12 := Row2.below MAB_11 b12
                  have MAC_12 := Row2.below MAC_11 b12
                  have MBC_12 := Row2.below MBC_11 b12
                  have X_12 := Row2.below X_11 b12
                  have Y_12 := Row2.below row11 b12
                  clear B_11 ra_11 rb_11 rc_11 AB_11 MAB_11 MAC_11 MBC_11 X_11 row11
                  obtain ⟨a12, c12, hv12, nil12, row12⟩ := OwnS.row o12
                  subst hv12
                  clear o12 b12
                  go_wp2_with fail
                  refine (pMinus_at lc la (Spn.ans 2 lc la) (Spn.code 2 lc la) c a cc ca _ hc ha rfl rfl nc na rc_12 ra_12).mono ?_; rintro e w13 ⟨v13, rfl, o13, b13⟩
                  have B_13 := below_on B_12 (Nat.le_refl _) b13
                  have ra_13 := Row2.below ra_12 b13
                  have rb_13 := Row2.below rb_12 b13
                  have rc_13 := Row2.below rc_12 b13
                  have AB_13 := Row2.below AB_12 b13
                  have MAB_13 := Row2.below MAB_12 b13
                  have MAC_13 := Row2.below MAC_12 b13
                  have MBC_13 := Row2.below MBC_12 b13
                  have X_13 := Row2.below X_12 b13
                  have Y_13 := Row2.below Y_12 b13
                  have P_13 := Row2.below row12 b13
                  clear B_12 ra_12 rb_12 rc_12 AB_12 MAB_12 MAC_12 MBC_12 X_12 Y_12 row12
                  obtain ⟨a13, c13, hv13, nil13, row13⟩ := OwnS.row o13
                  subst hv13
                  clear o13 b13
                  go_wp2
                  go_ret
                  exact ⟨rfl, B_13⟩
              · skip
                have nem : (Spn.code 2 lc (Spn.ans 0 la lb) != 0) = true := by simpa using zm
                have nqm : (Spn.code 2 lc (Spn.ans 0 la lb) == 0) = false := by simpa using zm
                go_enter Try.func7, Try.ntmps7
                go_wp2_with fail
                refine (sbegun_any _).mono ?_; rintro e w1 ⟨rfl, b1⟩
                have B_1 := below_on (Below.refl _ w) (Nat.le_refl _) b1
                have ra_1 := Row2.below ra b1
                have rb_1 := Row2.below rb b1
                have rc_1 := Row2.below rc b1
                clear ra rb rc
                clear b1
                go_wp2_with fail
                refine (pUnion_at la lb (Spn.ans 0 la lb) 0 a b ca cb _ ha hb rfl ze na nb ra_1 rb_1).mono ?_; rintro e w2 ⟨v2, rfl, o2, b2⟩
                have B_2 := below_on B_1 (Nat.le_refl _) b2
                have ra_2 := Row2.below ra_1 b2
                have rb_2 := Row2.below rb_1 b2
                have rc_2 := Row2.below rc_1 b2
                clear B_1 ra_1 rb_1 rc_1
                obtain ⟨a2, c2, hv2, nil2, row2⟩ := OwnS.row o2
                subst hv2
                clear o2 b2
                go_wp2_with fail
                refine (pUnion_at lb la (Spn.ans 0 lb la) 0 b a cb ca _ hb ha rfl zf nb na rb_2 ra_2).mono ?_; rintro e w3 ⟨v3, rfl, o3, b3⟩
                have B_3 := below_on B_2 (Nat.le_refl _) b3
                have ra_3 := Row2.below ra_2 b3
                have rb_3 := Row2.below rb_2 b3
                have rc_3 := Row2.below rc_2 b3
                have AB_3 := Row2.below row2 b3
                clear B_2 ra_2 rb_2 rc_2 row2
                obtain ⟨a3, c3, hv3, nil3, row3⟩ := OwnS.row o3
                subst hv3
                clear o3 b3
                go_wp2_with fail
                refine (pMeet_at la lb (Spn.ans 1 la lb) 0 a b ca cb _ ha hb rfl zg na nb ra_3 rb_3).mono ?_; rintro e w4 ⟨v4, rfl, o4, b4⟩
                have B_4 := below_on B_3 (Nat.le_refl _) b4
                have ra_4 := Row2.below ra_3 b4
                have rb_4 := Row2.below rb_3 b4
                have rc_4 := Row2.below rc_3 b4
                have AB_4 := Row2.below AB_3 b4
                have BA_4 := Row2.below row3 b4
                clear B_3 ra_3 rb_3 rc_3 AB_3 row3
                obtain ⟨a4, c4, hv4, nil4, row4⟩ := OwnS.row o4
                subst hv4
                clear o4 b4
                go_wp2_with fail
                refine (pMeet_at lb la (Spn.ans 1 lb la) 0 b a cb ca _ hb ha rfl zh nb na rb_4 ra_4).mono ?_; rintro e w5 ⟨v5, rfl, o5, b5⟩
                have B_5 := below_on B_4 (Nat.le_refl _) b5
                have ra_5 := Row2.below ra_4 b5
                have rb_5 := Row2.below rb_4 b5
                have rc_5 := Row2.below rc_4 b5
                have AB_5 := Row2.below AB_4 b5
                have BA_5 := Row2.below BA_4 b5
                have MAB_5 := Row2.below row4 b5
                clear B_4 ra_4 rb_4 rc_4 AB_4 BA_4 row4
                obtain ⟨a5, c5, hv5, nil5, row5⟩ := OwnS.row o5
                subst hv5
                clear o5 b5
                go_wp2_with fail
                refine (same_below (Spn.ans 0 la lb) (Spn.ans 0 lb la) true a2 a3 c2 c3 _ (ml.out 0 la lb) (ml.out 0 lb la) sAB.out AB_5 BA_5).mono ?_; rintro e w6 ⟨rfl, b6⟩
                have B_6 := below_on B_5 (Nat.le_refl _) b6
                have ra_6 := Row2.below ra_5 b6
                have rb_6 := Row2.below rb_5 b6
                have rc_6 := Row2.below rc_5 b6
                have AB_6 := Row2.below AB_5 b6
                have BA_6 := Row2.below BA_5 b6
                have MAB_6 := Row2.below MAB_5 b6
                have MBA_6 := Row2.below row5 b6
                clear B_5 ra_5 rb_5 rc_5 AB_5 BA_5 MAB_5 row5
                clear b6
                go_wp2_with fail
                refine (same_below (Spn.ans 1 la lb) (Spn.ans 1 lb la) true a4 a5 c4 c5 _ (ml.out 1 la lb) (ml.out 1 lb la) sM.out MAB_6 MBA_6).mono ?_; rintro e w7 ⟨rfl, b7⟩
                have B_7 := below_on B_6 (Nat.le_refl _) b7
                have ra_7 := Row2.below ra_6 b7
                have rb_7 := Row2.below rb_6 b7
                have rc_7 := Row2.below rc_6 b7
                have AB_7 := Row2.below AB_6 b7
                have BA_7 := Row2.below BA_6 b7
                have MAB_7 := Row2.below MAB_6 b7
                have MBA_7 := Row2.below MBA_6 b7
                clear B_6 ra_6 rb_6 rc_6 AB_6 BA_6 MAB_6 MBA_6
                clear b7
                clear BA_7 MBA_7
                go_wp2_with fail
                refine (pMeet_at la lc (Spn.ans 1 la lc) 0 a c ca cc _ ha hc rfl zi na nc ra_7 rc_7).mono ?_; rintro e w8 ⟨v8, rfl, o8, b8⟩
                have B_8 := below_on B_7 (Nat.le_refl _) b8
                have ra_8 := Row2.below ra_7 b8
                have rb_8 := Row2.below rb_7 b8
                have rc_8 := Row2.below rc_7 b8
                have AB_8 := Row2.below AB_7 b8
                have MAB_8 := Row2.below MAB_7 b8
                clear B_7 ra_7 rb_7 rc_7 AB_7 MAB_7
                obtain ⟨a8, c8, hv8, nil8, row8⟩ := OwnS.row o8
                subst hv8
                clear o8 b8
                go_wp2_with fail
                refine (pMeet_at lb lc (Spn.ans 1 lb lc) 0 b c cb cc _ hb hc rfl zj nb nc rb_8 rc_8).mono ?_; rintro e w9 ⟨v9, rfl, o9, b9⟩
                have B_9 := below_on B_8 (Nat.le_refl _) b9
                have ra_9 := Row2.below ra_8 b9
                have rb_9 := Row2.below rb_8 b9
                have rc_9 := Row2.below rc_8 b9
                have AB_9 := Row2.below AB_8 b9
                have MAB_9 := Row2.below MAB_8 b9
                have MAC_9 := Row2.below row8 b9
                clear B_8 ra_8 rb_8 rc_8 AB_8 MAB_8 row8
                obtain ⟨a9, c9, hv9, nil9, row9⟩ := OwnS.row o9
                subst hv9
                clear o9 b9
                go_wp2_with fail
                refine (pMeet_at (Spn.ans 0 la lb) lc (Spn.ans 1 (Spn.ans 0 la lb) lc) 0 a2 c c2 cc _ (ml.out 0 la lb) hc rfl zk nil2 nc AB_9 rc_9).mono ?_; rintro e w10 ⟨v10, rfl, o10, b10⟩
                have B_10 := below_on B_9 (Nat.le_refl _) b10
                have ra_10 := Row2.below ra_9 b10
                have rb_10 := Row2.below rb_9 b10
                have rc_10 := Row2.below rc_9 b10
                have AB_10 := Row2.below AB_9 b10
                have MAB_10 := Row2.below MAB_9 b10
                have MAC_10 := Row2.below MAC_9 b10
                have MBC_10 := Row2.below row9 b10
                clear B_9 ra_9 rb_9 rc_9 AB_9 MAB_9 MAC_9 row9
                obtain ⟨a10, c10, hv10, nil10, row10⟩ := OwnS.row o10
                subst hv10
                clear o10 b10
                go_wp2_with fail
                refine (pUnion_at (Spn.ans 1 la lc) (Spn.ans 1 lb lc) (Spn.ans 0 (Spn.ans 1 la lc) (Spn.ans 1 lb lc)) (Spn.code 0 (Spn.ans 1 la lc) (Spn.ans 1 lb lc)) a8 a9 c8 c9 _ (ml.out 1 la lc) (ml.out 1 lb lc) rfl rfl nil8 nil9 MAC_10 MBC_10).mono ?_; rintro e w11 ⟨v11, rfl, o11, b11⟩
                have B_11 := below_on B_10 (Nat.le_refl _) b11
                have ra_11 := Row2.below ra_10 b11
                have rb_11 := Row2.below rb_10 b11
                have rc_11 := Row2.below rc_10 b11
                have AB_11 := Row2.below AB_10 b11
                have MAB_11 := Row2.below MAB_10 b11
                have MAC_11 := Row2.below MAC_10 b11
                have MBC_11 := Row2.below MBC_10 b11
                have X_11 := Row2.below row10 b11
                clear B_10 ra_10 rb_10 rc_10 AB_10 MAB_10 MAC_10 MBC_10 row10
                obtain ⟨a11, c11, hv11, nil11, row11⟩ := OwnS.row o11
                subst hv11
                clear o11 b11
                go_wp2_with fail
                refine (pMinus_at lc (Spn.ans 0 la lb) (Spn.ans 2 lc (Spn.ans 0 la lb)) (Spn.code 2 lc (Spn.ans 0 la lb)) c a2 cc c2 _ hc (ml.out 0 la lb) rfl rfl nc nil2 rc_11 AB_11).mono ?_; rintro e w12 ⟨v12, rfl, o12, b12⟩
                have B_12 := below_on B_11 (Nat.le_refl _) b12
                have ra_12 := Row2.below ra_11 b12
                have rb_12 := Row2.below rb_11 b12
                have rc_12 := Row2.below rc_11 b12
                have AB_12 := Row2.below AB_11 b12
                have MAB_12 := Row2.below MAB_11 b12
                have MAC_12 := Row2.below MAC_11 b12
                have MBC_12 := Row2.below MBC_11 b12
                have X_12 := Row2.below X_11 b12
                have Y_12 := Row2.below row11 b12
                clear B_11 ra_11 rb_11 rc_11 AB_11 MAB_11 MAC_11 MBC_11 X_11 row11
                obtain ⟨a12, c12, hv12, nil12, row12⟩ := OwnS.row o12
                subst hv12
                clear o12 b12
                go_wp2_with fail
                refine (pMinus_at lc la (Spn.ans 2 lc la) (Spn.code 2 lc la) c a cc ca _ hc ha rfl rfl nc na rc_12 ra_12).mono ?_; rintro e w13 ⟨v13, rfl, o13, b13⟩
                have B_13 := below_on B_12 (Nat.le_refl _) b13
                have ra_13 := Row2.below ra_12 b13
                have rb_13 := Row2.below rb_12 b13
                have rc_13 := Row2.below rc_12 b13
                have AB_13 := Row2.below AB_12 b13
                have MAB_13 := Row2.below MAB_12 b13
                have MAC_13 := Row2.below MAC_12 b13
                have MBC_13 := Row2.below MBC_12 b13
                have X_13 := Row2.below X_12 b13
                have Y_13 := Row2.below Y_12 b13
                have P_13 := Row2.below row12 b13
                clear B_12 ra_12 rb_12 rc_12 AB_12 MAB_12 MAC_12 MBC_12 X_12 Y_12 row12
                obtain ⟨a13, c13, hv13, nil13, row13⟩ := OwnS.row o13
                subst hv13
                clear o13 b13
                go_wp2
                go_ret
                exact ⟨rfl, B_13⟩
          · skip
            have nek : (Spn.code 1 (Spn.ans 0 la lb) lc != 0) = true := by simpa using zk
            have nqk : (Spn.code 1 (Spn.ans 0 la lb) lc == 0) = false := by simpa using zk
            by_cases zm : Spn.code 2 lc (Spn.ans 0 la lb) = 0
            · skip
              by_cases zn : Spn.code 2 lc la = 0
              · skip
                by_cases zo : Spn.code 2 (Spn.ans 2 lc la) lb = 0
                · skip
                  have sP : Hid (decide (Spn.ans 2 lc (Spn.ans 0 la lb) = Spn.ans 2 (Spn.ans 2 lc la) lb) = true) := decide_eq_true (Spn.morgan_eq la lb lc ze zm zn zo)
                  go_enter Try.func7, Try.ntmps7
                  go_wp2_with fail
                  refine (sbegun_any _).mono ?_; rintro e w1 ⟨rfl, b1⟩
                  have B_1 := below_on (Below.refl _ w) (Nat.le_refl _) b1
                  have ra_1 := Row2.below ra b1
                  have rb_1 := Row2.below rb b1
                  have rc_1 := Row2.below rc b1
                  clear ra rb rc
                  clear b1
                  go_wp2_with fail
                  refine (pUnion_at la lb (Spn.ans 0 la lb) 0 a b ca cb _ ha hb rfl ze na nb ra_1 rb_1).mono ?_; rintro e w2 ⟨v2, rfl, o2, b2⟩
                  have B_2 := below_on B_1 (Nat.le_refl _) b2
                  have ra_2 := Row2.below ra_1 b2
                  have rb_2 := Row2.below rb_1 b2
                  have rc_2 := Row2.below rc_1 b2
                  clear B_1 ra_1 rb_1 rc_1
                  obtain ⟨a2, c2, hv2, nil2, row2⟩ := OwnS.row o2
                  subst hv2
                  clear o2 b2
                  go_wp2_with fail
                  refine (pUnion_at lb la (Spn.ans 0 lb la) 0 b a cb ca _ hb ha rfl zf nb na rb_2 ra_2).mono ?_; rintro e w3 ⟨v3, rfl, o3, b3⟩
                  have B_3 := below_on B_2 (Nat.le_refl _) b3
                  have ra_3 := Row2.below ra_2 b3
                  have rb_3 := Row2.below rb_2 b3
                  have rc_3 := Row2.below rc_2 b3
                  have AB_3 := Row2.below row2 b3
                  clear B_2 ra_2 rb_2 rc_2 row2
                  obtain ⟨a3, c3, hv3, nil3, row3⟩ := OwnS.row o3
                  subst hv3
                  clear o3 b3
                  go_wp2_with fail
                  refine (pMeet_at la lb (Spn.ans 1 la lb) 0 a b ca cb _ ha hb rfl zg na nb ra_3 rb_3).mono ?_; rintro e w4 ⟨v4, rfl, o4, b4⟩
                  have B_4 := below_on B_3 (Nat.le_refl _) b4
                  have ra_4 := Row2.below ra_3 b4
                  have rb_4 := Row2.below rb_3 b4
                  have rc_4 := Row2.below rc_3 b4
                  have AB_4 := Row2.below AB_3 b4
                  have BA_4 := Row2.below row3 b4
                  clear B_3 ra_3 rb_3 rc_3 AB_3 row3
                  obtain ⟨a4, c4, hv4, nil4, row4⟩ := OwnS.row o4
                  subst hv4
                  clear o4 b4
                  go_wp2_with fail
                  refine (pMeet_at lb la (Spn.ans 1 lb la) 0 b a cb ca _ hb ha rfl zh nb na rb_4 ra_4).mono ?_; rintro e w5 ⟨v5, rfl, o5, b5⟩
                  have B_5 := below_on B_4 (Nat.le_refl _) b5
                  have ra_5 := Row2.below ra_4 b5
                  have rb_5 := Row2.below rb_4 b5
                  have rc_5 := Row2.below rc_4 b5
                  have AB_5 := Row2.below AB_4 b5
                  have BA_5 := Row2.below BA_4 b5
                  have MAB_5 := Row2.below row4 b5
                  clear B_4 ra_4 rb_4 rc_4 AB_4 BA_4 row4
                  obtain ⟨a5, c5, hv5, nil5, row5⟩ := OwnS.row o5
                  subst hv5
                  clear o5 b5
                  go_wp2_with fail
                  refine (same_below (Spn.ans 0 la lb) (Spn.ans 0 lb la) true a2 a3 c2 c3 _ (ml.out 0 la lb) (ml.out 0 lb la) sAB.out AB_5 BA_5).mono ?_; rintro e w6 ⟨rfl, b6⟩
                  have B_6 := below_on B_5 (Nat.le_refl _) b6
                  have ra_6 := Row2.below ra_5 b6
                  have rb_6 := Row2.below rb_5 b6
                  have rc_6 := Row2.below rc_5 b6
                  have AB_6 := Row2.below AB_5 b6
                  have BA_6 := Row2.below BA_5 b6
                  have MAB_6 := Row2.below MAB_5 b6
                  have MBA_6 := Row2.below row5 b6
                  clear B_5 ra_5 rb_5 rc_5 AB_5 BA_5 MAB_5 row5
                  clear b6
                  go_wp2_with fail
                  refine (same_below (Spn.ans 1 la lb) (Spn.ans 1 lb la) true a4 a5 c4 c5 _ (ml.out 1 la lb) (ml.out 1 lb la) sM.out MAB_6 MBA_6).mono ?_; rintro e w7 ⟨rfl, b7⟩
                  have B_7 := below_on B_6 (Nat.le_refl _) b7
                  have ra_7 := Row2.below ra_6 b7
                  have rb_7 := Row2.below rb_6 b7
                  have rc_7 := Row2.below rc_6 b7
                  have AB_7 := Row2.below AB_6 b7
                  have BA_7 := Row2.below BA_6 b7
                  have MAB_7 := Row2.below MAB_6 b7
                  have MBA_7 := Row2.below MBA_6 b7
                  clear B_6 ra_6 rb_6 rc_6 AB_6 BA_6 MAB_6 MBA_6
                  clear b7
                  clear BA_7 MBA_7
                  go_wp2_with fail
                  refine (pMeet_at la lc (Spn.ans 1 la lc) 0 a c ca cc _ ha hc rfl zi na nc ra_7 rc_7).mono ?_; rintro e w8 ⟨v8, rfl, o8, b8⟩
                  have B_8 := below_on B_7 (Nat.le_refl _) b8
                  have ra_8 := Row2.below ra_7 b8
                  have rb_8 := Row2.below rb_7 b8
                  have rc_8 := Row2.below rc_7 b8
                  have AB_8 := Row2.below AB_7 b8
                  have MAB_8 := Row2.below MAB_7 b8
                  clear B_7 ra_7 rb_7 rc_7 AB_7 MAB_7
                  obtain ⟨a8, c8, hv8, nil8, row8⟩ := OwnS.row o8
                  subst hv8
                  clear o8 b8
                  go_wp2_with fail
                  refine (pMeet_at lb lc (Spn.ans 1 lb lc) 0 b c cb cc _ hb hc rfl zj nb nc rb_8 rc_8).mono ?_; rintro e w9 ⟨v9, rfl, o9, b9⟩
                  have B_9 := below_on B_8 (Nat.le_refl _) b9
                  have ra_9 := Row2.below ra_8 b9
                  have rb_9 := Row2.below rb_8 b9
                  have rc_9 := Row2.below rc_8 b9
                  have AB_9 := Row2.below AB_8 b9
                  have MAB_9 := Row2.below MAB_8 b9
                  have MAC_9 := Row2.below row8 b9
                  clear B_8 ra_8 rb_8 rc_8 AB_8 MAB_8 row8
                  obtain ⟨a9, c9, hv9, nil9, row9⟩ := OwnS.row o9
                  subst hv9
                  clear o9 b9
                  go_wp2_with fail
                  refine (pMeet_at (Spn.ans 0 la lb) lc (Spn.ans 1 (Spn.ans 0 la lb) lc) (Spn.code 1 (Spn.ans 0 la lb) lc) a2 c c2 cc _ (ml.out 0 la lb) hc rfl rfl nil2 nc AB_9 rc_9).mono ?_; rintro e w10 ⟨v10, rfl, o10, b10⟩
                  have B_10 := below_on B_9 (Nat.le_refl _) b10
                  have ra_10 := Row2.below ra_9 b10
                  have rb_10 := Row2.below rb_9 b10
                  have rc_10 := Row2.below rc_9 b10
                  have AB_10 := Row2.below AB_9 b10
                  have MAB_10 := Row2.below MAB_9 b10
                  have MAC_10 := Row2.below MAC_9 b10
                  have MBC_10 := Row2.below row9 b10
                  clear B_9 ra_9 rb_9 rc_9 AB_9 MAB_9 MAC_9 row9
                  obtain ⟨a10, c10, hv10, nil10, row10⟩ := OwnS.row o10
                  subst hv10
                  clear o10 b10
                  go_wp2_with fail
                  refine (pUnion_at (Spn.ans 1 la lc) (Spn.ans 1 lb lc) (Spn.ans 0 (Spn.ans 1 la lc) (Spn.ans 1 lb lc)) (Spn.code 0 (Spn.ans 1 la lc) (Spn.ans 1 lb lc)) a8 a9 c8 c9 _ (ml.out 1 la lc) (ml.out 1 lb lc) rfl rfl nil8 nil9 MAC_10 MBC_10).mono ?_; rintro e w11 ⟨v11, rfl, o11, b11⟩
                  have B_11 := below_on B_10 (Nat.le_refl _) b11
                  have ra_11 := Row2.below ra_10 b11
                  have rb_11 := Row2.below rb_10 b11
                  have rc_11 := Row2.below rc_10 b11
                  have AB_11 := Row2.below AB_10 b11
                  have MAB_11 := Row2.below MAB_10 b11
                  have MAC_11 := Row2.below MAC_10 b11
                  have MBC_11 := Row2.below MBC_10 b11
                  have X_11 := Row2.below row10 b11
                  clear B_10 ra_10 rb_10 rc_10 AB_10 MAB_10 MAC_10 MBC_10 row10
                  obtain ⟨a11, c11, hv11, nil11, row11⟩ := OwnS.row o11
                  subst hv11
                  clear o11 b11
                  go_wp2_with fail
                  refine (pMinus_at lc (Spn.ans 0 la lb) (Spn.ans 2 lc (Spn.ans 0 la lb)) 0 c a2 cc c2 _ hc (ml.out 0 la lb) rfl zm nc nil2 rc_11 AB_11).mono ?_; rintro e w12 ⟨v12, rfl, o12, b12⟩
                  have B_12 := below_on B_11 (Nat.le_refl _) b12
                  have ra_12 := Row2.below ra_11 b12
                  have rb_12 := Row2.below rb_11 b12
                  have rc_12 := Row2.below rc_11 b12
                  have AB_12 := Row2.below AB_11 b12
                  have MAB_12 := Row2.below MAB_11 b12
                  have MAC_12 := Row2.below MAC_11 b12
                  have MBC_12 := Row2.below MBC_11 b12
                  have X_12 := Row2.below X_11 b12
                  have Y_12 := Row2.below row11 b12
                  clear B_11 ra_11 rb_11 rc_11 AB_11 MAB_11 MAC_11 MBC_11 X_11 row11
                  obtain ⟨a12, c12, hv12, nil12, row12⟩ := OwnS.row o12
                  subst hv12
                  clear o12 b12
                  go_wp2_with fail
                  refine (pMinus_at lc la (Spn.ans 2 lc la) 0 c a cc ca _ hc ha rfl zn nc na rc_12 ra_12).mono ?_; rintro e w13 ⟨v13, rfl, o13, b13⟩
                  have B_13 := below_on B_12 (Nat.le_refl _) b13
                  have ra_13 := Row2.below ra_12 b13
                  have rb_13 := Row2.below rb_12 b13
                  have rc_13 := Row2.below rc_12 b13
                  have AB_13 := Row2.below AB_12 b13
                  have MAB_13 := Row2.below MAB_12 b13
                  have MAC_13 := Row2.below MAC_12 b13
                  have MBC_13 := Row2.below MBC_12 b13
                  have X_13 := Row2.below X_12 b13
                  have Y_13 := Row2.below Y_12 b13
                  have P_13 := Row2.below row12 b13
                  clear B_12 ra_12 rb_12 rc_12 AB_12 MAB_12 MAC_12 MBC_12 X_12 Y_12 row12
                  obtain ⟨a13, c13, hv13, nil13, row13⟩ := OwnS.row o13
                  subst hv13
                  clear o13 b13
                  go_wp2_with fail
                  refine (pMinus_at (Spn.ans 2 lc la) lb (Spn.ans 2 (Spn.ans 2 lc la) lb) 0 a13 b c13 cb _ (ml.out 2 lc la) hb rfl zo nil13 nb row13 rb_13).mono ?_; rintro e w14 ⟨v14, rfl, o14, b14⟩
                  have B_14 := below_on B_13 (Nat.le_refl _) b14
                  have ra_14 := Row2.below ra_13 b14
                  have rb_14 := Row2.below rb_13 b14
                  have rc_14 := Row2.below rc_13 b14
                  have AB_14 := Row2.below AB_13 b14
                  have MAB_14 := Row2.below MAB_13 b14
                  have MAC_14 := Row2.below MAC_13 b14
                  have MBC_14 := Row2.below MBC_13 b14
                  have X_14 := Row2.below X_13 b14
                  have Y_14 := Row2.below Y_13 b14
                  have P_14 := Row2.below P_13 b14
                  have Q_14 := Row2.below row13 b14
                  clear B_13 ra_13 rb_13 rc_13 AB_13 MAB_13 MAC_13 MBC_13 X_13 Y_13 P_13 row13
                  obtain ⟨a14, c14, hv14, nil14, row14⟩ := OwnS.row o14
                  subst hv14
                  clear o14 b14
                  go_wp2_with fail
                  refine (same_below (Spn.ans 2 lc (Spn.ans 0 la lb)) (Spn.ans 2 (Spn.ans 2 lc la) lb) true a12 a14 c12 c14 _ (ml.out 2 lc (Spn.ans 0 la lb)) (ml.out 2 (Spn.ans 2 lc la) lb) sP.out P_14 row14).mono ?_; rintro e w15 ⟨rfl, b15⟩
                  have B_15 := below_on B_14 (Nat.le_refl _) b15
                  have ra_15 := Row2.below ra_14 b15
                  have rb_15 := Row2.below rb_14 b15
                  have rc_15 := Row2.below rc_14 b15
                  have AB_15 := Row2.below AB_14 b15
                  have MAB_15 := Row2.below MAB_14 b15
                  have MAC_15 := Row2.below MAC_14 b15
                  have MBC_15 := Row2.below MBC_14 b15
                  have X_15 := Row2.below X_14 b15
                  have Y_15 := Row2.below Y_14 b15
                  have P_15 := Row2.below P_14 b15
                  have Q_15 := Row2.below Q_14 b15
                  have Z_15 := Row2.below row14 b15
                  clear B_14 ra_14 rb_14 rc_14 AB_14 MAB_14 MAC_14 MBC_14 X_14 Y_14 P_14 Q_14 row14
                  clear b15
                  go_wp2
                  go_ret
                  exact ⟨rfl, B_15⟩
                · skip
                  have neo : (Spn.code 2 (Spn.ans 2 lc la) lb != 0) = true := by simpa using zo
                  have nqo : (Spn.code 2 (Spn.ans 2 lc la) lb == 0) = false := by simpa using zo
                  go_enter Try.func7, Try.ntmps7
                  go_wp2_with fail
                  refine (sbegun_any _).mono ?_; rintro e w1 ⟨rfl, b1⟩
                  have B_1 := below_on (Below.refl _ w) (Nat.le_refl _) b1
                  have ra_1 := Row2.below ra b1
                  have rb_1 := Row2.below rb b1
                  have rc_1 := Row2.below rc b1
                  clear ra rb rc
                  clear b1
                  go_wp2_with fail
                  refine (pUnion_at la lb (Spn.ans 0 la lb) 0 a b ca cb _ ha hb rfl ze na nb ra_1 rb_1).mono ?_; rintro e w2 ⟨v2, rfl, o2, b2⟩
                  have B_2 := below_on B_1 (Nat.le_refl _) b2
                  have ra_2 := Row2.below ra_1 b2
                  have rb_2 := Row2.below rb_1 b2
                  have rc_2 := Row2.below rc_1 b2
                  clear B_1 ra_1 rb_1 rc_1
                  obtain ⟨a2, c2, hv2, nil2, row2⟩ := OwnS.row o2
                  subst hv2
                  clear o2 b2
                  go_wp2_with fail
                  refine (pUnion_at lb la (Spn.ans 0 lb la) 0 b a cb ca _ hb ha rfl zf nb na rb_2 ra_2).mono ?_; rintro e w3 ⟨v3, rfl, o3, b3⟩
                  have B_3 := below_on B_2 (Nat.le_refl _) b3
                  have ra_3 := Row2.below ra_2 b3
                  have rb_3 := Row2.below rb_2 b3
                  have rc_3 := Row2.below rc_2 b3
                  have AB_3 := Row2.below row2 b3
                  clear B_2 ra_2 rb_2 rc_2 row2
                  obtain ⟨a3, c3, hv3, nil3, row3⟩ := OwnS.row o3
                  subst hv3
                  clear o3 b3
                  go_wp2_with fail
                  refine (pMeet_at la lb (Spn.ans 1 la lb) 0 a b ca cb _ ha hb rfl zg na nb ra_3 rb_3).mono ?_; rintro e w4 ⟨v4, rfl, o4, b4⟩
                  have B_4 := below_on B_3 (Nat.le_refl _) b4
                  have ra_4 := Row2.below ra_3 b4
                  have rb_4 := Row2.below rb_3 b4
                  have rc_4 := Row2.below rc_3 b4
                  have AB_4 := Row2.below AB_3 b4
                  have BA_4 := Row2.below row3 b4
                  clear B_3 ra_3 rb_3 rc_3 AB_3 row3
                  obtain ⟨a4, c4, hv4, nil4, row4⟩ := OwnS.row o4
                  subst hv4
                  clear o4 b4
                  go_wp2_with fail
                  refine (pMeet_at lb la (Spn.ans 1 lb la) 0 b a cb ca _ hb ha rfl zh nb na rb_4 ra_4).mono ?_; rintro e w5 ⟨v5, rfl, o5, b5⟩
                  have B_5 := below_on B_4 (Nat.le_refl _) b5
                  have ra_5 := Row2.below ra_4 b5
                  have rb_5 := Row2.below rb_4 b5
                  have rc_5 := Row2.below rc_4 b5
                  have AB_5 := Row2.below AB_4 b5
                  have BA_5 := Row2.below BA_4 b5
                  have MAB_5 := Row2.below row4 b5
                  clear B_4 ra_4 rb_4 rc_4 AB_4 BA_4 row4
                  obtain ⟨a5, c5, hv5, nil5, row5⟩ := OwnS.row o5
                  subst hv5
                  clear o5 b5
                  go_wp2_with fail
                  refine (same_below (Spn.ans 0 la lb) (Spn.ans 0 lb la) true a2 a3 c2 c3 _ (ml.out 0 la lb) (ml.out 0 lb la) sAB.out AB_5 BA_5).mono ?_; rintro e w6 ⟨rfl, b6⟩
                  have B_6 := below_on B_5 (Nat.le_refl _) b6
                  have ra_6 := Row2.below ra_5 b6
                  have rb_6 := Row2.below rb_5 b6
                  have rc_6 := Row2.below rc_5 b6
                  have AB_6 := Row2.below AB_5 b6
                  have BA_6 := Row2.below BA_5 b6
                  have MAB_6 := Row2.below MAB_5 b6
                  have MBA_6 := Row2.below row5 b6
                  clear B_5 ra_5 rb_5 rc_5 AB_5 BA_5 MAB_5 row5
                  clear b6
                  go_wp2_with fail
                  refine (same_below (Spn.ans 1 la lb) (Spn.ans 1 lb la) true a4 a5 c4 c5 _ (ml.out 1 la lb) (ml.out 1 lb la) sM.out MAB_6 MBA_6).mono ?_; rintro e w7 ⟨rfl, b7⟩
                  have B_7 := below_on B_6 (Nat.le_refl _) b7
                  have ra_7 := Row2.below ra_6 b7
                  have rb_7 := Row2.below rb_6 b7
                  have rc_7 := Row2.below rc_6 b7
                  have AB_7 := Row2.below AB_6 b7
                  have BA_7 := Row2.below BA_6 b7
                  have MAB_7 := Row2.below MAB_6 b7
                  have MBA_7 := Row2.below MBA_6 b7
                  clear B_6 ra_6 rb_6 rc_6 AB_6 BA_6 MAB_6 MBA_6
                  clear b7
                  clear BA_7 MBA_7
                  go_wp2_with fail
                  refine (pMeet_at la lc (Spn.ans 1 la lc) 0 a c ca cc _ ha hc rfl zi na nc ra_7 rc_7).mono ?_; rintro e w8 ⟨v8, rfl, o8, b8⟩
                  have B_8 := below_on B_7 (Nat.le_refl _) b8
                  have ra_8 := Row2.below ra_7 b8
                  have rb_8 := Row2.below rb_7 b8
                  have rc_8 := Row2.below rc_7 b8
                  have AB_8 := Row2.below AB_7 b8
                  have MAB_8 := Row2.below MAB_7 b8
                  clear B_7 ra_7 rb_7 rc_7 AB_7 MAB_7
                  obtain ⟨a8, c8, hv8, nil8, row8⟩ := OwnS.row o8
                  subst hv8
                  clear o8 b8
                  go_wp2_with fail
                  refine (pMeet_at lb lc (Spn.ans 1 lb lc) 0 b c cb cc _ hb hc rfl zj nb nc rb_8 rc_8).mono ?_; rintro e w9 ⟨v9, rfl, o9, b9⟩
                  have B_9 := below_on B_8 (Nat.le_refl _) b9
                  have ra_9 := Row2.below ra_8 b9
                  have rb_9 := Row2.below rb_8 b9
                  have rc_9 := Row2.below rc_8 b9
                  have AB_9 := Row2.below AB_8 b9
                  have MAB_9 := Row2.below MAB_8 b9
                  have MAC_9 := Row2.below row8 b9
                  clear B_8 ra_8 rb_8 rc_8 AB_8 MAB_8 row8
                  obtain ⟨a9, c9, hv9, nil9, row9⟩ := OwnS.row o9
                  subst hv9
                  clear o9 b9
                  go_wp2_with fail
                  refine (pMeet_at (Spn.ans 0 la lb) lc (Spn.ans 1 (Spn.ans 0 la lb) lc) (Spn.code 1 (Spn.ans 0 la lb) lc) a2 c c2 cc _ (ml.out 0 la lb) hc rfl rfl nil2 nc AB_9 rc_9).mono ?_; rintro e w10 ⟨v10, rfl, o10, b10⟩
                  have B_10 := below_on B_9 (Nat.le_refl _) b10
                  have ra_10 := Row2.below ra_9 b10
                  have rb_10 := Row2.below rb_9 b10
                  have rc_10 := Row2.below rc_9 b10
                  have AB_10 := Row2.below AB_9 b10
                  have MAB_10 := Row2.below MAB_9 b10
                  have MAC_10 := Row2.below MAC_9 b10
                  have MBC_10 := Row2.below row9 b10
                  clear B_9 ra_9 rb_9 rc_9 AB_9 MAB_9 MAC_9 row9
                  obtain ⟨a10, c10, hv10, nil10, row10⟩ := OwnS.row o10
                  subst hv10
                  clear o10 b10
                  go_wp2_with fail
                  refine (pUnion_at (Spn.ans 1 la lc) (Spn.ans 1 lb lc) (Spn.ans 0 (Spn.ans 1 la lc) (Spn.ans 1 lb lc)) (Spn.code 0 (Spn.ans 1 la lc) (Spn.ans 1 lb lc)) a8 a9 c8 c9 _ (ml.out 1 la lc) (ml.out 1 lb lc) rfl rfl nil8 nil9 MAC_10 MBC_10).mono ?_; rintro e w11 ⟨v11, rfl, o11, b11⟩
                  have B_11 := below_on B_10 (Nat.le_refl _) b11
                  have ra_11 := Row2.below ra_10 b11
                  have rb_11 := Row2.below rb_10 b11
                  have rc_11 := Row2.below rc_10 b11
                  have AB_11 := Row2.below AB_10 b11
                  have MAB_11 := Row2.below MAB_10 b11
                  have MAC_11 := Row2.below MAC_10 b11
                  have MBC_11 := Row2.below MBC_10 b11
                  have X_11 := Row2.below row10 b11
                  clear B_10 ra_10 rb_10 rc_10 AB_10 MAB_10 MAC_10 MBC_10 row10
                  obtain ⟨a11, c11, hv11, nil11, row11⟩ := OwnS.row o11
                  subst hv11
                  clear o11 b11
                  go_wp2_with fail
                  refine (pMinus_at lc (Spn.ans 0 la lb) (Spn.ans 2 lc (Spn.ans 0 la lb)) 0 c a2 cc c2 _ hc (ml.out 0 la lb) rfl zm nc nil2 rc_11 AB_11).mono ?_; rintro e w12 ⟨v12, rfl, o12, b12⟩
                  have B_12 := below_on B_11 (Nat.le_refl _) b12
                  have ra_12 := Row2.below ra_11 b12
                  have rb_12 := Row2.below rb_11 b12
                  have rc_12 := Row2.below rc_11 b12
                  have AB_12 := Row2.below AB_11 b12
                  have MAB_12 := Row2.below MAB_11 b12
                  have MAC_12 := Row2.below MAC_11 b12
                  have MBC_12 := Row2.below MBC_11 b12
                  have X_12 := Row2.below X_11 b12
                  have Y_12 := Row2.below row11 b12
                  clear B_11 ra_11 rb_11 rc_11 AB_11 MAB_11 MAC_11 MBC_11 X_11 row11
                  obtain ⟨a12, c12, hv12, nil12, row12⟩ := OwnS.row o12
                  subst hv12
                  clear o12 b12
                  go_wp2_with fail
                  refine (pMinus_at lc la (Spn.ans 2 lc la) 0 c a cc ca _ hc ha rfl zn nc na rc_12 ra_12).mono ?_; rintro e w13 ⟨v13, rfl, o13, b13⟩
                  have B_13 := below_on B_12 (Nat.le_refl _) b13
                  have ra_13 := Row2.below ra_12 b13
                  have rb_13 := Row2.below rb_12 b13
                  have rc_13 := Row2.below rc_12 b13
                  have AB_13 := Row2.below AB_12 b13
                  have MAB_13 := Row2.below MAB_12 b13
                  have MAC_13 := Row2.below MAC_12 b13
                  have MBC_13 := Row2.below MBC_12 b13
                  have X_13 := Row2.below X_12 b13
                  have Y_13 := Row2.below Y_12 b13
                  have P_13 := Row2.below row12 b13
                  clear B_12 ra_12 rb_12 rc_12 AB_12 MAB_12 MAC_12 MBC_12 X_12 Y_12 row12
                  obtain ⟨a13, c13, hv13, nil13, row13⟩ := OwnS.row o13
                  subst hv13
                  clear o13 b13
                  go_wp2_with fail
                  refine (pMinus_at (Spn.ans 2 lc la) lb (Spn.ans 2 (Spn.ans 2 lc la) lb) (Spn.code 2 (Spn.ans 2 lc la) lb) a13 b c13 cb _ (ml.out 2 lc la) hb rfl rfl nil13 nb row13 rb_13).mono ?_; rintro e w14 ⟨v14, rfl, o14, b14⟩
                  have B_14 := below_on B_13 (Nat.le_refl _) b14
                  have ra_14 := Row2.below ra_13 b14
                  have rb_14 := Row2.below rb_13 b14
                  have rc_14 := Row2.below rc_13 b14
                  have AB_14 := Row2.below AB_13 b14
                  have MAB_14 := Row2.below MAB_13 b14
                  have MAC_14 := Row2.below MAC_13 b14
                  have MBC_14 := Row2.below MBC_13 b14
                  have X_14 := Row2.below X_13 b14
                  have Y_14 := Row2.below Y_13 b14
                  have P_14 := Row2.below P_13 b14
                  have Q_14 := Row2.below row13 b14
                  clear B_13 ra_13 rb_13 rc_13 AB_13 MAB_13 MAC_13 MBC_13 X_13 Y_13 P_13 row13
                  obtain ⟨a14, c14, hv14, nil14, row14⟩ := OwnS.row o14
                  subst hv14
                  clear o14 b14
                  go_wp2
                  go_ret
                  exact ⟨rfl, B_14⟩
              · skip
                have nen : (Spn.code 2 lc la != 0) = true := by simpa using zn
                have nqn : (Spn.code 2 lc la == 0) = false := by simpa using zn
                go_enter Try.func7, Try.ntmps7
                go_wp2_with fail
                refine (sbegun_any _).mono ?_; rintro e w1 ⟨rfl, b1⟩
                have B_1 := below_on (Below.refl _ w) (Nat.le_refl _) b1
                have ra_1 := Row2.below ra b1
                have rb_1 := Row2.below rb b1
                have rc_1 := Row2.below rc b1
                clear ra rb rc
                clear b1
                go_wp2_with fail
                refine (pUnion_at la lb (Spn.ans 0 la lb) 0 a b ca cb _ ha hb rfl ze na nb ra_1 rb_1).mono ?_; rintro e w2 ⟨v2, rfl, o2, b2⟩
                have B_2 := below_on B_1 (Nat.le_refl _) b2
                have ra_2 := Row2.below ra_1 b2
                have rb_2 := Row2.below rb_1 b2
                have rc_2 := Row2.below rc_1 b2
                clear B_1 ra_1 rb_1 rc_1
                obtain ⟨a2, c2, hv2, nil2, row2⟩ := OwnS.row o2
                subst hv2
                clear o2 b2
                go_wp2_with fail
                refine (pUnion_at lb la (Spn.ans 0 lb la) 0 b a cb ca _ hb ha rfl zf nb na rb_2 ra_2).mono ?_; rintro e w3 ⟨v3, rfl, o3, b3⟩
                have B_3 := below_on B_2 (Nat.le_refl _) b3
                have ra_3 := Row2.below ra_2 b3
                have rb_3 := Row2.below rb_2 b3
                have rc_3 := Row2.below rc_2 b3
                have AB_3 := Row2.below row2 b3
                clear B_2 ra_2 rb_2 rc_2 row2
                obtain ⟨a3, c3, hv3, nil3, row3⟩ := OwnS.row o3
                subst hv3
                clear o3 b3
                go_wp2_with fail
                refine (pMeet_at la lb (Spn.ans 1 la lb) 0 a b ca cb _ ha hb rfl zg na nb ra_3 rb_3).mono ?_; rintro e w4 ⟨v4, rfl, o4, b4⟩
                have B_4 := below_on B_3 (Nat.le_refl _) b4
                have ra_4 := Row2.below ra_3 b4
                have rb_4 := Row2.below rb_3 b4
                have rc_4 := Row2.below rc_3 b4
                have AB_4 := Row2.below AB_3 b4
                have BA_4 := Row2.below row3 b4
                clear B_3 ra_3 rb_3 rc_3 AB_3 row3
                obtain ⟨a4, c4, hv4, nil4, row4⟩ := OwnS.row o4
                subst hv4
                clear o4 b4
                go_wp2_with fail
                refine (pMeet_at lb la (Spn.ans 1 lb la) 0 b a cb ca _ hb ha rfl zh nb na rb_4 ra_4).mono ?_; rintro e w5 ⟨v5, rfl, o5, b5⟩
                have B_5 := below_on B_4 (Nat.le_refl _) b5
                have ra_5 := Row2.below ra_4 b5
                have rb_5 := Row2.below rb_4 b5
                have rc_5 := Row2.below rc_4 b5
                have AB_5 := Row2.below AB_4 b5
                have BA_5 := Row2.below BA_4 b5
                have MAB_5 := Row2.below row4 b5
                clear B_4 ra_4 rb_4 rc_4 AB_4 BA_4 row4
                obtain ⟨a5, c5, hv5, nil5, row5⟩ := OwnS.row o5
                subst hv5
                clear o5 b5
                go_wp2_with fail
                refine (same_below (Spn.ans 0 la lb) (Spn.ans 0 lb la) true a2 a3 c2 c3 _ (ml.out 0 la lb) (ml.out 0 lb la) sAB.out AB_5 BA_5).mono ?_; rintro e w6 ⟨rfl, b6⟩
                have B_6 := below_on B_5 (Nat.le_refl _) b6
                have ra_6 := Row2.below ra_5 b6
                have rb_6 := Row2.below rb_5 b6
                have rc_6 := Row2.below rc_5 b6
                have AB_6 := Row2.below AB_5 b6
                have BA_6 := Row2.below BA_5 b6
                have MAB_6 := Row2.below MAB_5 b6
                have MBA_6 := Row2.below row5 b6
                clear B_5 ra_5 rb_5 rc_5 AB_5 BA_5 MAB_5 row5
                clear b6
                go_wp2_with fail
                refine (same_below (Spn.ans 1 la lb) (Spn.ans 1 lb la) true a4 a5 c4 c5 _ (ml.out 1 la lb) (ml.out 1 lb la) sM.out MAB_6 MBA_6).mono ?_; rintro e w7 ⟨rfl, b7⟩
                have B_7 := below_on B_6 (Nat.le_refl _) b7
                have ra_7 := Row2.below ra_6 b7
                have rb_7 := Row2.below rb_6 b7
                have rc_7 := Row2.below rc_6 b7
                have AB_7 := Row2.below AB_6 b7
                have BA_7 := Row2.below BA_6 b7
                have MAB_7 := Row2.below MAB_6 b7
                have MBA_7 := Row2.below MBA_6 b7
                clear B_6 ra_6 rb_6 rc_6 AB_6 BA_6 MAB_6 MBA_6
                clear b7
                clear BA_7 MBA_7
                go_wp2_with fail
                refine (pMeet_at la lc (Spn.ans 1 la lc) 0 a c ca cc _ ha hc rfl zi na nc ra_7 rc_7).mono ?_; rintro e w8 ⟨v8, rfl, o8, b8⟩
                have B_8 := below_on B_7 (Nat.le_refl _) b8
                have ra_8 := Row2.below ra_7 b8
                have rb_8 := Row2.below rb_7 b8
                have rc_8 := Row2.below rc_7 b8
                have AB_8 := Row2.below AB_7 b8
                have MAB_8 := Row2.below MAB_7 b8
                clear B_7 ra_7 rb_7 rc_7 AB_7 MAB_7
                obtain ⟨a8, c8, hv8, nil8, row8⟩ := OwnS.row o8
                subst hv8
                clear o8 b8
                go_wp2_with fail
                refine (pMeet_at lb lc (Spn.ans 1 lb lc) 0 b c cb cc _ hb hc rfl zj nb nc rb_8 rc_8).mono ?_; rintro e w9 ⟨v9, rfl, o9, b9⟩
                have B_9 := below_on B_8 (Nat.le_refl _) b9
                have ra_9 := Row2.below ra_8 b9
                have rb_9 := Row2.below rb_8 b9
                have rc_9 := Row2.below rc_8 b9
                have AB_9 := Row2.below AB_8 b9
                have MAB_9 := Row2.below MAB_8 b9
                have MAC_9 := Row2.below row8 b9
                clear B_8 ra_8 rb_8 rc_8 AB_8 MAB_8 row8
                obtain ⟨a9, c9, hv9, nil9, row9⟩ := OwnS.row o9
                subst hv9
                clear o9 b9
                go_wp2_with fail
                refine (pMeet_at (Spn.ans 0 la lb) lc (Spn.ans 1 (Spn.ans 0 la lb) lc) (Spn.code 1 (Spn.ans 0 la lb) lc) a2 c c2 cc _ (ml.out 0 la lb) hc rfl rfl nil2 nc AB_9 rc_9).mono ?_; rintro e w10 ⟨v10, rfl, o10, b10⟩
                have B_10 := below_on B_9 (Nat.le_refl _) b10
                have ra_10 := Row2.below ra_9 b10
                have rb_10 := Row2.below rb_9 b10
                have rc_10 := Row2.below rc_9 b10
                have AB_10 := Row2.below AB_9 b10
                have MAB_10 := Row2.below MAB_9 b10
                have MAC_10 := Row2.below MAC_9 b10
                have MBC_10 := Row2.below row9 b10
                clear B_9 ra_9 rb_9 rc_9 AB_9 MAB_9 MAC_9 row9
                obtain ⟨a10, c10, hv10, nil10, row10⟩ := OwnS.row o10
                subst hv10
                clear o10 b10
                go_wp2_with fail
                refine (pUnion_at (Spn.ans 1 la lc) (Spn.ans 1 lb lc) (Spn.ans 0 (Spn.ans 1 la lc) (Spn.ans 1 lb lc)) (Spn.code 0 (Spn.ans 1 la lc) (Spn.ans 1 lb lc)) a8 a9 c8 c9 _ (ml.out 1 la lc) (ml.out 1 lb lc) rfl rfl nil8 nil9 MAC_10 MBC_10).mono ?_; rintro e w11 ⟨v11, rfl, o11, b11⟩
                have B_11 := below_on B_10 (Nat.le_refl _) b11
                have ra_11 := Row2.below ra_10 b11
                have rb_11 := Row2.below rb_10 b11
                have rc_11 := Row2.below rc_10 b11
                have AB_11 := Row2.below AB_10 b11
                have MAB_11 := Row2.below MAB_10 b11
                have MAC_11 := Row2.below MAC_10 b11
                have MBC_11 := Row2.below MBC_10 b11
                have X_11 := Row2.below row10 b11
                clear B_10 ra_10 rb_10 rc_10 AB_10 MAB_10 MAC_10 MBC_10 row10
                obtain ⟨a11, c11, hv11, nil11, row11⟩ := OwnS.row o11
                subst hv11
                clear o11 b11
                go_wp2_with fail
                refine (pMinus_at lc (Spn.ans 0 la lb) (Spn.ans 2 lc (Spn.ans 0 la lb)) 0 c a2 cc c2 _ hc (ml.out 0 la lb) rfl zm nc nil2 rc_11 AB_11).mono ?_; rintro e w12 ⟨v12, rfl, o12, b12⟩
                have B_12 := below_on B_11 (Nat.le_refl _) b12
                have ra_12 := Row2.below ra_11 b12
                have rb_12 := Row2.below rb_11 b12
                have rc_12 := Row2.below rc_11 b12
                have AB_12 := Row2.below AB_11 b12
                have MAB_12 := Row2.below MAB_11 b12
                have MAC_12 := Row2.below MAC_11 b12
                have MBC_12 := Row2.below MBC_11 b12
                have X_12 := Row2.below X_11 b12
                have Y_12 := Row2.below row11 b12
                clear B_11 ra_11 rb_11 rc_11 AB_11 MAB_11 MAC_11 MBC_11 X_11 row11
                obtain ⟨a12, c12, hv12, nil12, row12⟩ := OwnS.row o12
                subst hv12
                clear o12 b12
                go_wp2_with fail
                refine (pMinus_at lc la (Spn.ans 2 lc la) (Spn.code 2 lc la) c a cc ca _ hc ha rfl rfl nc na rc_12 ra_12).mono ?_; rintro e w13 ⟨v13, rfl, o13, b13⟩
                have B_13 := below_on B_12 (Nat.le_refl _) b13
                have ra_13 := Row2.below ra_12 b13
                have rb_13 := Row2.below rb_12 b13
                have rc_13 := Row2.below rc_12 b13
                have AB_13 := Row2.below AB_12 b13
                have MAB_13 := Row2.below MAB_12 b13
                have MAC_13 := Row2.below MAC_12 b13
                have MBC_13 := Row2.below MBC_12 b13
                have X_13 := Row2.below X_12 b13
                have Y_13 := Row2.below Y_12 b13
                have P_13 := Row2.below row12 b13
                clear B_12 ra_12 rb_12 rc_12 AB_12 MAB_12 MAC_12 MBC_12 X_12 Y_12 row12
                obtain ⟨a13, c13, hv13, nil13, row13⟩ := OwnS.row o13
                subst hv13
                clear o13 b13
                go_wp2
                go_ret
                exact ⟨rfl, B_13⟩
            · skip
              have nem : (Spn.code 2 lc (Spn.ans 0 la lb) != 0) = true := by simpa using zm
              have nqm : (Spn.code 2 lc (Spn.ans 0 la lb) == 0) = false := by simpa using zm
              go_enter Try.func7, Try.ntmps7
              go_wp2_with fail
              refine (sbegun_any _).mono ?_; rintro e w1 ⟨rfl, b1⟩
              have B_1 := below_on (Below.refl _ w) (Nat.le_refl _) b1
              have ra_1 := Row2.below ra b1
              have rb_1 := Row2.below rb b1
              have rc_1 := Row2.below rc b1
              clear ra rb rc
              clear b1
              go_wp2_with fail
              refine (pUnion_at la lb (Spn.ans 0 la lb) 0 a b ca cb _ ha hb rfl ze na nb ra_1 rb_1).mono ?_; rintro e w2 ⟨v2, rfl, o2, b2⟩
              have B_2 := below_on B_1 (Nat.le_refl _) b2
              have ra_2 := Row2.below ra_1 b2
              have rb_2 := Row2.below rb_1 b2
              have rc_2 := Row2.below rc_1 b2
              clear B_1 ra_1 rb_1 rc_1
              obtain ⟨a2, c2, hv2, nil2, row2⟩ := OwnS.row o2
              subst hv2
              clear o2 b2
              go_wp2_with fail
              refine (pUnion_at lb la (Spn.ans 0 lb la) 0 b a cb ca _ hb ha rfl zf nb na rb_2 ra_2).mono ?_; rintro e w3 ⟨v3, rfl, o3, b3⟩
              have B_3 := below_on B_2 (Nat.le_refl _) b3
              have ra_3 := Row2.below ra_2 b3
              have rb_3 := Row2.below rb_2 b3
              have rc_3 := Row2.below rc_2 b3
              have AB_3 := Row2.below row2 b3
              clear B_2 ra_2 rb_2 rc_2 row2
              obtain ⟨a3, c3, hv3, nil3, row3⟩ := OwnS.row o3
              subst hv3
              clear o3 b3
              go_wp2_with fail
              refine (pMeet_at la lb (Spn.ans 1 la lb) 0 a b ca cb _ ha hb rfl zg na nb ra_3 rb_3).mono ?_; rintro e w4 ⟨v4, rfl, o4, b4⟩
              have B_4 := below_on B_3 (Nat.le_refl _) b4
              have ra_4 := Row2.below ra_3 b4
              have rb_4 := Row2.below rb_3 b4
              have rc_4 := Row2.below rc_3 b4
              have AB_4 := Row2.below AB_3 b4
              have BA_4 := Row2.below row3 b4
              clear B_3 ra_3 rb_3 rc_3 AB_3 row3
              obtain ⟨a4, c4, hv4, nil4, row4⟩ := OwnS.row o4
              subst hv4
              clear o4 b4
              go_wp2_with fail
              refine (pMeet_at lb la (Spn.ans 1 lb la) 0 b a cb ca _ hb ha rfl zh nb na rb_4 ra_4).mono ?_; rintro e w5 ⟨v5, rfl, o5, b5⟩
              have B_5 := below_on B_4 (Nat.le_refl _) b5
              have ra_5 := Row2.below ra_4 b5
              have rb_5 := Row2.below rb_4 b5
              have rc_5 := Row2.below rc_4 b5
              have AB_5 := Row2.below AB_4 b5
              have BA_5 := Row2.below BA_4 b5
              have MAB_5 := Row2.below row4 b5
              clear B_4 ra_4 rb_4 rc_4 AB_4 BA_4 row4
              obtain ⟨a5, c5, hv5, nil5, row5⟩ := OwnS.row o5
              subst hv5
              clear o5 b5
              go_wp2_with fail
              refine (same_below (Spn.ans 0 la lb) (Spn.ans 0 lb la) true a2 a3 c2 c3 _ (ml.out 0 la lb) (ml.out 0 lb la) sAB.out AB_5 BA_5).mono ?_; rintro e w6 ⟨rfl, b6⟩
              have B_6 := below_on B_5 (Nat.le_refl _) b6
              have ra_6 := Row2.below ra_5 b6
              have rb_6 := Row2.below rb_5 b6
              have rc_6 := Row2.below rc_5 b6
              have AB_6 := Row2.below AB_5 b6
              have BA_6 := Row2.below BA_5 b6
              have MAB_6 := Row2.below MAB_5 b6
              have MBA_6 := Row2.below row5 b6
              clear B_5 ra_5 rb_5 rc_5 AB_5 BA_5 MAB_5 row5
              clear b6
              go_wp2_with fail
              refine (same_below (Spn.ans 1 la lb) (Spn.ans 1 lb la) true a4 a5 c4 c5 _ (ml.out 1 la lb) (ml.out 1 lb la) sM.out MAB_6 MBA_6).mono ?_; rintro e w7 ⟨rfl, b7⟩
              have B_7 := below_on B_6 (Nat.le_refl _) b7
              have ra_7 := Row2.below ra_6 b7
              have rb_7 := Row2.below rb_6 b7
              have rc_7 := Row2.below rc_6 b7
              have AB_7 := Row2.below AB_6 b7
              have BA_7 := Row2.below BA_6 b7
              have MAB_7 := Row2.below MAB_6 b7
              have MBA_7 := Row2.below MBA_6 b7
              clear B_6 ra_6 rb_6 rc_6 AB_6 BA_6 MAB_6 MBA_6
              clear b7
              clear BA_7 MBA_7
              go_wp2_with fail
              refine (pMeet_at la lc (Spn.ans 1 la lc) 0 a c ca cc _ ha hc rfl zi na nc ra_7 rc_7).mono ?_; rintro e w8 ⟨v8, rfl, o8, b8⟩
              have B_8 := below_on B_7 (Nat.le_refl _) b8
              have ra_8 := Row2.below ra_7 b8
              have rb_8 := Row2.below rb_7 b8
              have rc_8 := Row2.below rc_7 b8
              have AB_8 := Row2.below AB_7 b8
              have MAB_8 := Row2.below MAB_7 b8
              clear B_7 ra_7 rb_7 rc_7 AB_7 MAB_7
              obtain ⟨a8, c8, hv8, nil8, row8⟩ := OwnS.row o8
              subst hv8
              clear o8 b8
              go_wp2_with fail
              refine (pMeet_at lb lc (Spn.ans 1 lb lc) 0 b c cb cc _ hb hc rfl zj nb nc rb_8 rc_8).mono ?_; rintro e w9 ⟨v9, rfl, o9, b9⟩
              have B_9 := below_on B_8 (Nat.le_refl _) b9
              have ra_9 := Row2.below ra_8 b9
              have rb_9 := Row2.below rb_8 b9
              have rc_9 := Row2.below rc_8 b9
              have AB_9 := Row2.below AB_8 b9
              have MAB_9 := Row2.below MAB_8 b9
              have MAC_9 := Row2.below row8 b9
              clear B_8 ra_8 rb_8 rc_8 AB_8 MAB_8 row8
              obtain ⟨a9, c9, hv9, nil9, row9⟩ := OwnS.row o9
              subst hv9
              clear o9 b9
              go_wp2_with fail
              refine (pMeet_at (Spn.ans 0 la lb) lc (Spn.ans 1 (Spn.ans 0 la lb) lc) (Spn.code 1 (Spn.ans 0 la lb) lc) a2 c c2 cc _ (ml.out 0 la lb) hc rfl rfl nil2 nc AB_9 rc_9).mono ?_; rintro e w10 ⟨v10, rfl, o10, b10⟩
              have B_10 := below_on B_9 (Nat.le_refl _) b10
              have ra_10 := Row2.below ra_9 b10
              have rb_10 := Row2.below rb_9 b10
              have rc_10 := Row2.below rc_9 b10
              have AB_10 := Row2.below AB_9 b10
              have MAB_10 := Row2.below MAB_9 b10
              have MAC_10 := Row2.below MAC_9 b10
              have MBC_10 := Row2.below row9 b10
              clear B_9 ra_9 rb_9 rc_9 AB_9 MAB_9 MAC_9 row9
              obtain ⟨a10, c10, hv10, nil10, row10⟩ := OwnS.row o10
              subst hv10
              clear o10 b10
              go_wp2_with fail
              refine (pUnion_at (Spn.ans 1 la lc) (Spn.ans 1 lb lc) (Spn.ans 0 (Spn.ans 1 la lc) (Spn.ans 1 lb lc)) (Spn.code 0 (Spn.ans 1 la lc) (Spn.ans 1 lb lc)) a8 a9 c8 c9 _ (ml.out 1 la lc) (ml.out 1 lb lc) rfl rfl nil8 nil9 MAC_10 MBC_10).mono ?_; rintro e w11 ⟨v11, rfl, o11, b11⟩
              have B_11 := below_on B_10 (Nat.le_refl _) b11
              have ra_11 := Row2.below ra_10 b11
              have rb_11 := Row2.below rb_10 b11
              have rc_11 := Row2.below rc_10 b11
              have AB_11 := Row2.below AB_10 b11
              have MAB_11 := Row2.below MAB_10 b11
              have MAC_11 := Row2.below MAC_10 b11
              have MBC_11 := Row2.below MBC_10 b11
              have X_11 := Row2.below row10 b11
              clear B_10 ra_10 rb_10 rc_10 AB_10 MAB_10 MAC_10 MBC_10 row10
              obtain ⟨a11, c11, hv11, nil11, row11⟩ := OwnS.row o11
              subst hv11
              clear o11 b11
              go_wp2_with fail
              refine (pMinus_at lc (Spn.ans 0 la lb) (Spn.ans 2 lc (Spn.ans 0 la lb)) (Spn.code 2 lc (Spn.ans 0 la lb)) c a2 cc c2 _ hc (ml.out 0 la lb) rfl rfl nc nil2 rc_11 AB_11).mono ?_; rintro e w12 ⟨v12, rfl, o12, b12⟩
              have B_12 := below_on B_11 (Nat.le_refl _) b12
              have ra_12 := Row2.below ra_11 b12
              have rb_12 := Row2.below rb_11 b12
              have rc_12 := Row2.below rc_11 b12
              have AB_12 := Row2.below AB_11 b12
              have MAB_12 := Row2.below MAB_11 b12
              have MAC_12 := Row2.below MAC_11 b12
              have MBC_12 := Row2.below MBC_11 b12
              have X_12 := Row2.below X_11 b12
              have Y_12 := Row2.below row11 b12
              clear B_11 ra_11 rb_11 rc_11 AB_11 MAB_11 MAC_11 MBC_11 X_11 row11
              obtain ⟨a12, c12, hv12, nil12, row12⟩ := OwnS.row o12
              subst hv12
              clear o12 b12
              go_wp2_with fail
              refine (pMinus_at lc la (Spn.ans 2 lc la) (Spn.code 2 lc la) c a cc ca _ hc ha rfl rfl nc na rc_12 ra_12).mono ?_; rintro e w13 ⟨v13, rfl, o13, b13⟩
              have B_13 := below_on B_12 (Nat.le_refl _) b13
              have ra_13 := Row2.below ra_12 b13
              have rb_13 := Row2.below rb_12 b13
              have rc_13 := Row2.below rc_12 b13
              have AB_13 := Row2.below AB_12 b13
              have MAB_13 := Row2.below MAB_12 b13
              have MAC_13 := Row2.below MAC_12 b13
              have MBC_13 := Row2.below MBC_12 b13
              have X_13 := Row2.below X_12 b13
              have Y_13 := Row2.below Y_12 b13
              have P_13 := Row2.below row12 b13
              clear B_12 ra_12 rb_12 rc_12 AB_12 MAB_12 MAC_12 MBC_12 X_12 Y_12 row12
              obtain ⟨a13, c13, hv13, nil13, row13⟩ := OwnS.row o13
              subst hv13
              clear o13 b13
              go_wp2
              go_ret
              exact ⟨rfl, B_13⟩
        · skip
          have nej : (Spn.code 1 lb lc != 0) = true := by simpa using zj
          have nqj : (Spn.code 1 lb lc == 0) = false := by simpa using zj
          go_enter Try.func7, Try.ntmps7
          go_wp2_with fail
          refine (sbegun_any _).mono ?_; rintro e w1 ⟨rfl, b1⟩
          have B_1 := below_on (Below.refl _ w) (Nat.le_refl _) b1
          have ra_1 := Row2.below ra b1
          have rb_1 := Row2.below rb b1
          have rc_1 := Row2.below rc b1
          clear ra rb rc
          clear b1
          go_wp2_with fail
          refine (pUnion_at la lb (Spn.ans 0 la lb) 0 a b ca cb _ ha hb rfl ze na nb ra_1 rb_1).mono ?_; rintro e w2 ⟨v2, rfl, o2, b2⟩
          have B_2 := below_on B_1 (Nat.le_refl _) b2
          have ra_2 := Row2.below ra_1 b2
          have rb_2 := Row2.below rb_1 b2
          have rc_2 := Row2.below rc_1 b2
          clear B_1 ra_1 rb_1 rc_1
          obtain ⟨a2, c2, hv2, nil2, row2⟩ := OwnS.row o2
          subst hv2
          clear o2 b2
          go_wp2_with fail
          refine (pUnion_at lb la (Spn.ans 0 lb la) 0 b a cb ca _ hb ha rfl zf nb na rb_2 ra_2).mono ?_; rintro e w3 ⟨v3, rfl, o3, b3⟩
          have B_3 := below_on B_2 (Nat.le_refl _) b3
          have ra_3 := Row2.below ra_2 b3
          have rb_3 := Row2.below rb_2 b3
          have rc_3 := Row2.below rc_2 b3
          have AB_3 := Row2.below row2 b3
          clear B_2 ra_2 rb_2 rc_2 row2
          obtain ⟨a3, c3, hv3, nil3, row3⟩ := OwnS.row o3
          subst hv3
          clear o3 b3
          go_wp2_with fail
          refine (pMeet_at la lb (Spn.ans 1 la lb) 0 a b ca cb _ ha hb rfl zg na nb ra_3 rb_3).mono ?_; rintro e w4 ⟨v4, rfl, o4, b4⟩
          have B_4 := below_on B_3 (Nat.le_refl _) b4
          have ra_4 := Row2.below ra_3 b4
          have rb_4 := Row2.below rb_3 b4
          have rc_4 := Row2.below rc_3 b4
          have AB_4 := Row2.below AB_3 b4
          have BA_4 := Row2.below row3 b4
          clear B_3 ra_3 rb_3 rc_3 AB_3 row3
          obtain ⟨a4, c4, hv4, nil4, row4⟩ := OwnS.row o4
          subst hv4
          clear o4 b4
          go_wp2_with fail
          refine (pMeet_at lb la (Spn.ans 1 lb la) 0 b a cb ca _ hb ha rfl zh nb na rb_4 ra_4).mono ?_; rintro e w5 ⟨v5, rfl, o5, b5⟩
          have B_5 := below_on B_4 (Nat.le_refl _) b5
          have ra_5 := Row2.below ra_4 b5
          have rb_5 := Row2.below rb_4 b5
          have rc_5 := Row2.below rc_4 b5
          have AB_5 := Row2.below AB_4 b5
          have BA_5 := Row2.below BA_4 b5
          have MAB_5 := Row2.below row4 b5
          clear B_4 ra_4 rb_4 rc_4 AB_4 BA_4 row4
          obtain ⟨a5, c5, hv5, nil5, row5⟩ := OwnS.row o5
          subst hv5
          clear o5 b5
          go_wp2_with fail
          refine (same_below (Spn.ans 0 la lb) (Spn.ans 0 lb la) true a2 a3 c2 c3 _ (ml.out 0 la lb) (ml.out 0 lb la) sAB.out AB_5 BA_5).mono ?_; rintro e w6 ⟨rfl, b6⟩
          have B_6 := below_on B_5 (Nat.le_refl _) b6
          have ra_6 := Row2.below ra_5 b6
          have rb_6 := Row2.below rb_5 b6
          have rc_6 := Row2.below rc_5 b6
          have AB_6 := Row2.below AB_5 b6
          have BA_6 := Row2.below BA_5 b6
          have MAB_6 := Row2.below MAB_5 b6
          have MBA_6 := Row2.below row5 b6
          clear B_5 ra_5 rb_5 rc_5 AB_5 BA_5 MAB_5 row5
          clear b6
          go_wp2_with fail
          refine (same_below (Spn.ans 1 la lb) (Spn.ans 1 lb la) true a4 a5 c4 c5 _ (ml.out 1 la lb) (ml.out 1 lb la) sM.out MAB_6 MBA_6).mono ?_; rintro e w7 ⟨rfl, b7⟩
          have B_7 := below_on B_6 (Nat.le_refl _) b7
          have ra_7 := Row2.below ra_6 b7
          have rb_7 := Row2.below rb_6 b7
          have rc_7 := Row2.below rc_6 b7
          have AB_7 := Row2.below AB_6 b7
          have BA_7 := Row2.below BA_6 b7
          have MAB_7 := Row2.below MAB_6 b7
          have MBA_7 := Row2.below MBA_6 b7
          clear B_6 ra_6 rb_6 rc_6 AB_6 BA_6 MAB_6 MBA_6
          clear b7
          clear BA_7 MBA_7
          go_wp2_with fail
          refine (pMeet_at la lc (Spn.ans 1 la lc) 0 a c ca cc _ ha hc rfl zi na nc ra_7 rc_7).mono ?_; rintro e w8 ⟨v8, rfl, o8, b8⟩
          have B_8 := below_on B_7 (Nat.le_refl _) b8
          have ra_8 := Row2.below ra_7 b8
          have rb_8 := Row2.below rb_7 b8
          have rc_8 := Row2.below rc_7 b8
          have AB_8 := Row2.below AB_7 b8
          have MAB_8 := Row2.below MAB_7 b8
          clear B_7 ra_7 rb_7 rc_7 AB_7 MAB_7
          obtain ⟨a8, c8, hv8, nil8, row8⟩ := OwnS.row o8
          subst hv8
          clear o8 b8
          go_wp2_with fail
          refine (pMeet_at lb lc (Spn.ans 1 lb lc) (Spn.code 1 lb lc) b c cb cc _ hb hc rfl rfl nb nc rb_8 rc_8).mono ?_; rintro e w9 ⟨v9, rfl, o9, b9⟩
          have B_9 := below_on B_8 (Nat.le_refl _) b9
          have ra_9 := Row2.below ra_8 b9
          have rb_9 := Row2.below rb_8 b9
          have rc_9 := Row2.below rc_8 b9
          have AB_9 := Row2.below AB_8 b9
          have MAB_9 := Row2.below MAB_8 b9
          have MAC_9 := Row2.below row8 b9
          clear B_8 ra_8 rb_8 rc_8 AB_8 MAB_8 row8
          obtain ⟨a9, c9, hv9, nil9, row9⟩ := OwnS.row o9
          subst hv9
          clear o9 b9
          go_wp2
          go_ret
          exact ⟨rfl, B_9⟩
      · skip
        have nei : (Spn.code 1 la lc != 0) = true := by simpa using zi
        have nqi : (Spn.code 1 la lc == 0) = false := by simpa using zi
        go_enter Try.func7, Try.ntmps7
        go_wp2_with fail
        refine (sbegun_any _).mono ?_; rintro e w1 ⟨rfl, b1⟩
        have B_1 := below_on (Below.refl _ w) (Nat.le_refl _) b1
        have ra_1 := Row2.below ra b1
        have rb_1 := Row2.below rb b1
        have rc_1 := Row2.below rc b1
        clear ra rb rc
        clear b1
        go_wp2_with fail
        refine (pUnion_at la lb (Spn.ans 0 la lb) 0 a b ca cb _ ha hb rfl ze na nb ra_1 rb_1).mono ?_; rintro e w2 ⟨v2, rfl, o2, b2⟩
        have B_2 := below_on B_1 (Nat.le_refl _) b2
        have ra_2 := Row2.below ra_1 b2
        have rb_2 := Row2.below rb_1 b2
        have rc_2 := Row2.below rc_1 b2
        clear B_1 ra_1 rb_1 rc_1
        obtain ⟨a2, c2, hv2, nil2, row2⟩ := OwnS.row o2
        subst hv2
        clear o2 b2
        go_wp2_with fail
        refine (pUnion_at lb la (Spn.ans 0 lb la) 0 b a cb ca _ hb ha rfl zf nb na rb_2 ra_2).mono ?_; rintro e w3 ⟨v3, rfl, o3, b3⟩
        have B_3 := below_on B_2 (Nat.le_refl _) b3
        have ra_3 := Row2.below ra_2 b3
        have rb_3 := Row2.below rb_2 b3
        have rc_3 := Row2.below rc_2 b3
        have AB_3 := Row2.below row2 b3
        clear B_2 ra_2 rb_2 rc_2 row2
        obtain ⟨a3, c3, hv3, nil3, row3⟩ := OwnS.row o3
        subst hv3
        clear o3 b3
        go_wp2_with fail
        refine (pMeet_at la lb (Spn.ans 1 la lb) 0 a b ca cb _ ha hb rfl zg na nb ra_3 rb_3).mono ?_; rintro e w4 ⟨v4, rfl, o4, b4⟩
        have B_4 := below_on B_3 (Nat.le_refl _) b4
        have ra_4 := Row2.below ra_3 b4
        have rb_4 := Row2.below rb_3 b4
        have rc_4 := Row2.below rc_3 b4
        have AB_4 := Row2.below AB_3 b4
        have BA_4 := Row2.below row3 b4
        clear B_3 ra_3 rb_3 rc_3 AB_3 row3
        obtain ⟨a4, c4, hv4, nil4, row4⟩ := OwnS.row o4
        subst hv4
        clear o4 b4
        go_wp2_with fail
        refine (pMeet_at lb la (Spn.ans 1 lb la) 0 b a cb ca _ hb ha rfl zh nb na rb_4 ra_4).mono ?_; rintro e w5 ⟨v5, rfl, o5, b5⟩
        have B_5 := below_on B_4 (Nat.le_refl _) b5
        have ra_5 := Row2.below ra_4 b5
        have rb_5 := Row2.below rb_4 b5
        have rc_5 := Row2.below rc_4 b5
        have AB_5 := Row2.below AB_4 b5
        have BA_5 := Row2.below BA_4 b5
        have MAB_5 := Row2.below row4 b5
        clear B_4 ra_4 rb_4 rc_4 AB_4 BA_4 row4
        obtain ⟨a5, c5, hv5, nil5, row5⟩ := OwnS.row o5
        subst hv5
        clear o5 b5
        go_wp2_with fail
        refine (same_below (Spn.ans 0 la lb) (Spn.ans 0 lb la) true a2 a3 c2 c3 _ (ml.out 0 la lb) (ml.out 0 lb la) sAB.out AB_5 BA_5).mono ?_; rintro e w6 ⟨rfl, b6⟩
        have B_6 := below_on B_5 (Nat.le_refl _) b6
        have ra_6 := Row2.below ra_5 b6
        have rb_6 := Row2.below rb_5 b6
        have rc_6 := Row2.below rc_5 b6
        have AB_6 := Row2.below AB_5 b6
        have BA_6 := Row2.below BA_5 b6
        have MAB_6 := Row2.below MAB_5 b6
        have MBA_6 := Row2.below row5 b6
        clear B_5 ra_5 rb_5 rc_5 AB_5 BA_5 MAB_5 row5
        clear b6
        go_wp2_with fail
        refine (same_below (Spn.ans 1 la lb) (Spn.ans 1 lb la) true a4 a5 c4 c5 _ (ml.out 1 la lb) (ml.out 1 lb la) sM.out MAB_6 MBA_6).mono ?_; rintro e w7 ⟨rfl, b7⟩
        have B_7 := below_on B_6 (Nat.le_refl _) b7
        have ra_7 := Row2.below ra_6 b7
        have rb_7 := Row2.below rb_6 b7
        have rc_7 := Row2.below rc_6 b7
        have AB_7 := Row2.below AB_6 b7
        have BA_7 := Row2.below BA_6 b7
        have MAB_7 := Row2.below MAB_6 b7
        have MBA_7 := Row2.below MBA_6 b7
        clear B_6 ra_6 rb_6 rc_6 AB_6 BA_6 MAB_6 MBA_6
        clear b7
        clear BA_7 MBA_7
        go_wp2_with fail
        refine (pMeet_at la lc (Spn.ans 1 la lc) (Spn.code 1 la lc) a c ca cc _ ha hc rfl rfl na nc ra_7 rc_7).mono ?_; rintro e w8 ⟨v8, rfl, o8, b8⟩
        have B_8 := below_on B_7 (Nat.le_refl _) b8
        have ra_8 := Row2.below ra_7 b8
        have rb_8 := Row2.below rb_7 b8
        have rc_8 := Row2.below rc_7 b8
        have AB_8 := Row2.below AB_7 b8
        have MAB_8 := Row2.below MAB_7 b8
        clear B_7 ra_7 rb_7 rc_7 AB_7 MAB_7
        obtain ⟨a8, c8, hv8, nil8, row8⟩ := OwnS.row o8
        subst hv8
        clear o8 b8
        go_wp2_with fail
        refine (pMeet_at lb lc (Spn.ans 1 lb lc) (Spn.code 1 lb lc) b c cb cc _ hb hc rfl rfl nb nc rb_8 rc_8).mono ?_; rintro e w9 ⟨v9, rfl, o9, b9⟩
        have B_9 := below_on B_8 (Nat.le_refl _) b9
        have ra_9 := Row2.below ra_8 b9
        have rb_9 := Row2.below rb_8 b9
        have rc_9 := Row2.below rc_8 b9
        have AB_9 := Row2.below AB_8 b9
        have MAB_9 := Row2.below MAB_8 b9
        have MAC_9 := Row2.below row8 b9
        clear B_8 ra_8 rb_8 rc_8 AB_8 MAB_8 row8
        obtain ⟨a9, c9, hv9, nil9, row9⟩ := OwnS.row o9
        subst hv9
        clear o9 b9
        go_wp2
        go_ret
        exact ⟨rfl, B_9⟩
    · skip
      have neg : (Spn.code 1 la lb != 0) = true := by simpa using zg
      have nqg : (Spn.code 1 la lb == 0) = false := by simpa using zg
      have zh : ¬ Spn.code 1 lb la = 0 := fun h => zg ((Spn.code_comm 1 la lb (fun x y => by simp [Spn.opB_01, Bool.and_comm])).2 h)
      have neh : (Spn.code 1 lb la != 0) = true := by simpa using zh
      have nqh : (Spn.code 1 lb la == 0) = false := by simpa using zh
      go_enter Try.func7, Try.ntmps7
      go_wp2_with fail
      refine (sbegun_any _).mono ?_; rintro e w1 ⟨rfl, b1⟩
      have B_1 := below_on (Below.refl _ w) (Nat.le_refl _) b1
      have ra_1 := Row2.below ra b1
      have rb_1 := Row2.below rb b1
      have rc_1 := Row2.below rc b1
      clear ra rb rc
      clear b1
      go_wp2_with fail
      refine (pUnion_at la lb (Spn.ans 0 la lb) 0 a b ca cb _ ha hb rfl ze na nb ra_1 rb_1).mono ?_; rintro e w2 ⟨v2, rfl, o2, b2⟩
      have B_2 := below_on B_1 (Nat.le_refl _) b2
      have ra_2 := Row2.below ra_1 b2
      have rb_2 := Row2.below rb_1 b2
      have rc_2 := Row2.below rc_1 b2
      clear B_1 ra_1 rb_1 rc_1
      obtain ⟨a2, c2, hv2, nil2, row2⟩ := OwnS.row o2
      subst hv2
      clear o2 b2
      go_wp2_with fail
      refine (pUnion_at lb la (Spn.ans 0 lb la) 0 b a cb ca _ hb ha rfl zf nb na rb_2 ra_2).mono ?_; rintro e w3 ⟨v3, rfl, o3, b3⟩
      have B_3 := below_on B_2 (Nat.le_refl _) b3
      have ra_3 := Row2.below ra_2 b3
      have rb_3 := Row2.below rb_2 b3
      have rc_3 := Row2.below rc_2 b3
      have AB_3 := Row2.below row2 b3
      clear B_2 ra_2 rb_2 rc_2 row2
      obtain ⟨a3, c3, hv3, nil3, row3⟩ := OwnS.row o3
      subst hv3
      clear o3 b3
      go_wp2_with fail
      refine (pMeet_at la lb (Spn.ans 1 la lb) (Spn.code 1 la lb) a b ca cb _ ha hb rfl rfl na nb ra_3 rb_3).mono ?_; rintro e w4 ⟨v4, rfl, o4, b4⟩
      have B_4 := below_on B_3 (Nat.le_refl _) b4
      have ra_4 := Row2.below ra_3 b4
      have rb_4 := Row2.below rb_3 b4
      have rc_4 := Row2.below rc_3 b4
      have AB_4 := Row2.below AB_3 b4
      have BA_4 := Row2.below row3 b4
      clear B_3 ra_3 rb_3 rc_3 AB_3 row3
      obtain ⟨a4, c4, hv4, nil4, row4⟩ := OwnS.row o4
      subst hv4
      clear o4 b4
      go_wp2_with fail
      refine (pMeet_at lb la (Spn.ans 1 lb la) (Spn.code 1 lb la) b a cb ca _ hb ha rfl rfl nb na rb_4 ra_4).mono ?_; rintro e w5 ⟨v5, rfl, o5, b5⟩
      have B_5 := below_on B_4 (Nat.le_refl _) b5
      have ra_5 := Row2.below ra_4 b5
      have rb_5 := Row2.below rb_4 b5
      have rc_5 := Row2.below rc_4 b5
      have AB_5 := Row2.below AB_4 b5
      have BA_5 := Row2.below BA_4 b5
      have MAB_5 := Row2.below row4 b5
      clear B_4 ra_4 rb_4 rc_4 AB_4 BA_4 row4
      obtain ⟨a5, c5, hv5, nil5, row5⟩ := OwnS.row o5
      subst hv5
      clear o5 b5
      go_wp2_with fail
      refine (same_below (Spn.ans 0 la lb) (Spn.ans 0 lb la) true a2 a3 c2 c3 _ (ml.out 0 la lb) (ml.out 0 lb la) sAB.out AB_5 BA_5).mono ?_; rintro e w6 ⟨rfl, b6⟩
      have B_6 := below_on B_5 (Nat.le_refl _) b6
      have ra_6 := Row2.below ra_5 b6
      have rb_6 := Row2.below rb_5 b6
      have rc_6 := Row2.below rc_5 b6
      have AB_6 := Row2.below AB_5 b6
      have BA_6 := Row2.below BA_5 b6
      have MAB_6 := Row2.below MAB_5 b6
      have MBA_6 := Row2.below row5 b6
      clear B_5 ra_5 rb_5 rc_5 AB_5 BA_5 MAB_5 row5
      clear b6
      go_wp2_with fail
      refine (same_below (Spn.ans 1 la lb) (Spn.ans 1 lb la) true a4 a5 c4 c5 _ (ml.out 1 la lb) (ml.out 1 lb la) sM.out MAB_6 MBA_6).mono ?_; rintro e w7 ⟨rfl, b7⟩
      have B_7 := below_on B_6 (Nat.le_refl _) b7
      have ra_7 := Row2.below ra_6 b7
      have rb_7 := Row2.below rb_6 b7
      have rc_7 := Row2.below rc_6 b7
      have AB_7 := Row2.below AB_6 b7
      have BA_7 := Row2.below BA_6 b7
      have MAB_7 := Row2.below MAB_6 b7
      have MBA_7 := Row2.below MBA_6 b7
      clear B_6 ra_6 rb_6 rc_6 AB_6 BA_6 MAB_6 MBA_6
      clear b7
      clear BA_7 MBA_7
      go_wp2_with fail
      refine (pMeet_at la lc (Spn.ans 1 la lc) (Spn.code 1 la lc) a c ca cc _ ha hc rfl rfl na nc ra_7 rc_7).mono ?_; rintro e w8 ⟨v8, rfl, o8, b8⟩
      have B_8 := below_on B_7 (Nat.le_refl _) b8
      have ra_8 := Row2.below ra_7 b8
      have rb_8 := Row2.below rb_7 b8
      have rc_8 := Row2.below rc_7 b8
      have AB_8 := Row2.below AB_7 b8
      have MAB_8 := Row2.below MAB_7 b8
      clear B_7 ra_7 rb_7 rc_7 AB_7 MAB_7
      obtain ⟨a8, c8, hv8, nil8, row8⟩ := OwnS.row o8
      subst hv8
      clear o8 b8
      go_wp2_with fail
      refine (pMeet_at lb lc (Spn.ans 1 lb lc) (Spn.code 1 lb lc) b c cb cc _ hb hc rfl rfl nb nc rb_8 rc_8).mono ?_; rintro e w9 ⟨v9, rfl, o9, b9⟩
      have B_9 := below_on B_8 (Nat.le_refl _) b9
      have ra_9 := Row2.below ra_8 b9
      have rb_9 := Row2.below rb_8 b9
      have rc_9 := Row2.below rc_8 b9
      have AB_9 := Row2.below AB_8 b9
      have MAB_9 := Row2.below MAB_8 b9
      have MAC_9 := Row2.below row8 b9
      clear B_8 ra_8 rb_8 rc_8 AB_8 MAB_8 row8
      obtain ⟨a9, c9, hv9, nil9, row9⟩ := OwnS.row o9
      subst hv9
      clear o9 b9
      go_wp2
      go_ret
      exact ⟨rfl, B_9⟩
  · skip
    have nee : (Spn.code 0 la lb != 0) = true := by simpa using ze
    have nqe : (Spn.code 0 la lb == 0) = false := by simpa using ze
    have zf : ¬ Spn.code 0 lb la = 0 := fun h => ze ((Spn.code_comm 0 la lb (fun x y => by simp [Spn.opB_00, Bool.or_comm])).2 h)
    have nef : (Spn.code 0 lb la != 0) = true := by simpa using zf
    have nqf : (Spn.code 0 lb la == 0) = false := by simpa using zf
    by_cases zg : Spn.code 1 la lb = 0
    · skip
      have zh := (Spn.code_comm 1 la lb (fun x y => by simp [Spn.opB_01, Bool.and_comm])).1 zg
      go_enter Try.func7, Try.ntmps7
      go_wp2_with fail
      refine (sbegun_any _).mono ?_; rintro e w1 ⟨rfl, b1⟩
      have B_1 := below_on (Below.refl _ w) (Nat.le_refl _) b1
      have ra_1 := Row2.below ra b1
      have rb_1 := Row2.below rb b1
      have rc_1 := Row2.below rc b1
      clear ra rb rc
      clear b1
      go_wp2_with fail
      refine (pUnion_at la lb (Spn.ans 0 la lb) (Spn.code 0 la lb) a b ca cb _ ha hb rfl rfl na nb ra_1 rb_1).mono ?_; rintro e w2 ⟨v2, rfl, o2, b2⟩
      have B_2 := below_on B_1 (Nat.le_refl _) b2
      have ra_2 := Row2.below ra_1 b2
      have rb_2 := Row2.below rb_1 b2
      have rc_2 := Row2.below rc_1 b2
      clear B_1 ra_1 rb_1 rc_1
      obtain ⟨a2, c2, hv2, nil2, row2⟩ := OwnS.row o2
      subst hv2
      clear o2 b2
      go_wp2_with fail
      refine (pUnion_at lb la (Spn.ans 0 lb la) (Spn.code 0 lb la) b a cb ca _ hb ha rfl rfl nb na rb_2 ra_2).mono ?_; rintro e w3 ⟨v3, rfl, o3, b3⟩
      have B_3 := below_on B_2 (Nat.le_refl _) b3
      have ra_3 := Row2.below ra_2 b3
      have rb_3 := Row2.below rb_2 b3
      have rc_3 := Row2.below rc_2 b3
      have AB_3 := Row2.below row2 b3
      clear B_2 ra_2 rb_2 rc_2 row2
      obtain ⟨a3, c3, hv3, nil3, row3⟩ := OwnS.row o3
      subst hv3
      clear o3 b3
      go_wp2_with fail
      refine (pMeet_at la lb (Spn.ans 1 la lb) 0 a b ca cb _ ha hb rfl zg na nb ra_3 rb_3).mono ?_; rintro e w4 ⟨v4, rfl, o4, b4⟩
      have B_4 := below_on B_3 (Nat.le_refl _) b4
      have ra_4 := Row2.below ra_3 b4
      have rb_4 := Row2.below rb_3 b4
      have rc_4 := Row2.below rc_3 b4
      have AB_4 := Row2.below AB_3 b4
      have BA_4 := Row2.below row3 b4
      clear B_3 ra_3 rb_3 rc_3 AB_3 row3
      obtain ⟨a4, c4, hv4, nil4, row4⟩ := OwnS.row o4
      subst hv4
      clear o4 b4
      go_wp2_with fail
      refine (pMeet_at lb la (Spn.ans 1 lb la) 0 b a cb ca _ hb ha rfl zh nb na rb_4 ra_4).mono ?_; rintro e w5 ⟨v5, rfl, o5, b5⟩
      have B_5 := below_on B_4 (Nat.le_refl _) b5
      have ra_5 := Row2.below ra_4 b5
      have rb_5 := Row2.below rb_4 b5
      have rc_5 := Row2.below rc_4 b5
      have AB_5 := Row2.below AB_4 b5
      have BA_5 := Row2.below BA_4 b5
      have MAB_5 := Row2.below row4 b5
      clear B_4 ra_4 rb_4 rc_4 AB_4 BA_4 row4
      obtain ⟨a5, c5, hv5, nil5, row5⟩ := OwnS.row o5
      subst hv5
      clear o5 b5
      go_wp2_with fail
      refine (same_below (Spn.ans 0 la lb) (Spn.ans 0 lb la) true a2 a3 c2 c3 _ (ml.out 0 la lb) (ml.out 0 lb la) sAB.out AB_5 BA_5).mono ?_; rintro e w6 ⟨rfl, b6⟩
      have B_6 := below_on B_5 (Nat.le_refl _) b6
      have ra_6 := Row2.below ra_5 b6
      have rb_6 := Row2.below rb_5 b6
      have rc_6 := Row2.below rc_5 b6
      have AB_6 := Row2.below AB_5 b6
      have BA_6 := Row2.below BA_5 b6
      have MAB_6 := Row2.below MAB_5 b6
      have MBA_6 := Row2.below row5 b6
      clear B_5 ra_5 rb_5 rc_5 AB_5 BA_5 MAB_5 row5
      clear b6
      go_wp2_with fail
      refine (same_below (Spn.ans 1 la lb) (Spn.ans 1 lb la) true a4 a5 c4 c5 _ (ml.out 1 la lb) (ml.out 1 lb la) sM.out MAB_6 MBA_6).mono ?_; rintro e w7 ⟨rfl, b7⟩
      have B_7 := below_on B_6 (Nat.le_refl _) b7
      have ra_7 := Row2.below ra_6 b7
      have rb_7 := Row2.below rb_6 b7
      have rc_7 := Row2.below rc_6 b7
      have AB_7 := Row2.below AB_6 b7
      have BA_7 := Row2.below BA_6 b7
      have MAB_7 := Row2.below MAB_6 b7
      have MBA_7 := Row2.below MBA_6 b7
      clear B_6 ra_6 rb_6 rc_6 AB_6 BA_6 MAB_6 MBA_6
      clear b7
      clear BA_7 MBA_7
      go_wp2_with fail
      refine (pMeet_at la lc (Spn.ans 1 la lc) (Spn.code 1 la lc) a c ca cc _ ha hc rfl rfl na nc ra_7 rc_7).mono ?_; rintro e w8 ⟨v8, rfl, o8, b8⟩
      have B_8 := below_on B_7 (Nat.le_refl _) b8
      have ra_8 := Row2.below ra_7 b8
      have rb_8 := Row2.below rb_7 b8
      have rc_8 := Row2.below rc_7 b8
      have AB_8 := Row2.below AB_7 b8
      have MAB_8 := Row2.below MAB_7 b8
      clear B_7 ra_7 rb_7 rc_7 AB_7 MAB_7
      obtain ⟨a8, c8, hv8, nil8, row8⟩ := OwnS.row o8
      subst hv8
      clear o8 b8
      go_wp2_with fail
      refine (pMeet_at lb lc (Spn.ans 1 lb lc) (Spn.code 1 lb lc) b c cb cc _ hb hc rfl rfl nb nc rb_8 rc_8).mono ?_; rintro e w9 ⟨v9, rfl, o9, b9⟩
      have B_9 := below_on B_8 (Nat.le_refl _) b9
      have ra_9 := Row2.below ra_8 b9
      have rb_9 := Row2.below rb_8 b9
      have rc_9 := Row2.below rc_8 b9
      have AB_9 := Row2.below AB_8 b9
      have MAB_9 := Row2.below MAB_8 b9
      have MAC_9 := Row2.below row8 b9
      clear B_8 ra_8 rb_8 rc_8 AB_8 MAB_8 row8
      obtain ⟨a9, c9, hv9, nil9, row9⟩ := OwnS.row o9
      subst hv9
      clear o9 b9
      go_wp2
      go_ret
      exact ⟨rfl, B_9⟩
    · skip
      have neg : (Spn.code 1 la lb != 0) = true := by simpa using zg
      have nqg : (Spn.code 1 la lb == 0) = false := by simpa using zg
      have zh : ¬ Spn.code 1 lb la = 0 := fun h => zg ((Spn.code_comm 1 la lb (fun x y => by simp [Spn.opB_01, Bool.and_comm])).2 h)
      have neh : (Spn.code 1 lb la != 0) = true := by simpa using zh
      have nqh : (Spn.code 1 lb la == 0) = false := by simpa using zh
      go_enter Try.func7, Try.ntmps7
      go_wp2_with fail
      refine (sbegun_any _).mono ?_; rintro e w1 ⟨rfl, b1⟩
      have B_1 := below_on (Below.refl _ w) (Nat.le_refl _) b1
      have ra_1 := Row2.below ra b1
      have rb_1 := Row2.below rb b1
      have rc_1 := Row2.below rc b1
      clear ra rb rc
      clear b1
      go_wp2_with fail
      refine (pUnion_at la lb (Spn.ans 0 la lb) (Spn.code 0 la lb) a b ca cb _ ha hb rfl rfl na nb ra_1 rb_1).mono ?_; rintro e w2 ⟨v2, rfl, o2, b2⟩
      have B_2 := below_on B_1 (Nat.le_refl _) b2
      have ra_2 := Row2.below ra_1 b2
      have rb_2 := Row2.below rb_1 b2
      have rc_2 := Row2.below rc_1 b2
      clear B_1 ra_1 rb_1 rc_1
      obtain ⟨a2, c2, hv2, nil2, row2⟩ := OwnS.row o2
      subst hv2
      clear o2 b2
      go_wp2_with fail
      refine (pUnion_at lb la (Spn.ans 0 lb la) (Spn.code 0 lb la) b a cb ca _ hb ha rfl rfl nb na rb_2 ra_2).mono ?_; rintro e w3 ⟨v3, rfl, o3, b3⟩
      have B_3 := below_on B_2 (Nat.le_refl _) b3
      have ra_3 := Row2.below ra_2 b3
      have rb_3 := Row2.below rb_2 b3
      have rc_3 := Row2.below rc_2 b3
      have AB_3 := Row2.below row2 b3
      clear B_2 ra_2 rb_2 rc_2 row2
      obtain ⟨a3, c3, hv3, nil3, row3⟩ := OwnS.row o3
      subst hv3
      clear o3 b3
      go_wp2_with fail
      refine (pMeet_at la lb (Spn.ans 1 la lb) (Spn.code 1 la lb) a b ca cb _ ha hb rfl rfl na nb ra_3 rb_3).mono ?_; rintro e w4 ⟨v4, rfl, o4, b4⟩
      have B_4 := below_on B_3 (Nat.le_refl _) b4
      have ra_4 := Row2.below ra_3 b4
      have rb_4 := Row2.below rb_3 b4
      have rc_4 := Row2.below rc_3 b4
      have AB_4 := Row2.below AB_3 b4
      have BA_4 := Row2.below row3 b4
      clear B_3 ra_3 rb_3 rc_3 AB_3 row3
      obtain ⟨a4, c4, hv4, nil4, row4⟩ := OwnS.row o4
      subst hv4
      clear o4 b4
      go_wp2_with fail
      refine (pMeet_at lb la (Spn.ans 1 lb la) (Spn.code 1 lb la) b a cb ca _ hb ha rfl rfl nb na rb_4 ra_4).mono ?_; rintro e w5 ⟨v5, rfl, o5, b5⟩
      have B_5 := below_on B_4 (Nat.le_refl _) b5
      have ra_5 := Row2.below ra_4 b5
      have rb_5 := Row2.below rb_4 b5
      have rc_5 := Row2.below rc_4 b5
      have AB_5 := Row2.below AB_4 b5
      have BA_5 := Row2.below BA_4 b5
      have MAB_5 := Row2.below row4 b5
      clear B_4 ra_4 rb_4 rc_4 AB_4 BA_4 row4
      obtain ⟨a5, c5, hv5, nil5, row5⟩ := OwnS.row o5
      subst hv5
      clear o5 b5
      go_wp2_with fail
      refine (same_below (Spn.ans 0 la lb) (Spn.ans 0 lb la) true a2 a3 c2 c3 _ (ml.out 0 la lb) (ml.out 0 lb la) sAB.out AB_5 BA_5).mono ?_; rintro e w6 ⟨rfl, b6⟩
      have B_6 := below_on B_5 (Nat.le_refl _) b6
      have ra_6 := Row2.below ra_5 b6
      have rb_6 := Row2.below rb_5 b6
      have rc_6 := Row2.below rc_5 b6
      have AB_6 := Row2.below AB_5 b6
      have BA_6 := Row2.below BA_5 b6
      have MAB_6 := Row2.below MAB_5 b6
      have MBA_6 := Row2.below row5 b6
      clear B_5 ra_5 rb_5 rc_5 AB_5 BA_5 MAB_5 row5
      clear b6
      go_wp2_with fail
      refine (same_below (Spn.ans 1 la lb) (Spn.ans 1 lb la) true a4 a5 c4 c5 _ (ml.out 1 la lb) (ml.out 1 lb la) sM.out MAB_6 MBA_6).mono ?_; rintro e w7 ⟨rfl, b7⟩
      have B_7 := below_on B_6 (Nat.le_refl _) b7
      have ra_7 := Row2.below ra_6 b7
      have rb_7 := Row2.below rb_6 b7
      have rc_7 := Row2.below rc_6 b7
      have AB_7 := Row2.below AB_6 b7
      have BA_7 := Row2.below BA_6 b7
      have MAB_7 := Row2.below MAB_6 b7
      have MBA_7 := Row2.below MBA_6 b7
      clear B_6 ra_6 rb_6 rc_6 AB_6 BA_6 MAB_6 MBA_6
      clear b7
      clear BA_7 MBA_7
      go_wp2_with fail
      refine (pMeet_at la lc (Spn.ans 1 la lc) (Spn.code 1 la lc) a c ca cc _ ha hc rfl rfl na nc ra_7 rc_7).mono ?_; rintro e w8 ⟨v8, rfl, o8, b8⟩
      have B_8 := below_on B_7 (Nat.le_refl _) b8
      have ra_8 := Row2.below ra_7 b8
      have rb_8 := Row2.below rb_7 b8
      have rc_8 := Row2.below rc_7 b8
      have AB_8 := Row2.below AB_7 b8
      have MAB_8 := Row2.below MAB_7 b8
      clear B_7 ra_7 rb_7 rc_7 AB_7 MAB_7
      obtain ⟨a8, c8, hv8, nil8, row8⟩ := OwnS.row o8
      subst hv8
      clear o8 b8
      go_wp2_with fail
      refine (pMeet_at lb lc (Spn.ans 1 lb lc) (Spn.code 1 lb lc) b c cb cc _ hb hc rfl rfl nb nc rb_8 rc_8).mono ?_; rintro e w9 ⟨v9, rfl, o9, b9⟩
      have B_9 := below_on B_8 (Nat.le_refl _) b9
      have ra_9 := Row2.below ra_8 b9
      have rb_9 := Row2.below rb_8 b9
      have rc_9 := Row2.below rc_8 b9
      have AB_9 := Row2.below AB_8 b9
      have MAB_9 := Row2.below MAB_8 b9
      have MAC_9 := Row2.below row8 b9
      clear B_8 ra_8 rb_8 rc_8 AB_8 MAB_8 row8
      obtain ⟨a9, c9, hv9, nil9, row9⟩ := OwnS.row o9
      subst hv9
      clear o9 b9
      go_wp2
      go_ret
      exact ⟨rfl, B_9⟩
end Go.Proofs.Ytmhmdjlongimaaa
