/- The walk of SpansHas: it answers true, whatever it is handed. -/
import Derived.Test.YtmhmdjlongimaaaLawSpans1
namespace Go.Proofs.Ytmhmdjlongimaaa
open Go.RowKit Go.BigFrame
namespace Spn
theorem opB_00 (x y : Bool) : opB 0 x y = (x || y) := by simp [opB]
theorem opB_01 (x y : Bool) : opB 1 x y = (x && y) := by simp [opB]
theorem opB_02 (x y : Bool) : opB 2 x y = (x && !y) := by simp [opB]
theorem has_res (op : Int) (a b : List Sp) (n : Int) (ha : chk a = 0) (hb : chk b = 0) : chk (ans op a b) = 0 ∧ ((code op a b = 0 ∧ memB (ans op a b) n = opB op (memB a n) (memB b n)) ∨ (code op a b = 2 ∧ memB (ans op a b) n = false)) := by
  by_cases h : code op a b = 0
  · have k := ans_chk op a b h
    exact ⟨k.1, .inl ⟨h, k.2 n⟩⟩
  · have e : code op a b = 2 := by
      unfold code at h ⊢
      rw [if_pos ha, if_pos hb] at h ⊢
      by_cases c : 64 < (both op a b).length
      · rw [if_pos c]
      · rw [if_neg c] at h; exact absurd rfl h
    have en : ans op a b = [] := by unfold ans; rw [if_neg h]
    exact ⟨by rw [en]; decide, .inr ⟨e, by rw [en]; rfl⟩⟩
end Spn
set_option maxRecDepth 100000 in
set_option maxHeartbeats 4000000 in
theorem spansHas_any (la lb : List Spn.Sp) (a b : Option Addr) (ca cb : Nat) (n : Int) (w : World) (ha : la.length ≤ maxLen) (na : a = none → ca = 0 ∧ la = []) (ra : Row2 w a la) (hb : lb.length ≤ maxLen) (nb : b = none → cb = 0 ∧ lb = []) (rb : Row2 w b lb) :
    Calls Try.prog 5 #[.slice a la.length ca, .slice b lb.length cb, .int .i64 n] w fun e w' => e = .returned (.bool true) ∧ Below w.heap.size w w' := by
  have m0 : (Spn.ans 0 la lb).length ≤ maxLen := by have := Spn.ans_len 0 la lb; unfold maxLen; omega
  have m1 : (Spn.ans 1 la lb).length ≤ maxLen := by have := Spn.ans_len 1 la lb; unfold maxLen; omega
  have m2 : (Spn.ans 2 la lb).length ≤ maxLen := by have := Spn.ans_len 2 la lb; unfold maxLen; omega
  by_cases za : Spn.chk la = 0
  · by_cases zb : Spn.chk lb = 0
    · obtain ⟨k0, c0⟩ := Spn.has_res 0 la lb n za zb
      obtain ⟨k1, c1⟩ := Spn.has_res 1 la lb n za zb
      obtain ⟨k2, c2⟩ := Spn.has_res 2 la lb n za zb
      cases hX : Spn.memB la n <;> cases hY : Spn.memB lb n <;> rw [hX, hY] at c0 c1 c2 <;> simp only [Spn.opB_00, Spn.opB_01, Spn.opB_02] at c0 c1 c2 <;> simp only [Bool.or_false, Bool.or_true, Bool.and_false, Bool.and_true, Bool.not_false, Bool.not_true] at c0 c1 c2 <;> rcases c0 with ⟨e0, p0⟩ | ⟨e0, p0⟩ <;> rcases c1 with ⟨e1, p1⟩ | ⟨e1, p1⟩ <;> rcases c2 with ⟨e2, p2⟩ | ⟨e2, p2⟩
      all_goals
        go_enter Try.func5, Try.ntmps5
        go_wp2_with fail
        refine (pUnion_at la lb (Spn.ans 0 la lb) _ a b ca cb _ ha hb rfl e0 na nb ra rb).mono ?_; rintro e w1 ⟨v1, rfl, o1, b1⟩
        have B_1 := below_on (Below.refl _ w) (Nat.le_refl _) b1
        have ra_1 := Row2.below ra b1
        have rb_1 := Row2.below rb b1
        clear ra rb
        obtain ⟨a1, c1, hv1, nil1, row1⟩ := OwnS.row o1
        subst hv1
        clear o1 b1
        go_wp2_with fail
        refine (pMeet_at la lb (Spn.ans 1 la lb) _ a b ca cb _ ha hb rfl e1 na nb ra_1 rb_1).mono ?_; rintro e w2 ⟨v2, rfl, o2, b2⟩
        have B_2 := below_on B_1 (Nat.le_refl _) b2
        have ra_2 := Row2.below ra_1 b2
        have rb_2 := Row2.below rb_1 b2
        have U_2 := Row2.below row1 b2
        clear B_1 ra_1 rb_1 row1
        obtain ⟨a2, c2, hv2, nil2, row2⟩ := OwnS.row o2
        subst hv2
        clear o2 b2
        go_wp2_with fail
        refine (pMinus_at la lb (Spn.ans 2 la lb) _ a b ca cb _ ha hb rfl e2 na nb ra_2 rb_2).mono ?_; rintro e w3 ⟨v3, rfl, o3, b3⟩
        have B_3 := below_on B_2 (Nat.le_refl _) b3
        have ra_3 := Row2.below ra_2 b3
        have rb_3 := Row2.below rb_2 b3
        have U_3 := Row2.below U_2 b3
        have M_3 := Row2.below row2 b3
        clear B_2 ra_2 rb_2 U_2 row2
        obtain ⟨a3, c3, hv3, nil3, row3⟩ := OwnS.row o3
        subst hv3
        clear o3 b3
        go_wp2_with fail
        refine (sbegun_any _).mono ?_; rintro e w4 ⟨rfl, b4⟩
        have B_4 := below_on B_3 (Nat.le_refl _) b4
        have ra_4 := Row2.below ra_3 b4
        have rb_4 := Row2.below rb_3 b4
        have U_4 := Row2.below U_3 b4
        have M_4 := Row2.below M_3 b4
        have D_4 := Row2.below row3 b4
        clear B_3 ra_3 rb_3 U_3 M_3 row3
        clear b4
        go_wp2_with fail
        refine (pCheck_at la 0 a ca _ ha za ra_4).mono ?_; rintro e w5 ⟨rfl, b5⟩
        have B_5 := below_on B_4 (Nat.le_refl _) b5
        have ra_5 := Row2.below ra_4 b5
        have rb_5 := Row2.below rb_4 b5
        have U_5 := Row2.below U_4 b5
        have M_5 := Row2.below M_4 b5
        have D_5 := Row2.below D_4 b5
        clear B_4 ra_4 rb_4 U_4 M_4 D_4
        clear b5
        go_wp2_with fail
        refine (pCheck_at lb 0 b cb _ hb zb rb_5).mono ?_; rintro e w6 ⟨rfl, b6⟩
        have B_6 := below_on B_5 (Nat.le_refl _) b6
        have ra_6 := Row2.below ra_5 b6
        have rb_6 := Row2.below rb_5 b6
        have U_6 := Row2.below U_5 b6
        have M_6 := Row2.below M_5 b6
        have D_6 := Row2.below D_5 b6
        clear B_5 ra_5 rb_5 U_5 M_5 D_5
        clear b6
        go_wp2_with fail
        refine (hasDay_below la a ca n _ ha ra_6).mono ?_; rintro e w7 ⟨rfl, b7⟩
        have B_7 := below_on B_6 (Nat.le_refl _) b7
        have ra_7 := Row2.below ra_6 b7
        have rb_7 := Row2.below rb_6 b7
        have U_7 := Row2.below U_6 b7
        have M_7 := Row2.below M_6 b7
        have D_7 := Row2.below D_6 b7
        clear B_6 ra_6 rb_6 U_6 M_6 D_6
        clear b7
        go_wp2_with fail
        refine (hasDay_below lb b cb n _ hb rb_7).mono ?_; rintro e w8 ⟨rfl, b8⟩
        have B_8 := below_on B_7 (Nat.le_refl _) b8
        have ra_8 := Row2.below ra_7 b8
        have rb_8 := Row2.below rb_7 b8
        have U_8 := Row2.below U_7 b8
        have M_8 := Row2.below M_7 b8
        have D_8 := Row2.below D_7 b8
        clear B_7 ra_7 rb_7 U_7 M_7 D_7
        clear b8
        go_wp2_with fail
        refine (pHas_at (Spn.ans 0 la lb) n 0 (Spn.memB (Spn.ans 0 la lb) n) a1 c1 _ m0 (by simp [k0]) k0 U_8).mono ?_; rintro e w9 ⟨rfl, b9⟩
        have B_9 := below_on B_8 (Nat.le_refl _) b9
        have ra_9 := Row2.below ra_8 b9
        have rb_9 := Row2.below rb_8 b9
        have U_9 := Row2.below U_8 b9
        have M_9 := Row2.below M_8 b9
        have D_9 := Row2.below D_8 b9
        clear B_8 ra_8 rb_8 U_8 M_8 D_8
        clear b9
        go_wp2_with fail
        refine (pHas_at (Spn.ans 1 la lb) n 0 (Spn.memB (Spn.ans 1 la lb) n) a2 c2 _ m1 (by simp [k1]) k1 M_9).mono ?_; rintro e w10 ⟨rfl, b10⟩
        have B_10 := below_on B_9 (Nat.le_refl _) b10
        have ra_10 := Row2.below ra_9 b10
        have rb_10 := Row2.below rb_9 b10
        have U_10 := Row2.below U_9 b10
        have M_10 := Row2.below M_9 b10
        have D_10 := Row2.below D_9 b10
        clear B_9 ra_9 rb_9 U_9 M_9 D_9
        clear b10
        go_wp2_with fail
        refine (pHas_at (Spn.ans 2 la lb) n 0 (Spn.memB (Spn.ans 2 la lb) n) a3 c3 _ m2 (by simp [k2]) k2 D_10).mono ?_; rintro e w11 ⟨rfl, b11⟩
        have B_11 := below_on B_10 (Nat.le_refl _) b11
        have ra_11 := Row2.below ra_10 b11
        have rb_11 := Row2.below rb_10 b11
        have U_11 := Row2.below U_10 b11
        have M_11 := Row2.below M_10 b11
        have D_11 := Row2.below D_10 b11
        clear B_10 ra_10 rb_10 U_10 M_10 D_10
        clear b11
        go_wp2
        go_ret
        exact ⟨rfl, B_11⟩
    · have zb' : (Spn.chk lb != 0) = true := by simpa using zb
      have e0 : Spn.code 0 la lb = Spn.chk lb := by unfold Spn.code; rw [if_pos za, if_neg zb]
      have e1 : Spn.code 1 la lb = Spn.chk lb := by unfold Spn.code; rw [if_pos za, if_neg zb]
      have e2 : Spn.code 2 la lb = Spn.chk lb := by unfold Spn.code; rw [if_pos za, if_neg zb]
      go_enter Try.func5, Try.ntmps5
      go_wp2_with fail
      refine (pUnion_at la lb (Spn.ans 0 la lb) _ a b ca cb _ ha hb rfl e0 na nb ra rb).mono ?_; rintro e w1 ⟨v1, rfl, o1, b1⟩
      have B_1 := below_on (Below.refl _ w) (Nat.le_refl _) b1
      have ra_1 := Row2.below ra b1
      have rb_1 := Row2.below rb b1
      clear ra rb
      obtain ⟨a1, c1, hv1, nil1, row1⟩ := OwnS.row o1
      subst hv1
      clear o1 b1
      go_wp2_with fail
      refine (pMeet_at la lb (Spn.ans 1 la lb) _ a b ca cb _ ha hb rfl e1 na nb ra_1 rb_1).mono ?_; rintro e w2 ⟨v2, rfl, o2, b2⟩
      have B_2 := below_on B_1 (Nat.le_refl _) b2
      have ra_2 := Row2.below ra_1 b2
      have rb_2 := Row2.below rb_1 b2
      have U_2 := Row2.below row1 b2
      clear B_1 ra_1 rb_1 row1
      obtain ⟨a2, c2, hv2, nil2, row2⟩ := OwnS.row o2
      subst hv2
      clear o2 b2
      go_wp2_with fail
      refine (pMinus_at la lb (Spn.ans 2 la lb) _ a b ca cb _ ha hb rfl e2 na nb ra_2 rb_2).mono ?_; rintro e w3 ⟨v3, rfl, o3, b3⟩
      have B_3 := below_on B_2 (Nat.le_refl _) b3
      have ra_3 := Row2.below ra_2 b3
      have rb_3 := Row2.below rb_2 b3
      have U_3 := Row2.below U_2 b3
      have M_3 := Row2.below row2 b3
      clear B_2 ra_2 rb_2 U_2 row2
      obtain ⟨a3, c3, hv3, nil3, row3⟩ := OwnS.row o3
      subst hv3
      clear o3 b3
      go_wp2_with fail
      refine (sbegun_any _).mono ?_; rintro e w4 ⟨rfl, b4⟩
      have B_4 := below_on B_3 (Nat.le_refl _) b4
      have ra_4 := Row2.below ra_3 b4
      have rb_4 := Row2.below rb_3 b4
      have U_4 := Row2.below U_3 b4
      have M_4 := Row2.below M_3 b4
      have D_4 := Row2.below row3 b4
      clear B_3 ra_3 rb_3 U_3 M_3 row3
      clear b4
      go_wp2_with fail
      refine (pCheck_at la 0 a ca _ ha za ra_4).mono ?_; rintro e w5 ⟨rfl, b5⟩
      have B_5 := below_on B_4 (Nat.le_refl _) b5
      have ra_5 := Row2.below ra_4 b5
      have rb_5 := Row2.below rb_4 b5
      have U_5 := Row2.below U_4 b5
      have M_5 := Row2.below M_4 b5
      have D_5 := Row2.below D_4 b5
      clear B_4 ra_4 rb_4 U_4 M_4 D_4
      clear b5
      go_wp2_with fail
      refine (pCheck_at lb _ b cb _ hb rfl rb_5).mono ?_; rintro e w6 ⟨rfl, b6⟩
      have B_6 := below_on B_5 (Nat.le_refl _) b6
      have ra_6 := Row2.below ra_5 b6
      have rb_6 := Row2.below rb_5 b6
      have U_6 := Row2.below U_5 b6
      have M_6 := Row2.below M_5 b6
      have D_6 := Row2.below D_5 b6
      clear B_5 ra_5 rb_5 U_5 M_5 D_5
      clear b6
      go_wp2
      go_ret
      exact ⟨rfl, B_6⟩
  · have za' : (Spn.chk la != 0) = true := by simpa using za
    have e0 : Spn.code 0 la lb = Spn.chk la := by unfold Spn.code; rw [if_neg za]
    have e1 : Spn.code 1 la lb = Spn.chk la := by unfold Spn.code; rw [if_neg za]
    have e2 : Spn.code 2 la lb = Spn.chk la := by unfold Spn.code; rw [if_neg za]
    go_enter Try.func5, Try.ntmps5
    go_wp2_with fail
    refine (pUnion_at la lb (Spn.ans 0 la lb) _ a b ca cb _ ha hb rfl e0 na nb ra rb).mono ?_; rintro e w1 ⟨v1, rfl, o1, b1⟩
    have B_1 := below_on (Below.refl _ w) (Nat.le_refl _) b1
    have ra_1 := Row2.below ra b1
    have rb_1 := Row2.below rb b1
    clear ra rb
    obtain ⟨a1, c1, hv1, nil1, row1⟩ := OwnS.row o1
    subst hv1
    clear o1 b1
    go_wp2_with fail
    refine (pMeet_at la lb (Spn.ans 1 la lb) _ a b ca cb _ ha hb rfl e1 na nb ra_1 rb_1).mono ?_; rintro e w2 ⟨v2, rfl, o2, b2⟩
    have B_2 := below_on B_1 (Nat.le_refl _) b2
    have ra_2 := Row2.below ra_1 b2
    have rb_2 := Row2.below rb_1 b2
    have U_2 := Row2.below row1 b2
    clear B_1 ra_1 rb_1 row1
    obtain ⟨a2, c2, hv2, nil2, row2⟩ := OwnS.row o2
    subst hv2
    clear o2 b2
    go_wp2_with fail
    refine (pMinus_at la lb (Spn.ans 2 la lb) _ a b ca cb _ ha hb rfl e2 na nb ra_2 rb_2).mono ?_; rintro e w3 ⟨v3, rfl, o3, b3⟩
    have B_3 := below_on B_2 (Nat.le_refl _) b3
    have ra_3 := Row2.below ra_2 b3
    have rb_3 := Row2.below rb_2 b3
    have U_3 := Row2.below U_2 b3
    have M_3 := Row2.below row2 b3
    clear B_2 ra_2 rb_2 U_2 row2
    obtain ⟨a3, c3, hv3, nil3, row3⟩ := OwnS.row o3
    subst hv3
    clear o3 b3
    go_wp2_with fail
    refine (sbegun_any _).mono ?_; rintro e w4 ⟨rfl, b4⟩
    have B_4 := below_on B_3 (Nat.le_refl _) b4
    have ra_4 := Row2.below ra_3 b4
    have rb_4 := Row2.below rb_3 b4
    have U_4 := Row2.below U_3 b4
    have M_4 := Row2.below M_3 b4
    have D_4 := Row2.below row3 b4
    clear B_3 ra_3 rb_3 U_3 M_3 row3
    clear b4
    go_wp2_with fail
    refine (pCheck_at la _ a ca _ ha rfl ra_4).mono ?_; rintro e w5 ⟨rfl, b5⟩
    have B_5 := below_on B_4 (Nat.le_refl _) b5
    have ra_5 := Row2.below ra_4 b5
    have rb_5 := Row2.below rb_4 b5
    have U_5 := Row2.below U_4 b5
    have M_5 := Row2.below M_4 b5
    have D_5 := Row2.below D_4 b5
    clear B_4 ra_4 rb_4 U_4 M_4 D_4
    clear b5
    go_wp2
    go_ret
    exact ⟨rfl, B_5⟩
end Go.Proofs.Ytmhmdjlongimaaa
