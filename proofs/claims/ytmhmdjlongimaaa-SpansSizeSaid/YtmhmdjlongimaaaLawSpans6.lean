/- The walk of SpansSize: it answers true, whatever it is handed. -/
import Derived.Test.YtmhmdjlongimaaaSBegun
namespace Go.Proofs.Ytmhmdjlongimaaa
open Go.RowKit Go.BigFrame
set_option maxRecDepth 100000 in
set_option maxHeartbeats 4000000 in
theorem spansSize_any (la lb : List Spn.Sp) (a b : Option Addr) (ca cb : Nat) (w : World) (ha : la.length ≤ maxLen) (na : a = none → ca = 0 ∧ la = []) (ra : Row2 w a la) (hb : lb.length ≤ maxLen) (nb : b = none → cb = 0 ∧ lb = []) (rb : Row2 w b lb) :
    Calls Try.prog 8 #[.slice a la.length ca, .slice b lb.length cb] w fun e w' => e = .returned (.bool true) ∧ Below w.heap.size w w' := by
  have m0 : (Spn.ans 0 la lb).length ≤ maxLen := by have := Spn.ans_len 0 la lb; unfold maxLen; omega
  have m1 : (Spn.ans 1 la lb).length ≤ maxLen := by have := Spn.ans_len 1 la lb; unfold maxLen; omega
  have m2 : (Spn.ans 2 la lb).length ≤ maxLen := by have := Spn.ans_len 2 la lb; unfold maxLen; omega
  by_cases z0 : Spn.code 0 la lb = 0
  · by_cases z1 : Spn.code 1 la lb = 0
    · by_cases z2 : Spn.code 2 la lb = 0
      · obtain ⟨za, zb, _⟩ := Spn.code_zero 0 la lb z0
        obtain ⟨k0, q0⟩ := Spn.ans_chk 0 la lb z0
        obtain ⟨k1, q1⟩ := Spn.ans_chk 1 la lb z1
        obtain ⟨k2, q2⟩ := Spn.ans_chk 2 la lb z2
        have E1 := Spn.size_pair (Spn.ans 0 la lb) (Spn.ans 1 la lb) la lb k0 k1 za zb (fun n => by rw [q0 n, q1 n]; cases Spn.memB la n <;> cases Spn.memB lb n <;> simp [Spn.opB])
        have E2 := Spn.size_pair (Spn.ans 1 la lb) (Spn.ans 2 la lb) la [] k1 k2 za (by decide) (fun n => by rw [q1 n, q2 n]; cases Spn.memB la n <;> cases Spn.memB lb n <;> simp [Spn.opB, Spn.memB])
        have E3 : Spn.size [] = 0 := rfl
        rw [E3] at E2
        have b0 := Spn.size_chk _ k0
        have b1 := Spn.size_chk _ k1
        have b2 := Spn.size_chk _ k2
        have b3 := Spn.size_chk _ za
        have b4 := Spn.size_chk _ zb
        clear q0 q1 q2 E3
        obtain ⟨su, hsu⟩ : ∃ s, Spn.size (Spn.ans 0 la lb) = s := ⟨_, rfl⟩
        have HSu : Hid (Spn.size (Spn.ans 0 la lb) = su) := hsu
        obtain ⟨sm, hsm⟩ : ∃ s, Spn.size (Spn.ans 1 la lb) = s := ⟨_, rfl⟩
        have HSm : Hid (Spn.size (Spn.ans 1 la lb) = sm) := hsm
        obtain ⟨sd, hsd⟩ : ∃ s, Spn.size (Spn.ans 2 la lb) = s := ⟨_, rfl⟩
        have HSd : Hid (Spn.size (Spn.ans 2 la lb) = sd) := hsd
        obtain ⟨sa, hsa⟩ : ∃ s, Spn.size la = s := ⟨_, rfl⟩
        have HSa : Hid (Spn.size la = sa) := hsa
        obtain ⟨sb, hsb⟩ : ∃ s, Spn.size lb = s := ⟨_, rfl⟩
        have HSb : Hid (Spn.size lb = sb) := hsb
        rw [hsu, hsm, hsa, hsb] at E1
        rw [hsm, hsd, hsa] at E2
        rw [hsu] at b0; rw [hsm] at b1; rw [hsd] at b2; rw [hsa] at b3; rw [hsb] at b4
        clear hsu hsm hsd hsa hsb
        have E1' : (su + sm == sa + sb) = true := by simp; omega
        have E2' : (sm + sd == sa) = true := by simp; omega
        clear E1 E2
        go_enter Try.func8, Try.ntmps8
        go_wp2_with fail
        refine (pUnion_at la lb (Spn.ans 0 la lb) 0 a b ca cb _ ha hb rfl z0 na nb ra rb).mono ?_; rintro e w1 ⟨v1, rfl, o1, b1⟩
        have B_1 := below_on (Below.refl _ w) (Nat.le_refl _) b1
        have ra_1 := Row2.below ra b1
        have rb_1 := Row2.below rb b1
        clear ra rb
        obtain ⟨a1, c1, hv1, nil1, row1⟩ := OwnS.row o1
        subst hv1
        clear o1 b1
        go_wp2_with fail
        refine (pMeet_at la lb (Spn.ans 1 la lb) 0 a b ca cb _ ha hb rfl z1 na nb ra_1 rb_1).mono ?_; rintro e w2 ⟨v2, rfl, o2, b2⟩
        have B_2 := below_on B_1 (Nat.le_refl _) b2
        have ra_2 := Row2.below ra_1 b2
        have rb_2 := Row2.below rb_1 b2
        have U_2 := Row2.below row1 b2
        clear B_1 ra_1 rb_1 row1
        obtain ⟨a2, c2, hv2, nil2, row2⟩ := OwnS.row o2
        subst hv2
        clear o2 b2
        go_wp2_with fail
        refine (pMinus_at la lb (Spn.ans 2 la lb) 0 a b ca cb _ ha hb rfl z2 na nb ra_2 rb_2).mono ?_; rintro e w3 ⟨v3, rfl, o3, b3⟩
        have B_3 := below_on B_2 (Nat.le_refl _) b3
        have ra_3 := Row2.below ra_2 b3
        have rb_3 := Row2.below rb_2 b3
        have U_3 := Row2.below U_2 b3
        have M_3 := Row2.below row2 b3
        clear B_2 ra_2 rb_2 U_2 row2
        obtain ⟨a3, c3, hv3, nil3, row3⟩ := OwnS.row o3
        subst hv3
        clear o3 b3
        go_wp2_with fail
        refine (sbegun_any _).mono ?_; rintro e w4 ⟨rfl, b4⟩
        have B_4 := below_on B_3 (Nat.le_refl _) b4
        have ra_4 := Row2.below ra_3 b4
        have rb_4 := Row2.below rb_3 b4
        have U_4 := Row2.below U_3 b4
        have M_4 := Row2.below M_3 b4
        have D_4 := Row2.below row3 b4
        clear B_3 ra_3 rb_3 U_3 M_3 row3
        clear b4
        go_wp2_with fail
        refine (pSize_at la sa 0 a ca _ ha (by rw [if_pos za]; exact HSa.out) za ra_4).mono ?_; rintro e w5 ⟨rfl, b5⟩
        have B_5 := below_on B_4 (Nat.le_refl _) b5
        have ra_5 := Row2.below ra_4 b5
        have rb_5 := Row2.below rb_4 b5
        have U_5 := Row2.below U_4 b5
        have M_5 := Row2.below M_4 b5
        have D_5 := Row2.below D_4 b5
        clear B_4 ra_4 rb_4 U_4 M_4 D_4
        clear b5
        go_wp2_with fail
        refine (pSize_at lb sb 0 b cb _ hb (by rw [if_pos zb]; exact HSb.out) zb rb_5).mono ?_; rintro e w6 ⟨rfl, b6⟩
        have B_6 := below_on B_5 (Nat.le_refl _) b6
        have ra_6 := Row2.below ra_5 b6
        have rb_6 := Row2.below rb_5 b6
        have U_6 := Row2.below U_5 b6
        have M_6 := Row2.below M_5 b6
        have D_6 := Row2.below D_5 b6
        clear B_5 ra_5 rb_5 U_5 M_5 D_5
        clear b6
        go_wp2_with fail
        refine (pSize_at (Spn.ans 0 la lb) su 0 a1 c1 _ m0 (by rw [if_pos k0]; exact HSu.out) k0 U_6).mono ?_; rintro e w7 ⟨rfl, b7⟩
        have B_7 := below_on B_6 (Nat.le_refl _) b7
        have ra_7 := Row2.below ra_6 b7
        have rb_7 := Row2.below rb_6 b7
        have U_7 := Row2.below U_6 b7
        have M_7 := Row2.below M_6 b7
        have D_7 := Row2.below D_6 b7
        clear B_6 ra_6 rb_6 U_6 M_6 D_6
        clear b7
        go_wp2_with fail
        refine (pSize_at (Spn.ans 1 la lb) sm 0 a2 c2 _ m1 (by rw [if_pos k1]; exact HSm.out) k1 M_7).mono ?_; rintro e w8 ⟨rfl, b8⟩
        have B_8 := below_on B_7 (Nat.le_refl _) b8
        have ra_8 := Row2.below ra_7 b8
        have rb_8 := Row2.below rb_7 b8
        have U_8 := Row2.below U_7 b8
        have M_8 := Row2.below M_7 b8
        have D_8 := Row2.below D_7 b8
        clear B_7 ra_7 rb_7 U_7 M_7 D_7
        clear b8
        go_wp2_with fail
        refine (pSize_at (Spn.ans 2 la lb) sd 0 a3 c3 _ m2 (by rw [if_pos k2]; exact HSd.out) k2 D_8).mono ?_; rintro e w9 ⟨rfl, b9⟩
        have B_9 := below_on B_8 (Nat.le_refl _) b9
        have ra_9 := Row2.below ra_8 b9
        have rb_9 := Row2.below rb_8 b9
        have U_9 := Row2.below U_8 b9
        have M_9 := Row2.below M_8 b9
        have D_9 := Row2.below D_8 b9
        clear B_8 ra_8 rb_8 U_8 M_8 D_8
        clear b9
        go_wp2
        go_ret
        exact ⟨rfl, B_9⟩
      · have ne2 : (Spn.code 2 la lb != 0) = true := by simpa using z2
        go_enter Try.func8, Try.ntmps8
        go_wp2_with fail
        refine (pUnion_at la lb (Spn.ans 0 la lb) 0 a b ca cb _ ha hb rfl z0 na nb ra rb).mono ?_; rintro e w1 ⟨v1, rfl, o1, b1⟩
        have B_1 := below_on (Below.refl _ w) (Nat.le_refl _) b1
        have ra_1 := Row2.below ra b1
        have rb_1 := Row2.below rb b1
        clear ra rb
        obtain ⟨a1, c1, hv1, nil1, row1⟩ := OwnS.row o1
        subst hv1
        clear o1 b1
        go_wp2_with fail
        refine (pMeet_at la lb (Spn.ans 1 la lb) 0 a b ca cb _ ha hb rfl z1 na nb ra_1 rb_1).mono ?_; rintro e w2 ⟨v2, rfl, o2, b2⟩
        have B_2 := below_on B_1 (Nat.le_refl _) b2
        have ra_2 := Row2.below ra_1 b2
        have rb_2 := Row2.below rb_1 b2
        have U_2 := Row2.below row1 b2
        clear B_1 ra_1 rb_1 row1
        obtain ⟨a2, c2, hv2, nil2, row2⟩ := OwnS.row o2
        subst hv2
        clear o2 b2
        go_wp2_with fail
        refine (pMinus_at la lb (Spn.ans 2 la lb) (Spn.code 2 la lb) a b ca cb _ ha hb rfl rfl na nb ra_2 rb_2).mono ?_; rintro e w3 ⟨v3, rfl, o3, b3⟩
        have B_3 := below_on B_2 (Nat.le_refl _) b3
        have ra_3 := Row2.below ra_2 b3
        have rb_3 := Row2.below rb_2 b3
        have U_3 := Row2.below U_2 b3
        have M_3 := Row2.below row2 b3
        clear B_2 ra_2 rb_2 U_2 row2
        obtain ⟨a3, c3, hv3, nil3, row3⟩ := OwnS.row o3
        subst hv3
        clear o3 b3
        go_wp2_with fail
        refine (sbegun_any _).mono ?_; rintro e w4 ⟨rfl, b4⟩
        have B_4 := below_on B_3 (Nat.le_refl _) b4
        have ra_4 := Row2.below ra_3 b4
        have rb_4 := Row2.below rb_3 b4
        have U_4 := Row2.below U_3 b4
        have M_4 := Row2.below M_3 b4
        have D_4 := Row2.below row3 b4
        clear B_3 ra_3 rb_3 U_3 M_3 row3
        clear b4
        go_wp2
        go_ret
        exact ⟨rfl, B_4⟩
    · have ne1 : (Spn.code 1 la lb != 0) = true := by simpa using z1
      go_enter Try.func8, Try.ntmps8
      go_wp2_with fail
      refine (pUnion_at la lb (Spn.ans 0 la lb) 0 a b ca cb _ ha hb rfl z0 na nb ra rb).mono ?_; rintro e w1 ⟨v1, rfl, o1, b1⟩
      have B_1 := below_on (Below.refl _ w) (Nat.le_refl _) b1
      have ra_1 := Row2.below ra b1
      have rb_1 := Row2.below rb b1
      clear ra rb
      obtain ⟨a1, c1, hv1, nil1, row1⟩ := OwnS.row o1
      subst hv1
      clear o1 b1
      go_wp2_with fail
      refine (pMeet_at la lb (Spn.ans 1 la lb) (Spn.code 1 la lb) a b ca cb _ ha hb rfl rfl na nb ra_1 rb_1).mono ?_; rintro e w2 ⟨v2, rfl, o2, b2⟩
      have B_2 := below_on B_1 (Nat.le_refl _) b2
      have ra_2 := Row2.below ra_1 b2
      have rb_2 := Row2.below rb_1 b2
      have U_2 := Row2.below row1 b2
      clear B_1 ra_1 rb_1 row1
      obtain ⟨a2, c2, hv2, nil2, row2⟩ := OwnS.row o2
      subst hv2
      clear o2 b2
      go_wp2_with fail
      refine (pMinus_at la lb (Spn.ans 2 la lb) (Spn.code 2 la lb) a b ca cb _ ha hb rfl rfl na nb ra_2 rb_2).mono ?_; rintro e w3 ⟨v3, rfl, o3, b3⟩
      have B_3 := below_on B_2 (Nat.le_refl _) b3
      have ra_3 := Row2.below ra_2 b3
      have rb_3 := Row2.below rb_2 b3
      have U_3 := Row2.below U_2 b3
      have M_3 := Row2.below row2 b3
      clear B_2 ra_2 rb_2 U_2 row2
      obtain ⟨a3, c3, hv3, nil3, row3⟩ := OwnS.row o3
      subst hv3
      clear o3 b3
      go_wp2_with fail
      refine (sbegun_any _).mono ?_; rintro e w4 ⟨rfl, b4⟩
      have B_4 := below_on B_3 (Nat.le_refl _) b4
      have ra_4 := Row2.below ra_3 b4
      have rb_4 := Row2.below rb_3 b4
      have U_4 := Row2.below U_3 b4
      have M_4 := Row2.below M_3 b4
      have D_4 := Row2.below row3 b4
      clear B_3 ra_3 rb_3 U_3 M_3 row3
      clear b4
      go_wp2
      go_ret
      exact ⟨rfl, B_4⟩
  · have ne0 : (Spn.code 0 la lb != 0) = true := by simpa using z0
    go_enter Try.func8, Try.ntmps8
    go_wp2_with fail
    refine (pUnion_at la lb (Spn.ans 0 la lb) (Spn.code 0 la lb) a b ca cb _ ha hb rfl rfl na nb ra rb).mono ?_; rintro e w1 ⟨v1, rfl, o1, b1⟩
    have B_1 := below_on (Below.refl _ w) (Nat.le_refl _) b1
    have ra_1 := Row2.below ra b1
    have rb_1 := Row2.below rb b1
    clear ra rb
    obtain ⟨a1, c1, hv1, nil1, row1⟩ := OwnS.row o1
    subst hv1
    clear o1 b1
    go_wp2_with fail
    refine (pMeet_at la lb (Spn.ans 1 la lb) (Spn.code 1 la lb) a b ca cb _ ha hb rfl rfl na nb ra_1 rb_1).mono ?_; rintro e w2 ⟨v2, rfl, o2, b2⟩
    have B_2 := below_on B_1 (Nat.le_refl _) b2
    have ra_2 := Row2.below ra_1 b2
    have rb_2 := Row2.below rb_1 b2
    have U_2 := Row2.below row1 b2
    clear B_1 ra_1 rb_1 row1
    obtain ⟨a2, c2, hv2, nil2, row2⟩ := OwnS.row o2
    subst hv2
    clear o2 b2
    go_wp2_with fail
    refine (pMinus_at la lb (Spn.ans 2 la lb) (Spn.code 2 la lb) a b ca cb _ ha hb rfl rfl na nb ra_2 rb_2).mono ?_; rintro e w3 ⟨v3, rfl, o3, b3⟩
    have B_3 := below_on B_2 (Nat.le_refl _) b3
    have ra_3 := Row2.below ra_2 b3
    have rb_3 := Row2.below rb_2 b3
    have U_3 := Row2.below U_2 b3
    have M_3 := Row2.below row2 b3
    clear B_2 ra_2 rb_2 U_2 row2
    obtain ⟨a3, c3, hv3, nil3, row3⟩ := OwnS.row o3
    subst hv3
    clear o3 b3
    go_wp2_with fail
    refine (sbegun_any _).mono ?_; rintro e w4 ⟨rfl, b4⟩
    have B_4 := below_on B_3 (Nat.le_refl _) b4
    have ra_4 := Row2.below ra_3 b4
    have rb_4 := Row2.below rb_3 b4
    have U_4 := Row2.below U_3 b4
    have M_4 := Row2.below M_3 b4
    have D_4 := Row2.below row3 b4
    clear B_3 ra_3 rb_3 U_3 M_3 row3
    clear b4
    go_wp2
    go_ret
    exact ⟨rfl, B_4⟩
end Go.Proofs.Ytmhmdjlongimaaa
