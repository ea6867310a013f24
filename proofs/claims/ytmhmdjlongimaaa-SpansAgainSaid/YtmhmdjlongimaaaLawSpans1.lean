/- The walk of SpansTell: it answers true, whatever it is handed. -/
import Derived.Test.YtmhmdjlongimaaaSBegun
namespace Go.Proofs.Ytmhmdjlongimaaa
open Go.RowKit Go.BigFrame
namespace Spn
theorem setOf_len (l : List Sp) : (setOf l).length ≤ 64 := by
  by_cases h : chkOf l = 0
  · exact ((chk_zero _).1 (setOf_chk l h).1).1
  · unfold setOf; rw [if_neg h]; simp
end Spn
theorem refCheck_at (l : List Spn.Sp) (c : Int) (a : Option Addr) (cap : Nat) (w : World) (hl : l.length ≤ maxLen) (h : Spn.chk l = c) (hr : Row2 w a l) :
    Calls Try.prog 13 #[.slice a l.length cap] w fun e w' => e = .returned (.int .i64 c) ∧ Below w.heap.size w w' := by
  subst h
  exact (spansCheck_any l a cap w hl hr).mono fun _ _ h => ⟨h.1, drewN_below h.2⟩
theorem hasDay_below (l : List Spn.Sp) (a : Option Addr) (cap : Nat) (n : Int) (w : World) (hl : l.length ≤ maxLen) (hr : Row2 w a l) :
    Calls Try.prog 17 #[.slice a l.length cap, .int .i64 n] w fun e w' => e = .returned (.bool (Spn.memB l n)) ∧ Below w.heap.size w w' :=
  (hasDay_any l a cap n w hl hr).mono fun _ _ h => ⟨h.1, h.2 ▸ Below.refl _ _⟩
theorem daysOf_below (l : List Spn.Sp) (a : Option Addr) (cap : Nat) (w : World) (hl : l.length ≤ 64) (hs : ∀ s ∈ l, Spn.far s.1 = false ∧ Spn.far s.2 = false ∧ s.1 ≤ s.2) (hr : Row2 w a l) :
    Calls Try.prog 18 #[.slice a l.length cap] w fun e w' => e = .returned (.int .i64 (Spn.size l)) ∧ Below w.heap.size w w' :=
  (daysOf_any l a cap w hl hs hr).mono fun _ _ h => ⟨h.1, drewN_below h.2⟩
set_option maxRecDepth 100000 in
set_option maxHeartbeats 4000000 in
theorem spansTell_any (la : List Spn.Sp) (a : Option Addr) (ca : Nat) (n : Int) (w : World) (ha : la.length ≤ maxLen) (na : a = none → ca = 0 ∧ la = []) (ra : Row2 w a la) :
    Calls Try.prog 3 #[.slice a la.length ca, .int .i64 n] w fun e w' => e = .returned (.bool true) ∧ Below w.heap.size w w' := by
  have m0 : (Spn.setOf la).length ≤ maxLen := by
    have h1 : (Spn.setOf la).length ≤ 64 := Spn.setOf_len la
    unfold maxLen; omega
  by_cases hz : Spn.chk la = 0
  · have hso := Spn.chk_order la hz
    have l64 := ((Spn.chk_zero la).1 hz).1
    have hsz := Spn.size_chk la hz
    go_enter Try.func3, Try.ntmps3
    go_wp2_with fail
    refine (pOf la a ca _ ha na ra).mono ?_; rintro e w1 ⟨v1, rfl, o1, b1⟩
    have B_1 := below_on (Below.refl _ w) (Nat.le_refl _) b1
    have ra_1 := Row2.below ra b1
    clear ra
    obtain ⟨a1, c1, hv1, nil1, row1⟩ := OwnS.row o1
    subst hv1
    clear o1 b1
    go_wp2_with fail
    refine (pHas_at la n 0 (Spn.memB la n) a ca _ ha (by simp [hz]) hz ra_1).mono ?_; rintro e w2 ⟨rfl, b2⟩
    have B_2 := below_on B_1 (Nat.le_refl _) b2
    have ra_2 := Row2.below ra_1 b2
    have O_2 := Row2.below row1 b2
    clear B_1 ra_1 row1
    clear b2
    go_wp2_with fail
    refine (pSize_at la (Spn.size la) 0 a ca _ ha (if_pos hz) hz ra_2).mono ?_; rintro e w3 ⟨rfl, b3⟩
    have B_3 := below_on B_2 (Nat.le_refl _) b3
    have ra_3 := Row2.below ra_2 b3
    have O_3 := Row2.below O_2 b3
    clear B_2 ra_2 O_2
    clear b3
    go_wp2_with fail
    refine (refOf_all la a ca _ ha na ra_3).mono ?_; rintro e w4 ⟨v4, rfl, o4, b4⟩
    have B_4 := below_on B_3 (Nat.le_refl _) b4
    have ra_4 := Row2.below ra_3 b4
    have O_4 := Row2.below O_3 b4
    clear B_3 ra_3 O_3
    obtain ⟨a4, c4, hv4, nil4, row4⟩ := OwnS.row o4
    subst hv4
    clear o4 b4
    go_wp2_with fail
    refine (refCheck_at la 0 a ca _ ha hz ra_4).mono ?_; rintro e w5 ⟨rfl, b5⟩
    have B_5 := below_on B_4 (Nat.le_refl _) b5
    have ra_5 := Row2.below ra_4 b5
    have O_5 := Row2.below O_4 b5
    have X_5 := Row2.below row4 b5
    clear B_4 ra_4 O_4 row4
    clear b5
    go_wp2_with fail
    refine (sbegun_any _).mono ?_; rintro e w6 ⟨rfl, b6⟩
    have B_6 := below_on B_5 (Nat.le_refl _) b6
    have ra_6 := Row2.below ra_5 b6
    have O_6 := Row2.below O_5 b6
    have X_6 := Row2.below X_5 b6
    clear B_5 ra_5 O_5 X_5
    clear b6
    go_wp2_with fail
    refine (pCheck_at la 0 a ca _ ha hz ra_6).mono ?_; rintro e w7 ⟨rfl, b7⟩
    have B_7 := below_on B_6 (Nat.le_refl _) b7
    have ra_7 := Row2.below ra_6 b7
    have O_7 := Row2.below O_6 b7
    have X_7 := Row2.below X_6 b7
    clear B_6 ra_6 O_6 X_6
    clear b7
    go_wp2_with fail
    refine (same_below (Spn.setOf la) (Spn.setOf la) true a1 a4 c1 c4 _ m0 m0 (by simp) O_7 X_7).mono ?_; rintro e w8 ⟨rfl, b8⟩
    have B_8 := below_on B_7 (Nat.le_refl _) b8
    have ra_8 := Row2.below ra_7 b8
    have O_8 := Row2.below O_7 b8
    have X_8 := Row2.below X_7 b8
    clear B_7 ra_7 O_7 X_7
    clear b8
    go_wp2_with fail
    refine (hasDay_below la a ca n _ ha ra_8).mono ?_; rintro e w9 ⟨rfl, b9⟩
    have B_9 := below_on B_8 (Nat.le_refl _) b9
    have ra_9 := Row2.below ra_8 b9
    have O_9 := Row2.below O_8 b9
    have X_9 := Row2.below X_8 b9
    clear B_8 ra_8 O_8 X_8
    clear b9
    go_wp2_with fail
    refine (daysOf_below la a ca _ l64 hso ra_9).mono ?_; rintro e w10 ⟨rfl, b10⟩
    have B_10 := below_on B_9 (Nat.le_refl _) b10
    have ra_10 := Row2.below ra_9 b10
    have O_10 := Row2.below O_9 b10
    have X_10 := Row2.below X_9 b10
    clear B_9 ra_9 O_9 X_9
    clear b10
    go_wp2
    go_ret
    exact ⟨rfl, B_10⟩
  · have hne : (Spn.chk la != 0) = true := by simpa using hz
    have hne2 : (Spn.chk la == 0) = false := by simpa using hz
    go_enter Try.func3, Try.ntmps3
    go_wp2_with fail
    refine (pOf la a ca _ ha na ra).mono ?_; rintro e w1 ⟨v1, rfl, o1, b1⟩
    have B_1 := below_on (Below.refl _ w) (Nat.le_refl _) b1
    have ra_1 := Row2.below ra b1
    clear ra
    obtain ⟨a1, c1, hv1, nil1, row1⟩ := OwnS.row o1
    subst hv1
    clear o1 b1
    go_wp2_with fail
    refine (pHas_at la n (Spn.chk la) false a ca _ ha (by simp [hz]) rfl ra_1).mono ?_; rintro e w2 ⟨rfl, b2⟩
    have B_2 := below_on B_1 (Nat.le_refl _) b2
    have ra_2 := Row2.below ra_1 b2
    have O_2 := Row2.below row1 b2
    clear B_1 ra_1 row1
    clear b2
    go_wp2_with fail
    refine (pSize_at la 0 (Spn.chk la) a ca _ ha (if_neg hz) rfl ra_2).mono ?_; rintro e w3 ⟨rfl, b3⟩
    have B_3 := below_on B_2 (Nat.le_refl _) b3
    have ra_3 := Row2.below ra_2 b3
    have O_3 := Row2.below O_2 b3
    clear B_2 ra_2 O_2
    clear b3
    go_wp2_with fail
    refine (refOf_all la a ca _ ha na ra_3).mono ?_; rintro e w4 ⟨v4, rfl, o4, b4⟩
    have B_4 := below_on B_3 (Nat.le_refl _) b4
    have ra_4 := Row2.below ra_3 b4
    have O_4 := Row2.below O_3 b4
    clear B_3 ra_3 O_3
    obtain ⟨a4, c4, hv4, nil4, row4⟩ := OwnS.row o4
    subst hv4
    clear o4 b4
    go_wp2_with fail
    refine (refCheck_at la (Spn.chk la) a ca _ ha rfl ra_4).mono ?_; rintro e w5 ⟨rfl, b5⟩
    have B_5 := below_on B_4 (Nat.le_refl _) b5
    have ra_5 := Row2.below ra_4 b5
    have O_5 := Row2.below O_4 b5
    have X_5 := Row2.below row4 b5
    clear B_4 ra_4 O_4 row4
    clear b5
    go_wp2_with fail
    refine (sbegun_any _).mono ?_; rintro e w6 ⟨rfl, b6⟩
    have B_6 := below_on B_5 (Nat.le_refl _) b6
    have ra_6 := Row2.below ra_5 b6
    have O_6 := Row2.below O_5 b6
    have X_6 := Row2.below X_5 b6
    clear B_5 ra_5 O_5 X_5
    clear b6
    go_wp2_with fail
    refine (pCheck_at la (Spn.chk la) a ca _ ha rfl ra_6).mono ?_; rintro e w7 ⟨rfl, b7⟩
    have B_7 := below_on B_6 (Nat.le_refl _) b7
    have ra_7 := Row2.below ra_6 b7
    have O_7 := Row2.below O_6 b7
    have X_7 := Row2.below X_6 b7
    clear B_6 ra_6 O_6 X_6
    clear b7
    go_wp2_with fail
    refine (same_below (Spn.setOf la) (Spn.setOf la) true a1 a4 c1 c4 _ m0 m0 (by simp) O_7 X_7).mono ?_; rintro e w8 ⟨rfl, b8⟩
    have B_8 := below_on B_7 (Nat.le_refl _) b8
    have ra_8 := Row2.below ra_7 b8
    have O_8 := Row2.below O_7 b8
    have X_8 := Row2.below X_7 b8
    clear B_7 ra_7 O_7 X_7
    clear b8
    go_wp2
    go_ret
    exact ⟨rfl, B_8⟩
end Go.Proofs.Ytmhmdjlongimaaa
