/- The walk of DateNext: it answers true, whatever it is handed. -/
import Derived.Test.YtbolcbfbcjmpnaaDoorBegun
import Derived.Test.YtbolcbfbcjmpnaaDoorRef
namespace Go.Proofs.YtbolcbfbcjmpnaaDoor
open Go.RowKit Go.BigFrame Go.Sort

namespace Cal
theorem next_in (y m d : Int) (h : vld y m d) (hd : d < mlen y m) : vld y m (d + 1) ∧ num y m (d + 1) = num y m d + 1 := by
  obtain ⟨h1, h2, h3, h4, h5, h6⟩ := h
  exact ⟨⟨h1, h2, h3, h4, by omega, by omega⟩, by unfold num; omega⟩
theorem next_month (y m d : Int) (h : vld y m d) (hd : d = mlen y m) (hm : m < 12) : vld y (m + 1) 1 ∧ num y (m + 1) 1 = num y m d + 1 := by
  obtain ⟨h1, h2, h3, h4, h5, h6⟩ := h
  have b := mlen_bd y (m + 1)
  have c := cum_succ y m h3 h4
  exact ⟨⟨h1, h2, by omega, by omega, by omega, by omega⟩, by unfold num; omega⟩
theorem next_year (y m d : Int) (h : vld y m d) (hd : d = mlen y m) (hm : m = 12) (hn : num y m d ≠ 3652059) : vld (y + 1) 1 1 ∧ num (y + 1) 1 1 = num y m d + 1 := by
  obtain ⟨h1, h2, h3, h4, h5, h6⟩ := h
  subst hm hd
  have b := mlen_bd (y + 1) 1
  have c := cum_succ y 12 h3 h4
  have c13 : cum y (12 + 1) = 365 + lp y := cum_13 y
  have a := ahead_succ y
  have e1 := cum_1 (y + 1)
  have hy : y ≠ 9999 := by
    rintro rfl
    apply hn
    decide
  exact ⟨⟨by omega, by omega, by omega, by omega, by omega, by omega⟩, by unfold num; omega⟩
end Cal

set_option maxHeartbeats 4000000 in
theorem dateNext_any (n : Int) (w : World) (hw : Laid w) :
    Calls Tryd.prog 5 #[.int .i64 n] w fun e w' => e = .returned (.bool true) ∧ Below w.heap.size w w' := by
  by_cases hn : 1 ≤ n ∧ n ≤ 3652059
  · obtain ⟨y, m, d, hv, hon⟩ := Cal.ex_date n hn.1 hn.2
    obtain ⟨hn1, hn2⟩ := hn
    have HON : Hid (Cal.num y m d = n) := hon
    by_cases hl : n = 3652059
    · subst hl
      clear hon
      go_enter Tryd.func5, Tryd.ntmps5
      go_wp2_with fail
      refine (of_at 3652059 y m d _ hw hv HON.out).mono ?_; rintro e w1 ⟨rfl, b1⟩
      have l1 := Laid.below hw b1
      have B1 := below_next (Below.refl _ w) (Nat.le_refl _) b1
      clear hw
      clear b1
      have l2 := Laid.below l1 (below_box w1 (.cells #[.int .i64 y, .int .i64 m, .int .i64 d] 23))
      have B2 := below_next B1 (Nat.le_refl _) (below_box w1 (.cells #[.int .i64 y, .int .i64 m, .int .i64 d] 23))
      clear l1 B1
      have a2 := Has3.new w1 (y) (m) (d) 23
      go_wp2_with fail
      refine (begun_any _ l2).mono ?_; rintro e w2 ⟨rfl, b2⟩
      have l3 := Laid.below l2 b2
      have B3 := below_next B2 (Nat.le_refl _) b2
      have a3 := Has3.below a2 b2
      clear l2 B2 a2
      clear b2
      go_wp2
      go_ret
      exact ⟨rfl, B3⟩
    · have vv := hv
      obtain ⟨h1, h2, h3, h4, h5, h6⟩ := vv
      by_cases hd : d < Cal.mlen y m
      · have HX : Hid (Cal.vld y m (d + 1) ∧ Cal.num y m (d + 1) = n + 1) := by rw [← hon]; exact Cal.next_in y m d hv hd
        have hd' : ¬ d = Cal.mlen y m := by omega
        clear hon
        go_enter Tryd.func5, Tryd.ntmps5
        go_wp2_with fail
        refine (of_at n y m d _ hw hv HON.out).mono ?_; rintro e w1 ⟨rfl, b1⟩
        have l1 := Laid.below hw b1
        have B1 := below_next (Below.refl _ w) (Nat.le_refl _) b1
        clear hw
        clear b1
        have l2 := Laid.below l1 (below_box w1 (.cells #[.int .i64 y, .int .i64 m, .int .i64 d] 23))
        have B2 := below_next B1 (Nat.le_refl _) (below_box w1 (.cells #[.int .i64 y, .int .i64 m, .int .i64 d] 23))
        clear l1 B1
        have a2 := Has3.new w1 (y) (m) (d) 23
        go_wp2_with fail
        refine (begun_any _ l2).mono ?_; rintro e w2 ⟨rfl, b2⟩
        have l3 := Laid.below l2 b2
        have B3 := below_next B2 (Nat.le_refl _) b2
        have a3 := Has3.below a2 b2
        clear l2 B2 a2
        clear b2
        go_wp2_with fail
        refine (of_at (n + 1) y m (d + 1) _ l3 HX.out.1 HX.out.2).mono ?_; rintro e w3 ⟨rfl, b3⟩
        have l4 := Laid.below l3 b3
        have B4 := below_next B3 (Nat.le_refl _) b3
        have a4 := Has3.below a3 b3
        clear l3 B3 a3
        clear b3
        have sa0 := a4.2.1
        have sa1 := a4.2.2.1
        have sa2 := a4.2.2.2
        have sz := a4.1
        have sz1 : w1.heap.size < w3.heap.size + 1 := by omega
        have sz2 : w1.heap.size < w3.heap.size + 1 + 1 := by omega
        have sz3 : w1.heap.size < w3.heap.size + 1 + 1 + 1 := by omega
        have sz4 : w1.heap.size < w3.heap.size + 1 + 1 + 1 + 1 := by omega
        have sz5 : w1.heap.size < w3.heap.size + 1 + 1 + 1 + 1 + 1 := by omega
        have mb := Cal.mlen_bd y m
        have d31 : d ≤ 31 := by omega
        go_wp2_with (first | (go_at_call 16; refine (monthDays_ok _ _ _ (by omega) (by omega) (by omega) (by omega)).mono ?_; rintro e wm ⟨rfl, rfl⟩) | (go_at_call 17; refine (mk_exact _ _ _ _).mono ?_; rintro e wm ⟨rfl, rfl⟩))
        go_ret
        refine ⟨rfl, below_next B4 (Nat.le_refl _) ?_⟩
        exact (below_a (below_a (below_a (Below.refl _ _) (Nat.le_refl _) _) (Nat.le_refl _) _) (Nat.le_refl _) _)
      · have hd2 : d = Cal.mlen y m := by omega
        by_cases hm : m < 12
        · have HX : Hid (Cal.vld y (m + 1) 1 ∧ Cal.num y (m + 1) 1 = n + 1) := by rw [← hon]; exact Cal.next_month y m d hv hd2 hm
          have HD : Hid (d = Cal.mlen y m) := hd2
          have hde : (d == Cal.mlen y m) = true := by simpa using hd2
          have hm' : ¬ m = 12 := by omega
          clear hon hd2
          go_enter Tryd.func5, Tryd.ntmps5
          go_wp2_with fail
          refine (of_at n y m d _ hw hv HON.out).mono ?_; rintro e w1 ⟨rfl, b1⟩
          have l1 := Laid.below hw b1
          have B1 := below_next (Below.refl _ w) (Nat.le_refl _) b1
          clear hw
          clear b1
          have l2 := Laid.below l1 (below_box w1 (.cells #[.int .i64 y, .int .i64 m, .int .i64 d] 23))
          have B2 := below_next B1 (Nat.le_refl _) (below_box w1 (.cells #[.int .i64 y, .int .i64 m, .int .i64 d] 23))
          clear l1 B1
          have a2 := Has3.new w1 (y) (m) (d) 23
          go_wp2_with fail
          refine (begun_any _ l2).mono ?_; rintro e w2 ⟨rfl, b2⟩
          have l3 := Laid.below l2 b2
          have B3 := below_next B2 (Nat.le_refl _) b2
          have a3 := Has3.below a2 b2
          clear l2 B2 a2
          clear b2
          go_wp2_with fail
          refine (of_at (n + 1) y (m + 1) 1 _ l3 HX.out.1 HX.out.2).mono ?_; rintro e w3 ⟨rfl, b3⟩
          have l4 := Laid.below l3 b3
          have B4 := below_next B3 (Nat.le_refl _) b3
          have a4 := Has3.below a3 b3
          clear l3 B3 a3
          clear b3
          have sa0 := a4.2.1
          have sa1 := a4.2.2.1
          have sa2 := a4.2.2.2
          have sz := a4.1
          have sz1 : w1.heap.size < w3.heap.size + 1 := by omega
          have sz2 : w1.heap.size < w3.heap.size + 1 + 1 := by omega
          have sz3 : w1.heap.size < w3.heap.size + 1 + 1 + 1 := by omega
          have sz4 : w1.heap.size < w3.heap.size + 1 + 1 + 1 + 1 := by omega
          have sz5 : w1.heap.size < w3.heap.size + 1 + 1 + 1 + 1 + 1 := by omega
          have mb := Cal.mlen_bd y m
          have d31 : d ≤ 31 := by omega
          go_wp2_with (first | (go_at_call 16; refine (monthDays_ok _ _ _ (by omega) (by omega) (by omega) (by omega)).mono ?_; rintro e wm ⟨rfl, rfl⟩) | (go_at_call 17; refine (mk_exact _ _ _ _).mono ?_; rintro e wm ⟨rfl, rfl⟩))
          go_ret
          refine ⟨rfl, below_next B4 (Nat.le_refl _) ?_⟩
          exact (below_a (below_a (below_a (below_a (Below.refl _ _) (Nat.le_refl _) _) (Nat.le_refl _) _) (Nat.le_refl _) _) (Nat.le_refl _) _)
        · have hm2 : m = 12 := by omega
          have HX : Hid (Cal.vld (y + 1) 1 1 ∧ Cal.num (y + 1) 1 1 = n + 1) := by rw [← hon]; exact Cal.next_year y m d hv hd2 hm2 (by rw [hon]; exact hl)
          have hde : (d == Cal.mlen y m) = true := by simpa using hd2
          have hme : (m == 12) = true := by simpa using hm2
          clear hon hd2 hm2
          go_enter Tryd.func5, Tryd.ntmps5
          go_wp2_with fail
          refine (of_at n y m d _ hw hv HON.out).mono ?_; rintro e w1 ⟨rfl, b1⟩
          have l1 := Laid.below hw b1
          have B1 := below_next (Below.refl _ w) (Nat.le_refl _) b1
          clear hw
          clear b1
          have l2 := Laid.below l1 (below_box w1 (.cells #[.int .i64 y, .int .i64 m, .int .i64 d] 23))
          have B2 := below_next B1 (Nat.le_refl _) (below_box w1 (.cells #[.int .i64 y, .int .i64 m, .int .i64 d] 23))
          clear l1 B1
          have a2 := Has3.new w1 (y) (m) (d) 23
          go_wp2_with fail
          refine (begun_any _ l2).mono ?_; rintro e w2 ⟨rfl, b2⟩
          have l3 := Laid.below l2 b2
          have B3 := below_next B2 (Nat.le_refl _) b2
          have a3 := Has3.below a2 b2
          clear l2 B2 a2
          clear b2
          go_wp2_with fail
          refine (of_at (n + 1) (y + 1) 1 1 _ l3 HX.out.1 HX.out.2).mono ?_; rintro e w3 ⟨rfl, b3⟩
          have l4 := Laid.below l3 b3
          have B4 := below_next B3 (Nat.le_refl _) b3
          have a4 := Has3.below a3 b3
          clear l3 B3 a3
          clear b3
          have sa0 := a4.2.1
          have sa1 := a4.2.2.1
          have sa2 := a4.2.2.2
          have sz := a4.1
          have sz1 : w1.heap.size < w3.heap.size + 1 := by omega
          have sz2 : w1.heap.size < w3.heap.size + 1 + 1 := by omega
          have sz3 : w1.heap.size < w3.heap.size + 1 + 1 + 1 := by omega
          have sz4 : w1.heap.size < w3.heap.size + 1 + 1 + 1 + 1 := by omega
          have sz5 : w1.heap.size < w3.heap.size + 1 + 1 + 1 + 1 + 1 := by omega
          have mb := Cal.mlen_bd y m
          have d31 : d ≤ 31 := by omega
          go_wp2_with (first | (go_at_call 16; refine (monthDays_ok _ _ _ (by omega) (by omega) (by omega) (by omega)).mono ?_; rintro e wm ⟨rfl, rfl⟩) | (go_at_call 17; refine (mk_exact _ _ _ _).mono ?_; rintro e wm ⟨rfl, rfl⟩))
          go_ret
          refine ⟨rfl, below_next B4 (Nat.le_refl _) ?_⟩
          exact (below_a (below_a (below_a (below_a (below_a (Below.refl _ _) (Nat.le_refl _) _) (Nat.le_refl _) _) (Nat.le_refl _) _) (Nat.le_refl _) _) (Nat.le_refl _) _)
  · have HN : Hid (n < 1 ∨ 3652059 < n) := by unfold Hid; omega
    clear hn
    go_enter Tryd.func5, Tryd.ntmps5
    go_wp2_with fail
    refine (of_err n _ HN.out).mono ?_; rintro e w1 ⟨rfl, b1⟩
    have l1 := Laid.below hw b1
    have B1 := below_next (Below.refl _ w) (Nat.le_refl _) b1
    clear hw
    clear b1
    have l2 := Laid.below l1 (below_box w1 (.cells #[.int .i64 0, .int .i64 0, .int .i64 0] 23))
    have B2 := below_next B1 (Nat.le_refl _) (below_box w1 (.cells #[.int .i64 0, .int .i64 0, .int .i64 0] 23))
    clear l1 B1
    have a2 := Has3.new w1 (0) (0) (0) 23
    go_wp2_with fail
    refine (begun_any _ l2).mono ?_; rintro e w2 ⟨rfl, b2⟩
    have l3 := Laid.below l2 b2
    have B3 := below_next B2 (Nat.le_refl _) b2
    have a3 := Has3.below a2 b2
    clear l2 B2 a2
    clear b2
    go_wp2
    go_ret
    exact ⟨rfl, B3⟩
end Go.Proofs.YtbolcbfbcjmpnaaDoor
