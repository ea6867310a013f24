/- The walk of WeekThursday: it answers true, whatever it is handed. -/
import Derived.Test.YtbolcbfbcjmpnabDoorBegun
import Derived.Test.YtbolcbfbcjmpnabDoorRef2
namespace Go.Proofs.YtbolcbfbcjmpnabDoor
open Go.RowKit Go.BigFrame Go.Sort

theorem Cal.monday (n : Int) (h1 : 1 ≤ n) : 1 ≤ n - Cal.wday n + 1 ∧ n - Cal.wday n + 1 ≤ n ∧ Cal.wyear (n - Cal.wday n + 1) = Cal.wyear n ∧ Cal.wno (n - Cal.wday n + 1) = Cal.wno n ∧ Cal.wday (n - Cal.wday n + 1) = 1 := by
  have a : Cal.wday (n - Cal.wday n + 1) = 1 := by unfold Cal.wday; omega
  have b : Cal.mid (n - Cal.wday n + 1) = Cal.mid n := by unfold Cal.mid; rw [a]; omega
  have c : Cal.wyear (n - Cal.wday n + 1) = Cal.wyear n := by unfold Cal.wyear; rw [b]
  refine ⟨?_, ?_, c, ?_, a⟩
  · unfold Cal.wday; omega
  · unfold Cal.wday; omega
  · unfold Cal.wno; rw [b, c]
theorem Cal.wyear_eq (n y m d : Int) (hv : Cal.vld y m d) (hn : Cal.num y m d = Cal.mid n) : y = Cal.wyear n := by
  have a := Cal.num_bd y m d hv
  have b := Cal.wyear_spec n
  exact Cal.year_inj (Cal.mid n) _ _ (by omega) (by omega) b.1 b.2
theorem week_eq (n Y K E : Int) (w : World) (h1 : 1 ≤ n) (h2 : n ≤ 3652059) (hY : Cal.wyear n = Y) (hK : Cal.wno n = K) (hE : Cal.wday n = E) :
    Calls Tryd.prog 7 #[.int .i64 n] w fun e w' => e = .returned (.tuple #[.agg #[.int .i64 Y, .int .i64 K, .int .i64 E], .int .i64 0]) ∧ Below w.heap.size w w' := by
  subst hY hK hE; exact week_ok n w h1 h2
set_option maxHeartbeats 1000000 in
theorem weekThursday_any (n : Int) (w : World) (hw : Laid w) :
    Calls Tryd.prog 3 #[.int .i64 n] w fun e w' => e = .returned (.bool true) ∧ Below w.heap.size w w' := by
  by_cases hn : 1 ≤ n ∧ n ≤ 3652059
  · obtain ⟨h1, h2⟩ := hn
    have hm := Cal.mid_in n h1 h2
    obtain ⟨y, m, d, hv, hq⟩ := Cal.ex_date (Cal.mid n) (by omega) (by omega)
    obtain rfl := Cal.wyear_eq n y m d hv hq
    have HQ : Hid (Cal.num (Cal.wyear n) m d = n + 4 - Cal.wday n) := by unfold Hid; rw [hq]; unfold Cal.mid; omega
    obtain ⟨p1, p2, p3, p4, p5⟩ := Cal.monday n h1
    have HP : Hid (Cal.wyear (n - Cal.wday n + 1) = Cal.wyear n ∧ Cal.wno (n - Cal.wday n + 1) = Cal.wno n ∧ Cal.wday (n - Cal.wday n + 1) = 1) := ⟨p3, p4, p5⟩
    have hwd := Cal.wday_in n
    have hwn := Cal.wno_in n
    clear hq hm p3 p4 p5
    go_enter Tryd.func3, Tryd.ntmps3
    go_wp2_with fail
    refine (week_ok n _ h1 h2).mono ?_; rintro e w1 ⟨rfl, b1⟩
    have l1 := Laid.below hw b1
    have B1 := below_next (Below.refl _ w) (Nat.le_refl _) b1
    clear hw
    clear b1
    have l2 := Laid.below l1 (below_box w1 (.cells #[.int .i64 (Cal.wyear n), .int .i64 (Cal.wno n), .int .i64 (Cal.wday n)] 23))
    have B2 := below_next B1 (Nat.le_refl _) (below_box w1 (.cells #[.int .i64 (Cal.wyear n), .int .i64 (Cal.wno n), .int .i64 (Cal.wday n)] 23))
    clear l1 B1
    have a2 := Has3.new w1 (Cal.wyear n) (Cal.wno n) (Cal.wday n) 23
    go_wp2_with fail
    refine (begun_any _ l2).mono ?_; rintro e w2 ⟨rfl, b2⟩
    have l3 := Laid.below l2 b2
    have B3 := below_next B2 (Nat.le_refl _) b2
    have a3 := Has3.below a2 b2
    clear l2 B2 a2
    clear b2
    have sa0 := a3.2.1
    have sa1 := a3.2.2.1
    have sa2 := a3.2.2.2
    go_wp2_with fail
    clear sa0 sa1 sa2
    refine (of_at (n + 4 - Cal.wday n) (Cal.wyear n) m d _ l3 hv HQ.out).mono ?_; rintro e w3 ⟨rfl, b3⟩
    have l4 := Laid.below l3 b3
    have B4 := below_next B3 (Nat.le_refl _) b3
    have a4 := Has3.below a3 b3
    clear l3 B3 a3
    clear b3
    have l5 := Laid.below l4 (below_box w3 (.cells #[.int .i64 (Cal.wyear n), .int .i64 m, .int .i64 d] 29))
    have B5 := below_next B4 (Nat.le_refl _) (below_box w3 (.cells #[.int .i64 (Cal.wyear n), .int .i64 m, .int .i64 d] 29))
    have a5 := Has3.below a4 (below_box w3 (.cells #[.int .i64 (Cal.wyear n), .int .i64 m, .int .i64 d] 29))
    clear l4 B4 a4
    have d5 := Has3.new w3 (Cal.wyear n) (m) (d) 29
    have sa0 := a5.2.1
    have sa1 := a5.2.2.1
    have sa2 := a5.2.2.2
    go_wp2_with fail
    clear sa0 sa1 sa2
    refine (week_eq (n - Cal.wday n + 1) (Cal.wyear n) (Cal.wno n) 1 _ (by omega) (by omega) HP.out.1 HP.out.2.1 HP.out.2.2).mono ?_; rintro e w4 ⟨rfl, b4⟩
    have l6 := Laid.below l5 b4
    have B6 := below_next B5 (Nat.le_refl _) b4
    have a6 := Has3.below a5 b4
    have d6 := Has3.below d5 b4
    clear l5 B5 a5 d5
    clear b4
    have l7 := Laid.below l6 (below_box w4 (.cells #[.int .i64 (Cal.wyear n), .int .i64 (Cal.wno n), .int .i64 1] 23))
    have B7 := below_next B6 (Nat.le_refl _) (below_box w4 (.cells #[.int .i64 (Cal.wyear n), .int .i64 (Cal.wno n), .int .i64 1] 23))
    have a7 := Has3.below a6 (below_box w4 (.cells #[.int .i64 (Cal.wyear n), .int .i64 (Cal.wno n), .int .i64 1] 23))
    have d7 := Has3.below d6 (below_box w4 (.cells #[.int .i64 (Cal.wyear n), .int .i64 (Cal.wno n), .int .i64 1] 23))
    clear l6 B6 a6 d6
    have v7 := Has3.new w4 (Cal.wyear n) (Cal.wno n) (1) 23
    have sa0 := a7.2.1
    have sa1 := a7.2.2.1
    have sa2 := a7.2.2.2
    have sd0 := d7.2.1
    have sd1 := d7.2.2.1
    have sd2 := d7.2.2.2
    have sv0 := v7.2.1
    have sv1 := v7.2.2.1
    have sv2 := v7.2.2.2
    go_wp2
    go_ret
    exact ⟨rfl, B7⟩
  · have HN : Hid (n < 1 ∨ 3652059 < n) := by unfold Hid; omega
    clear hn
    go_enter Tryd.func3, Tryd.ntmps3
    go_wp2_with fail
    refine (week_err n _ HN.out).mono ?_; rintro e w1 ⟨rfl, b1⟩
    have l1 := Laid.below hw b1
    have B1 := below_next (Below.refl _ w) (Nat.le_refl _) b1
    clear hw
    clear b1
    have l2 := Laid.below l1 (below_box w1 (.cells #[.int .i64 0, .int .i64 0, .int .i64 0] 23))
    have B2 := below_next B1 (Nat.le_refl _) (below_box w1 (.cells #[.int .i64 0, .int .i64 0, .int .i64 0] 23))
    clear l1 B1
    have a2 := Has3.new w1 (0) (0) (0) 23
    go_wp2_with fail
    refine (begun_any _ l2).mono ?_; rintro e w2 ⟨rfl, b2⟩
    have l3 := Laid.below l2 b2
    have B3 := below_next B2 (Nat.le_refl _) b2
    have a3 := Has3.below a2 b2
    clear l2 B2 a2
    clear b2
    have sa0 := a3.2.1
    have sa1 := a3.2.2.1
    have sa2 := a3.2.2.2
    go_wp2
    go_ret
    exact ⟨rfl, B3⟩
end Go.Proofs.YtbolcbfbcjmpnabDoor
