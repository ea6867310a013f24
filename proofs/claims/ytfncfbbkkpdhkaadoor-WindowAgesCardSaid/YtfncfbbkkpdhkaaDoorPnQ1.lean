/- The program's small walks of persons: a day, a class, the day on which an age is turned. -/
import Derived.Test.YtfncfbbkkpdhkaaDoorPnRef5
import Derived.Test.YtfncfbbkkpdhkaaDoorTFst
import Derived.Laws.Shifts
import Derived.Shelf.Abstract
namespace Go.Proofs.YtfncfbbkkpdhkaaDoor
open Go.RowKit

namespace Prs
theorem day_tn (y m d a : Int) : Trm.day y m d 4 1 a = tn y m d a := by
  unfold Trm.day tn
  rw [if_neg (by decide), if_neg (by decide), if_neg (by decide)]
  congr 1
  omega
theorem over_tn (s a : Int) : Trm.over (tns s a) = if tns s a = 0 then 8 else 0 := rfl
end Prs
theorem qwithin_any (n a b : Int) (w : World) :
    Calls Tryd.prog 20 #[.int .i64 n, .int .i64 a, .int .i64 b] w fun e w' => e = .returned (.bool (decide (a ≤ n ∧ n ≤ b))) ∧ w' = w := by
  by_cases h1 : a ≤ n
  · by_cases h2 : n ≤ b
    · have e : decide (a ≤ n ∧ n ≤ b) = true := by simp; omega
      rw [e]; clear e
      go_enter Tryd.func20, Tryd.ntmps20
      go_wp2
      go_ret
      exact ⟨rfl, rfl⟩
    · have e : decide (a ≤ n ∧ n ≤ b) = false := by simp; omega
      rw [e]; clear e
      go_enter Tryd.func20, Tryd.ntmps20
      go_wp2
      go_ret
      exact ⟨rfl, rfl⟩
  · have e : decide (a ≤ n ∧ n ≤ b) = false := by simp; omega
    rw [e]; clear e
    have h1' : decide (a ≤ n) = false := by simpa using h1
    go_enter Tryd.func20, Tryd.ntmps20
    go_wp2
    go_ret
    exact ⟨rfl, rfl⟩
theorem qwithin_is (n a b : Int) (c : Bool) (w : World) (h : decide (a ≤ n ∧ n ≤ b) = c) :
    Calls Tryd.prog 20 #[.int .i64 n, .int .i64 a, .int .i64 b] w fun e w' => e = .returned (.bool c) ∧ w' = w := by
  subst h; exact qwithin_any n a b w
theorem qday_is (n : Int) (b : Bool) (w : World) (h : decide (¬ Prs.bad n) = b) :
    Calls Tryd.prog 16 #[.int .i64 n] w fun e w' => e = .returned (.bool b) ∧ w' = w := by
  have h2 : decide (1 ≤ n ∧ n ≤ 3652059) = b := by
    subst h
    by_cases c : Prs.bad n
    · rw [decide_eq_false (by unfold Prs.bad at c; omega : ¬ (1 ≤ n ∧ n ≤ 3652059)), decide_eq_false (fun q => q c)]
    · rw [decide_eq_true (by unfold Prs.bad at c; omega : 1 ≤ n ∧ n ≤ 3652059), decide_eq_true c]
  have H2 : Hid (_) := h2
  clear h h2
  go_enter Tryd.func16, Tryd.ntmps16
  go_wp2_with (go_at_call 20; refine (qwithin_is _ _ _ _ _ H2.out).mono ?_; rintro e w' ⟨rfl, rfl⟩)
  go_ret
  exact ⟨rfl, rfl⟩
theorem turned_is (s a v c : Int) (w : World) (hw : Laid w) (hs : ¬ Prs.bad s) (h0 : 0 ≤ a) (h1 : a ≤ 151) (hv : Prs.tns s a = v) (hc : Trm.over v = c) :
    Calls Tryd.prog 19 #[.int .i64 s, .int .i64 a] w fun e w' => e = .returned (.tuple #[.int .i64 v, .int .i64 c]) ∧ Below w.heap.size w w' := by
  obtain ⟨y, m, d, hd, hn⟩ := Prs.date_of hs
  have HT : Hid (Trm.day y m d 4 1 a = v) := by show _ = _; rw [Prs.day_tn, ← Prs.tns_is hd hn, hv]
  have HC : Hid (Trm.over v = c) := hc
  have HD : Hid (Cal.vld y m d ∧ Cal.num y m d = s) := ⟨hd, hn⟩
  have HW : Hid (Laid w) := hw
  clear hw hd hn hv hc hs
  go_enter Tryd.func19, Tryd.ntmps19
  go_wp2_with (go_at_call 28; refine (nth_ok s y m d 4 1 a v c _ (by first | exact HW.out | exact HW.out.alloc _) HD.out.1 HD.out.2 (by decide) (by decide) (by decide) (by decide) h0 (by omega) HT.out HC.out).mono ?_; rintro e w1 ⟨rfl, hb⟩)
  go_ret2
  first | exact ⟨rfl, hb⟩ | exact ⟨rfl, below_on (below_box w _) (Nat.le_refl _) hb⟩
end Go.Proofs.YtfncfbbkkpdhkaaDoor
