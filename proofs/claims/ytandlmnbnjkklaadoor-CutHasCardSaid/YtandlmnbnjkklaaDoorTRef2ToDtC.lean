/- The reference's terms: Nth and Find. The first day of a term, of the program and of the document's word, as one function. -/
import Derived.Test.YtandlmnbnjkklaaDoorTRef
import Derived.Test.YtandlmnbnjkklaaDoorDt
import Derived.Test.YtandlmnbnjkklaaDoorTFst
namespace Go.Proofs.YtandlmnbnjkklaaDoor
open Go.RowKit

set_option maxHeartbeats 1000000 in
theorem refNth_bad (s u n k c : Int) (w : World) (h : Trm.bad u n s k 1000 = c) (hc : c ≠ 0) :
    Calls Tryd.prog 32 #[.int .i64 s, .agg #[.int .i64 u, .int .i64 n], .int .i64 k] w fun e w' => e = .returned (.tuple #[.int .i64 0, .int .i64 c]) ∧ Below w.heap.size w w' := by
  have hc1 : (c != 0) = true := by simpa using hc
  have hc2 : (c == 0) = false := by simpa using hc
  rcases bad_cases u n s k 1000 c h hc with g | ⟨g, rfl, g2⟩ | ⟨g, rfl, g2, g3, g4⟩
  · have G : Hid (_) := g
    clear g h hc
    go_enter Tryd.func32, Tryd.ntmps32
    go_wp2_with fail
    refine (refTCheck_at _ _ _ _ G.out).mono ?_; rintro e w1 ⟨rfl, b1⟩
    go_wp2_with fail
    go_ret2
    exact ⟨rfl, below_next (below_box _ _) (Nat.le_refl _) b1⟩
  · have G : Hid (_) := g
    have G2 : Hid (_) := g2
    clear g g2 h hc
    go_enter Tryd.func32, Tryd.ntmps32
    go_wp2_with fail
    refine (refTCheck_at _ _ _ _ G.out).mono ?_; rintro e w1 ⟨rfl, b1⟩
    go_wp2_with (go_at_call 33; refine (noDay_yes _ _ G2.out).mono ?_; rintro e w' ⟨rfl, rfl⟩)
    go_ret2
    exact ⟨rfl, below_next (below_box _ _) (Nat.le_refl _) b1⟩
  · have G : Hid (_) := g
    clear g h hc
    rcases (show k < 0 ∨ (¬ k < 0 ∧ 1000 < k) by omega) with g5 | ⟨g5, g6⟩
    · clear g4
      go_enter Tryd.func32, Tryd.ntmps32
      go_wp2_with fail
      refine (refTCheck_at _ _ _ _ G.out).mono ?_; rintro e w1 ⟨rfl, b1⟩
      go_wp2_with (go_at_call 33; refine (noDay_no _ _ g2 g3).mono ?_; rintro e w' ⟨rfl, rfl⟩)
      go_ret2
      exact ⟨rfl, below_next (below_box _ _) (Nat.le_refl _) b1⟩
    · clear g4
      have g5' : decide (k < 0) = false := by simpa using g5
      go_enter Tryd.func32, Tryd.ntmps32
      go_wp2_with fail
      refine (refTCheck_at _ _ _ _ G.out).mono ?_; rintro e w1 ⟨rfl, b1⟩
      go_wp2_with (go_at_call 33; refine (noDay_no _ _ g2 g3).mono ?_; rintro e w' ⟨rfl, rfl⟩)
      go_ret2
      exact ⟨rfl, below_next (below_box _ _) (Nat.le_refl _) b1⟩
set_option maxHeartbeats 1000000 in
theorem refNth_ok (s y m d u n k x c : Int) (w : World) (hv : Cal.vld y m d) (hs : Cal.num y m d = s) (hu1 : 1 ≤ u) (hu2 : u ≤ 4) (hn1 : 1 ≤ n) (hn2 : n ≤ 120) (hk1 : 0 ≤ k) (hk2 : k ≤ 1000) (hx : Trm.day y m d u n k = x) (hc : Trm.over x = c) :
    Calls Tryd.prog 32 #[.int .i64 s, .agg #[.int .i64 u, .int .i64 n], .int .i64 k] w fun e w' => e = .returned (.tuple #[.int .i64 x, .int .i64 c]) ∧ Below w.heap.size w w' := by
  have hi := Cal.num_in y m d hv
  rw [hs] at hi
  have G : Hid (Trm.chk u n = 0) := Trm.chk_ok u n hu1 hu2 hn1 hn2
  have HV : Hid (Cal.vld y m d ∧ Cal.num y m d = s ∧ Trm.day y m d u n k = x) := ⟨hv, hs, hx⟩
  have hk3 : decide (k < 0) = false := by simp; omega
  have hk4 : decide (1000 < k) = false := by simp; omega
  clear hv hs hx
  by_cases h0 : x = 0
  · have hc' : c = 8 := by rw [← hc, h0]; rfl
    subst hc' h0
    clear hc
    go_enter Tryd.func32, Tryd.ntmps32
    go_wp2_with fail
    refine (refTCheck_at _ _ _ _ G.out).mono ?_; rintro e w1 ⟨rfl, b1⟩
    have HB : Hid (_) := below_next (below_box w _) (Nat.le_refl _) b1
    have c0 := (bcell b1).1 w.heap.size 0 (by simp)
    have c1 := (bcell b1).1 w.heap.size 1 (by simp)
    rw [(has2_new w u n 26).1] at c0
    rw [(has2_new w u n 26).2] at c1
    clear b1
    go_wp2_with (first
      | (go_at_call 33; refine (noDay_no _ _ hi.1 hi.2).mono ?_; rintro e w' ⟨rfl, rfl⟩)
      | (go_at_call 52; refine (refTermDay_at _ y m d _ _ _ 0 _ HV.out.1 HV.out.2.1 hu1 hu2 hn1 hn2 hk1 (by omega) HV.out.2.2).mono ?_; rintro e w2 ⟨rfl, b2⟩))
    go_ret2
    exact ⟨rfl, below_next HB.out (Nat.le_refl _) b2⟩
  · have hc' : c = 0 := by rw [← hc]; unfold Trm.over; rw [if_neg h0]
    subst hc'
    have h0' : (x == 0) = false := by simpa using h0
    clear hc h0
    go_enter Tryd.func32, Tryd.ntmps32
    go_wp2_with fail
    refine (refTCheck_at _ _ _ _ G.out).mono ?_; rintro e w1 ⟨rfl, b1⟩
    have HB : Hid (_) := below_next (below_box w _) (Nat.le_refl _) b1
    have c0 := (bcell b1).1 w.heap.size 0 (by simp)
    have c1 := (bcell b1).1 w.heap.size 1 (by simp)
    rw [(has2_new w u n 26).1] at c0
    rw [(has2_new w u n 26).2] at c1
    clear b1
    go_wp2_with (first
      | (go_at_call 33; refine (noDay_no _ _ hi.1 hi.2).mono ?_; rintro e w' ⟨rfl, rfl⟩)
      | (go_at_call 52; refine (refTermDay_at _ y m d _ _ _ x _ HV.out.1 HV.out.2.1 hu1 hu2 hn1 hn2 hk1 (by omega) HV.out.2.2).mono ?_; rintro e w2 ⟨rfl, b2⟩))
    go_ret2
    exact ⟨rfl, below_next HB.out (Nat.le_refl _) b2⟩
end Go.Proofs.YtandlmnbnjkklaaDoor
namespace Go.Proofs.YtandlmnbnjkklaaDoor
open Go.RowKit

namespace Trm
/-- the first day of the kth term from day s on, or why not -/
def nthF (s u n k : Int) : Int × Int := if bad u n s k 1000 = 0 then (match Cal.dt s with
  | some t => (day t.1 t.2.1 t.2.2 u n k, over (day t.1 t.2.1 t.2.2 u n k))
  | none => (0, 0)) else (0, bad u n s k 1000)
theorem nthF_is (s u n k : Int) : (bad u n s k 1000 ≠ 0 ∧ nthF s u n k = (0, bad u n s k 1000)) ∨ (∃ y m d, Cal.vld y m d ∧ Cal.num y m d = s ∧ 1 ≤ u ∧ u ≤ 4 ∧ 1 ≤ n ∧ n ≤ 120 ∧ 0 ≤ k ∧ k ≤ 1000 ∧ nthF s u n k = (day y m d u n k, over (day y m d u n k))) := by
  by_cases h : bad u n s k 1000 = 0
  · obtain ⟨h1, h2, h3, h4, h5⟩ := bad_zero _ _ _ _ _ h
    obtain ⟨a, b, c, d⟩ := chk_zero _ _ h1
    obtain ⟨y, m, dd, hv, hn⟩ := Cal.ex_date s h2 h3
    refine .inr ⟨y, m, dd, hv, hn, a, b, c, d, h4, h5, ?_⟩
    unfold nthF
    rw [if_pos h, Cal.dt_is hv hn]
  · exact .inl ⟨h, by unfold nthF; rw [if_neg h]⟩
end Trm
theorem pNthF (s u n k : Int) (w : World) (hw : Laid w) :
    Calls Tryd.prog 46 #[.int .i64 s, .agg #[.int .i64 u, .int .i64 n], .int .i64 k] w fun e w' => e = .returned (.tuple #[.int .i64 (Trm.nthF s u n k).1, .int .i64 (Trm.nthF s u n k).2]) ∧ Below w.heap.size w w' := by
  rcases Trm.nthF_is s u n k with ⟨h1, h2⟩ | ⟨y, m, d, h1, h2, h3, h4, h5, h6, h7, h8, h9⟩
  · rw [h2]; exact nth_bad s u n k _ w rfl h1
  · rw [h9]; exact nth_ok s y m d u n k _ _ w hw h1 h2 h3 h4 h5 h6 h7 h8 rfl rfl
theorem refNthF (s u n k : Int) (w : World) :
    Calls Tryd.prog 32 #[.int .i64 s, .agg #[.int .i64 u, .int .i64 n], .int .i64 k] w fun e w' => e = .returned (.tuple #[.int .i64 (Trm.nthF s u n k).1, .int .i64 (Trm.nthF s u n k).2]) ∧ Below w.heap.size w w' := by
  rcases Trm.nthF_is s u n k with ⟨h1, h2⟩ | ⟨y, m, d, h1, h2, h3, h4, h5, h6, h7, h8, h9⟩
  · rw [h2]; exact refNth_bad s u n k _ w rfl h1
  · rw [h9]; exact refNth_ok s y m d u n k _ _ w h1 h2 h3 h4 h5 h6 h7 h8 rfl rfl
end Go.Proofs.YtandlmnbnjkklaaDoor
