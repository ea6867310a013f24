/- The walks of package term: months behind a day, the first day of a term. -/
import Derived.Test.YtandlmnbnjkklaaDoorTWk
namespace Go.Proofs.YtandlmnbnjkklaaDoor
open Go.RowKit

set_option maxHeartbeats 1000000 in
theorem monthsBehind_any (s y m d q : Int) (w : World) (hw : Laid w) (hv : Cal.vld y m d) (hs : Cal.num y m d = s) (h3 : 0 ≤ q) (h4 : q ≤ 2000000) :
    Calls Tryd.prog 71 #[.int .i64 s, .int .i64 q] w fun e w' => e = .returned (.tuple #[.int .i64 (Trm.mon y m d q), .int .i64 (Trm.over (Trm.mon y m d q))]) ∧ Below w.heap.size w w' := by
  have HV : Hid (Cal.vld y m d) := hv
  have HS : Hid (Cal.num y m d = s) := hs
  have HW : Hid (Laid w) := hw
  obtain ⟨v1, v2, v3, v4, v5, v6⟩ := hv
  have hml := Cal.mlen_bd y m
  have v7 : d ≤ 31 := by omega
  clear hw hs v6 hml
  by_cases h : 9999 < y + (m - 1 + q) / 12
  · have e : Trm.mon y m d q = 0 := by unfold Trm.mon; rw [if_pos h]
    have e2 : Trm.over 0 = 8 := rfl
    rw [e, e2]; clear e e2
    have eq1 : q + (m - 1) = m - 1 + q := by omega
    go_enter Tryd.func71, Tryd.ntmps71
    go_wp2_with fail
    refine (of_at s y m d _ HW.out HV.out HS.out).mono ?_; rintro e w1 ⟨rfl, b1⟩
    have B1 : Hid (Below w.heap.size w w1) := b1
    clear b1
    go_wp2_with fail
    go_ret2
    exact ⟨rfl, below_next B1.out (Nat.le_refl _) (below_box _ _)⟩
  · have e : Trm.mon y m d q = Cal.num (y + (m - 1 + q) / 12) ((m - 1 + q) % 12 + 1) (min d (Cal.mlen (y + (m - 1 + q) / 12) ((m - 1 + q) % 12 + 1))) := by unfold Trm.mon; rw [if_neg h]
    have hp := Cal.num_in _ _ _ (Trm.vld_mon y m d q HV.out h3 (by omega))
    have e2 : Trm.over (Trm.mon y m d q) = 0 := by unfold Trm.over; rw [if_neg (by rw [e]; omega)]
    rw [e2, e]; clear e e2 hp
    have eq1 : q + (m - 1) = m - 1 + q := by omega
    have l1 : 1 ≤ y + (m - 1 + q) / 12 := by omega
    have l2 : y + (m - 1 + q) / 12 ≤ 9999 := by omega
    have l3 : 1 ≤ (m - 1 + q) % 12 + 1 := by omega
    have l4 : (m - 1 + q) % 12 + 1 ≤ 12 := by omega
    go_enter Tryd.func71, Tryd.ntmps71
    go_wp2_with fail
    refine (of_at s y m d _ HW.out HV.out HS.out).mono ?_; rintro e w1 ⟨rfl, b1⟩
    have B1 : Hid (Below w.heap.size w w1) := b1
    clear b1
    go_wp2_with fail
    refine (inMonth_any _ _ _ _ ((HW.out.below B1.out).alloc _) l1 l2 l3 l4 v5 v7).mono ?_; rintro e w2 ⟨rfl, b2⟩
    go_wp2_with fail
    go_ret2
    exact ⟨rfl, below_next (below_next B1.out (Nat.le_refl _) (below_box _ _)) (Nat.le_refl _) b2⟩
set_option maxHeartbeats 1000000 in
theorem first_any (s y m d u n k : Int) (w : World) (hw : Laid w) (hv : Cal.vld y m d) (hs : Cal.num y m d = s) (hu1 : 1 ≤ u) (hu2 : u ≤ 4) (hn1 : 1 ≤ n) (hn2 : n ≤ 120) (hk1 : 0 ≤ k) (hk2 : k ≤ 1001) :
    Calls Tryd.prog 60 #[.int .i64 s, .agg #[.int .i64 u, .int .i64 n], .int .i64 k] w fun e w' => e = .returned (.tuple #[.int .i64 (Trm.day y m d u n k), .int .i64 (Trm.over (Trm.day y m d u n k))]) ∧ Below w.heap.size w w' := by
  have hq := Trm.mul_in k n hk1 hk2 hn1 hn2
  have hi := Cal.num_in y m d hv
  rw [hs] at hi
  have HV : Hid (Cal.vld y m d) := hv
  have HS : Hid (Cal.num y m d = s) := hs
  have HL : Hid (Laid (w.alloc (.cells #[.int .i64 u, .int .i64 n] 26))) := hw.alloc _
  clear hv hw
  have hu : u = 1 ∨ u = 2 ∨ u = 3 ∨ u = 4 := by omega
  clear hu1 hu2
  rcases hu with rfl | rfl | rfl | rfl
  · have e : Trm.day y m d 1 n k = Trm.days s (k * n) := by unfold Trm.day; rw [if_pos rfl, hs]
    rw [e]; clear e hs
    go_enter Tryd.func60, Tryd.ntmps60
    go_wp2_with (go_at_call 70; refine (daysBehind_any _ _ _ (by omega) (by omega) (by omega) (by omega)).mono ?_; rintro e w1 ⟨rfl, b1⟩)
    go_ret2
    exact ⟨rfl, below_next (below_box _ _) (Nat.le_refl _) b1⟩
  · have e : Trm.day y m d 2 n k = Trm.days s (k * n * 7) := by unfold Trm.day; rw [if_neg (by decide), if_pos rfl, hs]
    rw [e]; clear e hs
    go_enter Tryd.func60, Tryd.ntmps60
    go_wp2_with (go_at_call 70; refine (daysBehind_any _ _ _ (by omega) (by omega) (by omega) (by omega)).mono ?_; rintro e w1 ⟨rfl, b1⟩)
    go_ret2
    exact ⟨rfl, below_next (below_box _ _) (Nat.le_refl _) b1⟩
  · have e : Trm.day y m d 3 n k = Trm.mon y m d (k * n) := by unfold Trm.day; rw [if_neg (by decide), if_neg (by decide), if_pos rfl]
    rw [e]; clear e hs
    go_enter Tryd.func60, Tryd.ntmps60
    go_wp2_with (go_at_call 71; refine (monthsBehind_any _ y m d _ _ HL.out HV.out HS.out (by omega) (by omega)).mono ?_; rintro e w1 ⟨rfl, b1⟩)
    go_ret2
    exact ⟨rfl, below_next (below_box _ _) (Nat.le_refl _) b1⟩
  · have e : Trm.day y m d 4 n k = Trm.mon y m d (k * n * 12) := by unfold Trm.day; rw [if_neg (by decide), if_neg (by decide), if_neg (by decide)]
    rw [e]; clear e hs
    go_enter Tryd.func60, Tryd.ntmps60
    go_wp2_with (go_at_call 71; refine (monthsBehind_any _ y m d _ _ HL.out HV.out HS.out (by omega) (by omega)).mono ?_; rintro e w1 ⟨rfl, b1⟩)
    go_ret2
    exact ⟨rfl, below_next (below_box _ _) (Nat.le_refl _) b1⟩
theorem first_at (s y m d u n k x c : Int) (w : World) (hw : Laid w) (hv : Cal.vld y m d) (hs : Cal.num y m d = s) (hu1 : 1 ≤ u) (hu2 : u ≤ 4) (hn1 : 1 ≤ n) (hn2 : n ≤ 120) (hk1 : 0 ≤ k) (hk2 : k ≤ 1001) (hx : Trm.day y m d u n k = x) (hc : Trm.over x = c) :
    Calls Tryd.prog 60 #[.int .i64 s, .agg #[.int .i64 u, .int .i64 n], .int .i64 k] w fun e w' => e = .returned (.tuple #[.int .i64 x, .int .i64 c]) ∧ Below w.heap.size w w' := by
  subst hx hc; exact first_any s y m d u n k w hw hv hs hu1 hu2 hn1 hn2 hk1 hk2
theorem tcheck_at (u n c : Int) (w : World) (h : Trm.chk u n = c) :
    Calls Tryd.prog 57 #[.agg #[.int .i64 u, .int .i64 n]] w fun e w' => e = .returned (.int .i64 c) ∧ Below w.heap.size w w' := by
  subst h; exact tcheck_any u n w
namespace Trm
/-- why there is no kth term to be told, or no such list: 0 where nothing stands in the way yet -/
def bad (u n s k M : Int) : Int := if chk u n = 0 then (if s < 1 ∨ 3652059 < s ∨ k < 0 ∨ M < k then 3 else 0) else chk u n
theorem bad_zero (u n s k M : Int) (h : bad u n s k M = 0) : chk u n = 0 ∧ 1 ≤ s ∧ s ≤ 3652059 ∧ 0 ≤ k ∧ k ≤ M := by
  unfold bad at h
  split at h
  · rename_i c
    split at h
    · cases h
    · exact ⟨c, by omega⟩
  · rename_i c; exact absurd h c
end Trm
/-- the look at a start and a number, as Nth and Full have it -/
theorem bad_cases (u n s k M c : Int) (h : Trm.bad u n s k M = c) (hc : c ≠ 0) : (Trm.chk u n = c) ∨ (Trm.chk u n = 0 ∧ c = 3 ∧ (s < 1 ∨ 3652059 < s)) ∨ (Trm.chk u n = 0 ∧ c = 3 ∧ 1 ≤ s ∧ s ≤ 3652059 ∧ (k < 0 ∨ M < k)) := by
  unfold Trm.bad at h
  split at h
  · rename_i g
    split at h
    · by_cases g2 : s < 1 ∨ 3652059 < s
      · exact .inr (.inl ⟨g, by omega, g2⟩)
      · exact .inr (.inr ⟨g, by omega, by omega, by omega, by omega⟩)
    · exact absurd h.symm hc
  · exact .inl h
theorem has2_new (w : World) (x y : Int) (t : TypeId) : (w.alloc (.cells #[.int .i64 x, .int .i64 y] t)).cell? ⟨w.heap.size, 0, none⟩ = some (.int .i64 x) ∧ (w.alloc (.cells #[.int .i64 x, .int .i64 y] t)).cell? ⟨w.heap.size, 1, none⟩ = some (.int .i64 y) := ⟨by simp, by simp⟩
set_option maxHeartbeats 1000000 in
theorem nth_bad (s u n k c : Int) (w : World) (h : Trm.bad u n s k 1000 = c) (hc : c ≠ 0) :
    Calls Tryd.prog 46 #[.int .i64 s, .agg #[.int .i64 u, .int .i64 n], .int .i64 k] w fun e w' => e = .returned (.tuple #[.int .i64 0, .int .i64 c]) ∧ Below w.heap.size w w' := by
  have hc1 : (c != 0) = true := by simpa using hc
  rcases bad_cases u n s k 1000 c h hc with g | ⟨g, rfl, g2⟩ | ⟨g, rfl, g2, g3, g4⟩
  · have G : Hid (_) := g
    clear g h hc
    go_enter Tryd.func46, Tryd.ntmps46
    go_wp2_with fail
    refine (tcheck_at _ _ _ _ G.out).mono ?_; rintro e w1 ⟨rfl, b1⟩
    go_wp2_with fail
    go_ret2
    exact ⟨rfl, below_next (below_box _ _) (Nat.le_refl _) b1⟩
  · have G : Hid (_) := g
    have G2 : Hid (_) := g2
    clear g g2 h hc
    go_enter Tryd.func46, Tryd.ntmps46
    go_wp2_with fail
    refine (tcheck_at _ _ _ _ G.out).mono ?_; rintro e w1 ⟨rfl, b1⟩
    go_wp2_with (go_at_call 58; refine (tday_no _ _ G2.out).mono ?_; rintro e w' ⟨rfl, rfl⟩)
    go_ret2
    exact ⟨rfl, below_next (below_box _ _) (Nat.le_refl _) b1⟩
  · have G : Hid (_) := g
    have G4 : Hid (_) := g4
    clear g g4 h hc
    go_enter Tryd.func46, Tryd.ntmps46
    go_wp2_with fail
    refine (tcheck_at _ _ _ _ G.out).mono ?_; rintro e w1 ⟨rfl, b1⟩
    go_wp2_with (first
      | (go_at_call 58; refine (tday_yes _ _ g2 g3).mono ?_; rintro e w' ⟨rfl, rfl⟩)
      | (go_at_call 59; refine (twithin_no _ _ _ _ G4.out).mono ?_; rintro e w' ⟨rfl, rfl⟩))
    go_ret2
    exact ⟨rfl, below_next (below_box _ _) (Nat.le_refl _) b1⟩
set_option maxHeartbeats 1000000 in
theorem nth_ok (s y m d u n k x c : Int) (w : World) (hw : Laid w) (hv : Cal.vld y m d) (hs : Cal.num y m d = s) (hu1 : 1 ≤ u) (hu2 : u ≤ 4) (hn1 : 1 ≤ n) (hn2 : n ≤ 120) (hk1 : 0 ≤ k) (hk2 : k ≤ 1000) (hx : Trm.day y m d u n k = x) (hc : Trm.over x = c) :
    Calls Tryd.prog 46 #[.int .i64 s, .agg #[.int .i64 u, .int .i64 n], .int .i64 k] w fun e w' => e = .returned (.tuple #[.int .i64 x, .int .i64 c]) ∧ Below w.heap.size w w' := by
  have hi := Cal.num_in y m d hv
  rw [hs] at hi
  have G : Hid (Trm.chk u n = 0) := Trm.chk_ok u n hu1 hu2 hn1 hn2
  have HV : Hid (Cal.vld y m d ∧ Cal.num y m d = s ∧ Trm.day y m d u n k = x ∧ Trm.over x = c) := ⟨hv, hs, hx, hc⟩
  have HL : Hid (Laid (w.alloc (.cells #[.int .i64 u, .int .i64 n] 26))) := hw.alloc _
  clear hv hw hs hx hc
  go_enter Tryd.func46, Tryd.ntmps46
  go_wp2_with fail
  refine (tcheck_at _ _ _ _ G.out).mono ?_; rintro e w1 ⟨rfl, b1⟩
  have HB : Hid (_) := below_next (below_box w _) (Nat.le_refl _) b1
  have HL1 : Hid (Laid w1) := HL.out.below b1
  have c0 := (bcell b1).1 w.heap.size 0 (by simp)
  have c1 := (bcell b1).1 w.heap.size 1 (by simp)
  rw [(has2_new w u n 26).1] at c0
  rw [(has2_new w u n 26).2] at c1
  clear b1
  go_wp2_with (first
    | (go_at_call 58; refine (tday_yes _ _ hi.1 hi.2).mono ?_; rintro e w' ⟨rfl, rfl⟩)
    | (go_at_call 59; refine (twithin_yes _ _ _ _ hk1 hk2).mono ?_; rintro e w' ⟨rfl, rfl⟩)
    | (go_at_call 60; refine (first_at _ y m d _ _ _ x c _ HL1.out HV.out.1 HV.out.2.1 hu1 hu2 hn1 hn2 hk1 (by omega) HV.out.2.2.1 HV.out.2.2.2).mono ?_; rintro e w2 ⟨rfl, b2⟩))
  go_ret2
  exact ⟨rfl, below_next HB.out (Nat.le_refl _) b2⟩
end Go.Proofs.YtandlmnbnjkklaaDoor
