/- The walk of the reference's Easter (EasterOf): by the golden number and the epact it comes to the same day. -/
import Derived.Test.YtehopfpcikbaiaaDoorVCalToEBegun
namespace Go.Proofs.YtehopfpcikbaiaaDoor
open Go.RowKit Go.BigFrame Go.Sort

set_option maxHeartbeats 400000 in
theorem easterOf_err (y : Int) (w : World) (h : y < 1583 ∨ 9999 < y) :
    Calls Tryd.prog 84 #[.int .i64 y] w fun e w' => e = .returned (.tuple #[.int .i64 0, .int .i64 3]) ∧ Below w.heap.size w w' := by
  by_cases h1 : y < 1583
  · clear h
    go_enter Tryd.func84, Tryd.ntmps84
    go_wp2
    go_ret2
    exact ⟨rfl, Below.refl _ _⟩
  · have h2 : 9999 < y := by omega
    clear h
    go_enter Tryd.func84, Tryd.ntmps84
    go_wp2
    go_ret2
    exact ⟨rfl, Below.refl _ _⟩
set_option maxHeartbeats 1000000 in
theorem easterOf_pos_a_lo (y X E0 G : Int) (w : World) (h1 : 1583 ≤ y) (h2 : y ≤ 9999) (hG : y % 19 + 1 = G) (hE : (11 * G + 20 + ((8 * (y / 100 + 1) + 5) / 25 - 5) - (3 * (y / 100 + 1) / 4 - 12)).tmod 30 = E0) (hb0 : -30 < E0) (hb1 : E0 < 30) (hs : 0 ≤ E0) (ht1 : E0 = 25) (ht2 : 11 < G) (hu : 44 - (E0 + 1) < 21)
    (hX : X = 7 * ((Cal.num y 3 1 + (44 - (E0 + 1) + 30) - 1) / 7 + 1)) :
    Calls Tryd.prog 84 #[.int .i64 y] w fun e w' => e = .returned (.tuple #[.int .i64 X, .int .i64 0]) ∧ Below w.heap.size w w' := by
  have HX : Hid (X = 7 * ((Cal.num y 3 1 + (44 - (E0 + 1) + 30) - 1) / 7 + 1)) := hX
  have all := And.intro hb0 (And.intro hb1 (And.intro hs (And.intro hu (And.intro ht1 ht2))))
  clear hX all
  have hG1 : 1 ≤ G ∧ G ≤ 19 := by omega
  have hv : Cal.vld y 3 1 := ⟨by omega, by omega, by omega, by omega, by omega, by have := Cal.mlen_bd y 3; omega⟩
  have hn := Cal.num_in y 3 1 hv
  clear hv
  go_enter Tryd.func84, Tryd.ntmps84
  go_wp2_with fail
  refine (dayOf_any y 3 1 _ (by omega) (by omega) (by omega) (by omega) (by omega) (by omega)).mono ?_; rintro e w1 ⟨rfl, b1⟩
  go_wp2
  go_loop [11] (fun v => ∃ c : Int, Cal.num y 3 1 + (44 - (E0 + 1) + 30) - 1 < c ∧ c ≤ 7 * ((Cal.num y 3 1 + (44 - (E0 + 1) + 30) - 1) / 7 + 1) ∧ v = .int .i64 c) (fun v => (7 * ((Cal.num y 3 1 + (44 - (E0 + 1) + 30) - 1) / 7 + 1) - intOf v).toNat)
  case atStart => exact ⟨_, by omega, by omega, rfl⟩
  case round =>
    obtain ⟨c, hc1, hc2, rfl⟩ := hrel
    by_cases hc : c = 7 * ((Cal.num y 3 1 + (44 - (E0 + 1) + 30) - 1) / 7 + 1)
    · have hd : Cal.wday c = 7 := by unfold Cal.wday; omega
      have HC : Hid (X = c) := by unfold Hid; rw [HX.out, hc]
      clear hc
      go_wp2_with (go_at_call 72; refine (dow_any _ _ (by omega) (by omega)).mono ?_; rintro e w2 ⟨rfl, rfl⟩)
      go_ret2
      obtain rfl := HC.out
      exact ⟨rfl, b1⟩
    · have hd : ¬ Cal.wday c = 7 := by unfold Cal.wday; omega
      have hc3 : c < 7 * ((Cal.num y 3 1 + (44 - (E0 + 1) + 30) - 1) / 7 + 1) := by omega
      clear hc
      go_wp2_with (go_at_call 72; refine (dow_any _ _ (by omega) (by omega)).mono ?_; rintro e w2 ⟨rfl, rfl⟩)
      go_round
      case rel => exact ⟨c + 1, by omega, by omega, rfl⟩
      case measure => simp [intOf]; omega
set_option maxHeartbeats 1000000 in
theorem easterOf_pos_b_lo (y X E0 G : Int) (w : World) (h1 : 1583 ≤ y) (h2 : y ≤ 9999) (hG : y % 19 + 1 = G) (hE : (11 * G + 20 + ((8 * (y / 100 + 1) + 5) / 25 - 5) - (3 * (y / 100 + 1) / 4 - 12)).tmod 30 = E0) (hb0 : -30 < E0) (hb1 : E0 < 30) (hs : 0 ≤ E0) (ht1 : E0 = 24) (hu : 44 - (E0 + 1) < 21)
    (hX : X = 7 * ((Cal.num y 3 1 + (44 - (E0 + 1) + 30) - 1) / 7 + 1)) :
    Calls Tryd.prog 84 #[.int .i64 y] w fun e w' => e = .returned (.tuple #[.int .i64 X, .int .i64 0]) ∧ Below w.heap.size w w' := by
  have HX : Hid (X = 7 * ((Cal.num y 3 1 + (44 - (E0 + 1) + 30) - 1) / 7 + 1)) := hX
  have all := And.intro hb0 (And.intro hb1 (And.intro hs (And.intro hu ht1)))
  clear hX all
  have hG1 : 1 ≤ G ∧ G ≤ 19 := by omega
  have hv : Cal.vld y 3 1 := ⟨by omega, by omega, by omega, by omega, by omega, by have := Cal.mlen_bd y 3; omega⟩
  have hn := Cal.num_in y 3 1 hv
  clear hv
  go_enter Tryd.func84, Tryd.ntmps84
  go_wp2_with fail
  refine (dayOf_any y 3 1 _ (by omega) (by omega) (by omega) (by omega) (by omega) (by omega)).mono ?_; rintro e w1 ⟨rfl, b1⟩
  go_wp2
  go_loop [11] (fun v => ∃ c : Int, Cal.num y 3 1 + (44 - (E0 + 1) + 30) - 1 < c ∧ c ≤ 7 * ((Cal.num y 3 1 + (44 - (E0 + 1) + 30) - 1) / 7 + 1) ∧ v = .int .i64 c) (fun v => (7 * ((Cal.num y 3 1 + (44 - (E0 + 1) + 30) - 1) / 7 + 1) - intOf v).toNat)
  case atStart => exact ⟨_, by omega, by omega, rfl⟩
  case round =>
    obtain ⟨c, hc1, hc2, rfl⟩ := hrel
    by_cases hc : c = 7 * ((Cal.num y 3 1 + (44 - (E0 + 1) + 30) - 1) / 7 + 1)
    · have hd : Cal.wday c = 7 := by unfold Cal.wday; omega
      have HC : Hid (X = c) := by unfold Hid; rw [HX.out, hc]
      clear hc
      go_wp2_with (go_at_call 72; refine (dow_any _ _ (by omega) (by omega)).mono ?_; rintro e w2 ⟨rfl, rfl⟩)
      go_ret2
      obtain rfl := HC.out
      exact ⟨rfl, b1⟩
    · have hd : ¬ Cal.wday c = 7 := by unfold Cal.wday; omega
      have hc3 : c < 7 * ((Cal.num y 3 1 + (44 - (E0 + 1) + 30) - 1) / 7 + 1) := by omega
      clear hc
      go_wp2_with (go_at_call 72; refine (dow_any _ _ (by omega) (by omega)).mono ?_; rintro e w2 ⟨rfl, rfl⟩)
      go_round
      case rel => exact ⟨c + 1, by omega, by omega, rfl⟩
      case measure => simp [intOf]; omega
set_option maxHeartbeats 1000000 in
theorem easterOf_pos_c_lo (y X E0 G : Int) (w : World) (h1 : 1583 ≤ y) (h2 : y ≤ 9999) (hG : y % 19 + 1 = G) (hE : (11 * G + 20 + ((8 * (y / 100 + 1) + 5) / 25 - 5) - (3 * (y / 100 + 1) / 4 - 12)).tmod 30 = E0) (hb0 : -30 < E0) (hb1 : E0 < 30) (hs : 0 ≤ E0) (ht1 : E0 = 25) (ht2 : ¬ 11 < G) (hu : 44 - E0 < 21)
    (hX : X = 7 * ((Cal.num y 3 1 + (44 - E0 + 30) - 1) / 7 + 1)) :
    Calls Tryd.prog 84 #[.int .i64 y] w fun e w' => e = .returned (.tuple #[.int .i64 X, .int .i64 0]) ∧ Below w.heap.size w w' := by
  have HX : Hid (X = 7 * ((Cal.num y 3 1 + (44 - E0 + 30) - 1) / 7 + 1)) := hX
  have all := And.intro hb0 (And.intro hb1 (And.intro hs (And.intro hu (And.intro ht1 ht2))))
  clear hX all
  have hG1 : 1 ≤ G ∧ G ≤ 19 := by omega
  have hv : Cal.vld y 3 1 := ⟨by omega, by omega, by omega, by omega, by omega, by have := Cal.mlen_bd y 3; omega⟩
  have hn := Cal.num_in y 3 1 hv
  clear hv
  go_enter Tryd.func84, Tryd.ntmps84
  go_wp2_with fail
  refine (dayOf_any y 3 1 _ (by omega) (by omega) (by omega) (by omega) (by omega) (by omega)).mono ?_; rintro e w1 ⟨rfl, b1⟩
  go_wp2
  go_loop [11] (fun v => ∃ c : Int, Cal.num y 3 1 + (44 - E0 + 30) - 1 < c ∧ c ≤ 7 * ((Cal.num y 3 1 + (44 - E0 + 30) - 1) / 7 + 1) ∧ v = .int .i64 c) (fun v => (7 * ((Cal.num y 3 1 + (44 - E0 + 30) - 1) / 7 + 1) - intOf v).toNat)
  case atStart => exact ⟨_, by omega, by omega, rfl⟩
  case round =>
    obtain ⟨c, hc1, hc2, rfl⟩ := hrel
    by_cases hc : c = 7 * ((Cal.num y 3 1 + (44 - E0 + 30) - 1) / 7 + 1)
    · have hd : Cal.wday c = 7 := by unfold Cal.wday; omega
      have HC : Hid (X = c) := by unfold Hid; rw [HX.out, hc]
      clear hc
      go_wp2_with (go_at_call 72; refine (dow_any _ _ (by omega) (by omega)).mono ?_; rintro e w2 ⟨rfl, rfl⟩)
      go_ret2
      obtain rfl := HC.out
      exact ⟨rfl, b1⟩
    · have hd : ¬ Cal.wday c = 7 := by unfold Cal.wday; omega
      have hc3 : c < 7 * ((Cal.num y 3 1 + (44 - E0 + 30) - 1) / 7 + 1) := by omega
      clear hc
      go_wp2_with (go_at_call 72; refine (dow_any _ _ (by omega) (by omega)).mono ?_; rintro e w2 ⟨rfl, rfl⟩)
      go_round
      case rel => exact ⟨c + 1, by omega, by omega, rfl⟩
      case measure => simp [intOf]; omega
set_option maxHeartbeats 1000000 in
theorem easterOf_pos_d_hi (y X E0 G : Int) (w : World) (h1 : 1583 ≤ y) (h2 : y ≤ 9999) (hG : y % 19 + 1 = G) (hE : (11 * G + 20 + ((8 * (y / 100 + 1) + 5) / 25 - 5) - (3 * (y / 100 + 1) / 4 - 12)).tmod 30 = E0) (hb0 : -30 < E0) (hb1 : E0 < 30) (hs : 0 ≤ E0) (ht1 : ¬ E0 = 25) (ht2 : ¬ E0 = 24) (hu : ¬ 44 - E0 < 21)
    (hX : X = 7 * ((Cal.num y 3 1 + (44 - E0) - 1) / 7 + 1)) :
    Calls Tryd.prog 84 #[.int .i64 y] w fun e w' => e = .returned (.tuple #[.int .i64 X, .int .i64 0]) ∧ Below w.heap.size w w' := by
  have HX : Hid (X = 7 * ((Cal.num y 3 1 + (44 - E0) - 1) / 7 + 1)) := hX
  have all := And.intro hb0 (And.intro hb1 (And.intro hs (And.intro hu (And.intro ht1 ht2))))
  clear hX all
  have hG1 : 1 ≤ G ∧ G ≤ 19 := by omega
  have hv : Cal.vld y 3 1 := ⟨by omega, by omega, by omega, by omega, by omega, by have := Cal.mlen_bd y 3; omega⟩
  have hn := Cal.num_in y 3 1 hv
  clear hv
  go_enter Tryd.func84, Tryd.ntmps84
  go_wp2_with fail
  refine (dayOf_any y 3 1 _ (by omega) (by omega) (by omega) (by omega) (by omega) (by omega)).mono ?_; rintro e w1 ⟨rfl, b1⟩
  go_wp2
  go_loop [11] (fun v => ∃ c : Int, Cal.num y 3 1 + (44 - E0) - 1 < c ∧ c ≤ 7 * ((Cal.num y 3 1 + (44 - E0) - 1) / 7 + 1) ∧ v = .int .i64 c) (fun v => (7 * ((Cal.num y 3 1 + (44 - E0) - 1) / 7 + 1) - intOf v).toNat)
  case atStart => exact ⟨_, by omega, by omega, rfl⟩
  case round =>
    obtain ⟨c, hc1, hc2, rfl⟩ := hrel
    by_cases hc : c = 7 * ((Cal.num y 3 1 + (44 - E0) - 1) / 7 + 1)
    · have hd : Cal.wday c = 7 := by unfold Cal.wday; omega
      have HC : Hid (X = c) := by unfold Hid; rw [HX.out, hc]
      clear hc
      go_wp2_with (go_at_call 72; refine (dow_any _ _ (by omega) (by omega)).mono ?_; rintro e w2 ⟨rfl, rfl⟩)
      go_ret2
      obtain rfl := HC.out
      exact ⟨rfl, b1⟩
    · have hd : ¬ Cal.wday c = 7 := by unfold Cal.wday; omega
      have hc3 : c < 7 * ((Cal.num y 3 1 + (44 - E0) - 1) / 7 + 1) := by omega
      clear hc
      go_wp2_with (go_at_call 72; refine (dow_any _ _ (by omega) (by omega)).mono ?_; rintro e w2 ⟨rfl, rfl⟩)
      go_round
      case rel => exact ⟨c + 1, by omega, by omega, rfl⟩
      case measure => simp [intOf]; omega
set_option maxHeartbeats 1000000 in
theorem easterOf_pos_d_lo (y X E0 G : Int) (w : World) (h1 : 1583 ≤ y) (h2 : y ≤ 9999) (hG : y % 19 + 1 = G) (hE : (11 * G + 20 + ((8 * (y / 100 + 1) + 5) / 25 - 5) - (3 * (y / 100 + 1) / 4 - 12)).tmod 30 = E0) (hb0 : -30 < E0) (hb1 : E0 < 30) (hs : 0 ≤ E0) (ht1 : ¬ E0 = 25) (ht2 : ¬ E0 = 24) (hu : 44 - E0 < 21)
    (hX : X = 7 * ((Cal.num y 3 1 + (44 - E0 + 30) - 1) / 7 + 1)) :
    Calls Tryd.prog 84 #[.int .i64 y] w fun e w' => e = .returned (.tuple #[.int .i64 X, .int .i64 0]) ∧ Below w.heap.size w w' := by
  have HX : Hid (X = 7 * ((Cal.num y 3 1 + (44 - E0 + 30) - 1) / 7 + 1)) := hX
  have all := And.intro hb0 (And.intro hb1 (And.intro hs (And.intro hu (And.intro ht1 ht2))))
  clear hX all
  have hG1 : 1 ≤ G ∧ G ≤ 19 := by omega
  have hv : Cal.vld y 3 1 := ⟨by omega, by omega, by omega, by omega, by omega, by have := Cal.mlen_bd y 3; omega⟩
  have hn := Cal.num_in y 3 1 hv
  clear hv
  go_enter Tryd.func84, Tryd.ntmps84
  go_wp2_with fail
  refine (dayOf_any y 3 1 _ (by omega) (by omega) (by omega) (by omega) (by omega) (by omega)).mono ?_; rintro e w1 ⟨rfl, b1⟩
  go_wp2
  go_loop [11] (fun v => ∃ c : Int, Cal.num y 3 1 + (44 - E0 + 30) - 1 < c ∧ c ≤ 7 * ((Cal.num y 3 1 + (44 - E0 + 30) - 1) / 7 + 1) ∧ v = .int .i64 c) (fun v => (7 * ((Cal.num y 3 1 + (44 - E0 + 30) - 1) / 7 + 1) - intOf v).toNat)
  case atStart => exact ⟨_, by omega, by omega, rfl⟩
  case round =>
    obtain ⟨c, hc1, hc2, rfl⟩ := hrel
    by_cases hc : c = 7 * ((Cal.num y 3 1 + (44 - E0 + 30) - 1) / 7 + 1)
    · have hd : Cal.wday c = 7 := by unfold Cal.wday; omega
      have HC : Hid (X = c) := by unfold Hid; rw [HX.out, hc]
      clear hc
      go_wp2_with (go_at_call 72; refine (dow_any _ _ (by omega) (by omega)).mono ?_; rintro e w2 ⟨rfl, rfl⟩)
      go_ret2
      obtain rfl := HC.out
      exact ⟨rfl, b1⟩
    · have hd : ¬ Cal.wday c = 7 := by unfold Cal.wday; omega
      have hc3 : c < 7 * ((Cal.num y 3 1 + (44 - E0 + 30) - 1) / 7 + 1) := by omega
      clear hc
      go_wp2_with (go_at_call 72; refine (dow_any _ _ (by omega) (by omega)).mono ?_; rintro e w2 ⟨rfl, rfl⟩)
      go_round
      case rel => exact ⟨c + 1, by omega, by omega, rfl⟩
      case measure => simp [intOf]; omega
set_option maxHeartbeats 1000000 in
theorem easterOf_neg_a_lo (y X E0 G : Int) (w : World) (h1 : 1583 ≤ y) (h2 : y ≤ 9999) (hG : y % 19 + 1 = G) (hE : (11 * G + 20 + ((8 * (y / 100 + 1) + 5) / 25 - 5) - (3 * (y / 100 + 1) / 4 - 12)).tmod 30 = E0) (hb0 : -30 < E0) (hb1 : E0 < 30) (hs : E0 < 0) (ht1 : E0 + 30 = 25) (ht2 : 11 < G) (hu : 44 - (E0 + 30 + 1) < 21)
    (hX : X = 7 * ((Cal.num y 3 1 + (44 - (E0 + 30 + 1) + 30) - 1) / 7 + 1)) :
    Calls Tryd.prog 84 #[.int .i64 y] w fun e w' => e = .returned (.tuple #[.int .i64 X, .int .i64 0]) ∧ Below w.heap.size w w' := by
  have HX : Hid (X = 7 * ((Cal.num y 3 1 + (44 - (E0 + 30 + 1) + 30) - 1) / 7 + 1)) := hX
  have all := And.intro hb0 (And.intro hb1 (And.intro hs (And.intro hu (And.intro ht1 ht2))))
  clear hX all
  have hG1 : 1 ≤ G ∧ G ≤ 19 := by omega
  have hv : Cal.vld y 3 1 := ⟨by omega, by omega, by omega, by omega, by omega, by have := Cal.mlen_bd y 3; omega⟩
  have hn := Cal.num_in y 3 1 hv
  clear hv
  go_enter Tryd.func84, Tryd.ntmps84
  go_wp2_with fail
  refine (dayOf_any y 3 1 _ (by omega) (by omega) (by omega) (by omega) (by omega) (by omega)).mono ?_; rintro e w1 ⟨rfl, b1⟩
  go_wp2
  go_loop [11] (fun v => ∃ c : Int, Cal.num y 3 1 + (44 - (E0 + 30 + 1) + 30) - 1 < c ∧ c ≤ 7 * ((Cal.num y 3 1 + (44 - (E0 + 30 + 1) + 30) - 1) / 7 + 1) ∧ v = .int .i64 c) (fun v => (7 * ((Cal.num y 3 1 + (44 - (E0 + 30 + 1) + 30) - 1) / 7 + 1) - intOf v).toNat)
  case atStart => exact ⟨_, by omega, by omega, rfl⟩
  case round =>
    obtain ⟨c, hc1, hc2, rfl⟩ := hrel
    by_cases hc : c = 7 * ((Cal.num y 3 1 + (44 - (E0 + 30 + 1) + 30) - 1) / 7 + 1)
    · have hd : Cal.wday c = 7 := by unfold Cal.wday; omega
      have HC : Hid (X = c) := by unfold Hid; rw [HX.out, hc]
      clear hc
      go_wp2_with (go_at_call 72; refine (dow_any _ _ (by omega) (by omega)).mono ?_; rintro e w2 ⟨rfl, rfl⟩)
      go_ret2
      obtain rfl := HC.out
      exact ⟨rfl, b1⟩
    · have hd : ¬ Cal.wday c = 7 := by unfold Cal.wday; omega
      have hc3 : c < 7 * ((Cal.num y 3 1 + (44 - (E0 + 30 + 1) + 30) - 1) / 7 + 1) := by omega
      clear hc
      go_wp2_with (go_at_call 72; refine (dow_any _ _ (by omega) (by omega)).mono ?_; rintro e w2 ⟨rfl, rfl⟩)
      go_round
      case rel => exact ⟨c + 1, by omega, by omega, rfl⟩
      case measure => simp [intOf]; omega
set_option maxHeartbeats 1000000 in
theorem easterOf_neg_b_lo (y X E0 G : Int) (w : World) (h1 : 1583 ≤ y) (h2 : y ≤ 9999) (hG : y % 19 + 1 = G) (hE : (11 * G + 20 + ((8 * (y / 100 + 1) + 5) / 25 - 5) - (3 * (y / 100 + 1) / 4 - 12)).tmod 30 = E0) (hb0 : -30 < E0) (hb1 : E0 < 30) (hs : E0 < 0) (ht1 : E0 + 30 = 24) (hu : 44 - (E0 + 30 + 1) < 21)
    (hX : X = 7 * ((Cal.num y 3 1 + (44 - (E0 + 30 + 1) + 30) - 1) / 7 + 1)) :
    Calls Tryd.prog 84 #[.int .i64 y] w fun e w' => e = .returned (.tuple #[.int .i64 X, .int .i64 0]) ∧ Below w.heap.size w w' := by
  have HX : Hid (X = 7 * ((Cal.num y 3 1 + (44 - (E0 + 30 + 1) + 30) - 1) / 7 + 1)) := hX
  have all := And.intro hb0 (And.intro hb1 (And.intro hs (And.intro hu ht1)))
  clear hX all
  have hG1 : 1 ≤ G ∧ G ≤ 19 := by omega
  have hv : Cal.vld y 3 1 := ⟨by omega, by omega, by omega, by omega, by omega, by have := Cal.mlen_bd y 3; omega⟩
  have hn := Cal.num_in y 3 1 hv
  clear hv
  go_enter Tryd.func84, Tryd.ntmps84
  go_wp2_with fail
  refine (dayOf_any y 3 1 _ (by omega) (by omega) (by omega) (by omega) (by omega) (by omega)).mono ?_; rintro e w1 ⟨rfl, b1⟩
  go_wp2
  go_loop [11] (fun v => ∃ c : Int, Cal.num y 3 1 + (44 - (E0 + 30 + 1) + 30) - 1 < c ∧ c ≤ 7 * ((Cal.num y 3 1 + (44 - (E0 + 30 + 1) + 30) - 1) / 7 + 1) ∧ v = .int .i64 c) (fun v => (7 * ((Cal.num y 3 1 + (44 - (E0 + 30 + 1) + 30) - 1) / 7 + 1) - intOf v).toNat)
  case atStart => exact ⟨_, by omega, by omega, rfl⟩
  case round =>
    obtain ⟨c, hc1, hc2, rfl⟩ := hrel
    by_cases hc : c = 7 * ((Cal.num y 3 1 + (44 - (E0 + 30 + 1) + 30) - 1) / 7 + 1)
    · have hd : Cal.wday c = 7 := by unfold Cal.wday; omega
      have HC : Hid (X = c) := by unfold Hid; rw [HX.out, hc]
      clear hc
      go_wp2_with (go_at_call 72; refine (dow_any _ _ (by omega) (by omega)).mono ?_; rintro e w2 ⟨rfl, rfl⟩)
      go_ret2
      obtain rfl := HC.out
      exact ⟨rfl, b1⟩
    · have hd : ¬ Cal.wday c = 7 := by unfold Cal.wday; omega
      have hc3 : c < 7 * ((Cal.num y 3 1 + (44 - (E0 + 30 + 1) + 30) - 1) / 7 + 1) := by omega
      clear hc
      go_wp2_with (go_at_call 72; refine (dow_any _ _ (by omega) (by omega)).mono ?_; rintro e w2 ⟨rfl, rfl⟩)
      go_round
      case rel => exact ⟨c + 1, by omega, by omega, rfl⟩
      case measure => simp [intOf]; omega
set_option maxHeartbeats 1000000 in
theorem easterOf_neg_c_lo (y X E0 G : Int) (w : World) (h1 : 1583 ≤ y) (h2 : y ≤ 9999) (hG : y % 19 + 1 = G) (hE : (11 * G + 20 + ((8 * (y / 100 + 1) + 5) / 25 - 5) - (3 * (y / 100 + 1) / 4 - 12)).tmod 30 = E0) (hb0 : -30 < E0) (hb1 : E0 < 30) (hs : E0 < 0) (ht1 : E0 + 30 = 25) (ht2 : ¬ 11 < G) (hu : 44 - (E0 + 30) < 21)
    (hX : X = 7 * ((Cal.num y 3 1 + (44 - (E0 + 30) + 30) - 1) / 7 + 1)) :
    Calls Tryd.prog 84 #[.int .i64 y] w fun e w' => e = .returned (.tuple #[.int .i64 X, .int .i64 0]) ∧ Below w.heap.size w w' := by
  have HX : Hid (X = 7 * ((Cal.num y 3 1 + (44 - (E0 + 30) + 30) - 1) / 7 + 1)) := hX
  have all := And.intro hb0 (And.intro hb1 (And.intro hs (And.intro hu (And.intro ht1 ht2))))
  clear hX all
  have hG1 : 1 ≤ G ∧ G ≤ 19 := by omega
  have hv : Cal.vld y 3 1 := ⟨by omega, by omega, by omega, by omega, by omega, by have := Cal.mlen_bd y 3; omega⟩
  have hn := Cal.num_in y 3 1 hv
  clear hv
  go_enter Tryd.func84, Tryd.ntmps84
  go_wp2_with fail
  refine (dayOf_any y 3 1 _ (by omega) (by omega) (by omega) (by omega) (by omega) (by omega)).mono ?_; rintro e w1 ⟨rfl, b1⟩
  go_wp2
  go_loop [11] (fun v => ∃ c : Int, Cal.num y 3 1 + (44 - (E0 + 30) + 30) - 1 < c ∧ c ≤ 7 * ((Cal.num y 3 1 + (44 - (E0 + 30) + 30) - 1) / 7 + 1) ∧ v = .int .i64 c) (fun v => (7 * ((Cal.num y 3 1 + (44 - (E0 + 30) + 30) - 1) / 7 + 1) - intOf v).toNat)
  case atStart => exact ⟨_, by omega, by omega, rfl⟩
  case round =>
    obtain ⟨c, hc1, hc2, rfl⟩ := hrel
    by_cases hc : c = 7 * ((Cal.num y 3 1 + (44 - (E0 + 30) + 30) - 1) / 7 + 1)
    · have hd : Cal.wday c = 7 := by unfold Cal.wday; omega
      have HC : Hid (X = c) := by unfold Hid; rw [HX.out, hc]
      clear hc
      go_wp2_with (go_at_call 72; refine (dow_any _ _ (by omega) (by omega)).mono ?_; rintro e w2 ⟨rfl, rfl⟩)
      go_ret2
      obtain rfl := HC.out
      exact ⟨rfl, b1⟩
    · have hd : ¬ Cal.wday c = 7 := by unfold Cal.wday; omega
      have hc3 : c < 7 * ((Cal.num y 3 1 + (44 - (E0 + 30) + 30) - 1) / 7 + 1) := by omega
      clear hc
      go_wp2_with (go_at_call 72; refine (dow_any _ _ (by omega) (by omega)).mono ?_; rintro e w2 ⟨rfl, rfl⟩)
      go_round
      case rel => exact ⟨c + 1, by omega, by omega, rfl⟩
      case measure => simp [intOf]; omega
set_option maxHeartbeats 1000000 in
theorem easterOf_neg_d_hi (y X E0 G : Int) (w : World) (h1 : 1583 ≤ y) (h2 : y ≤ 9999) (hG : y % 19 + 1 = G) (hE : (11 * G + 20 + ((8 * (y / 100 + 1) + 5) / 25 - 5) - (3 * (y / 100 + 1) / 4 - 12)).tmod 30 = E0) (hb0 : -30 < E0) (hb1 : E0 < 30) (hs : E0 < 0) (ht1 : ¬ E0 + 30 = 25) (ht2 : ¬ E0 + 30 = 24) (hu : ¬ 44 - (E0 + 30) < 21)
    (hX : X = 7 * ((Cal.num y 3 1 + (44 - (E0 + 30)) - 1) / 7 + 1)) :
    Calls Tryd.prog 84 #[.int .i64 y] w fun e w' => e = .returned (.tuple #[.int .i64 X, .int .i64 0]) ∧ Below w.heap.size w w' := by
  have HX : Hid (X = 7 * ((Cal.num y 3 1 + (44 - (E0 + 30)) - 1) / 7 + 1)) := hX
  have all := And.intro hb0 (And.intro hb1 (And.intro hs (And.intro hu (And.intro ht1 ht2))))
  clear hX all
  have hG1 : 1 ≤ G ∧ G ≤ 19 := by omega
  have hv : Cal.vld y 3 1 := ⟨by omega, by omega, by omega, by omega, by omega, by have := Cal.mlen_bd y 3; omega⟩
  have hn := Cal.num_in y 3 1 hv
  clear hv
  go_enter Tryd.func84, Tryd.ntmps84
  go_wp2_with fail
  refine (dayOf_any y 3 1 _ (by omega) (by omega) (by omega) (by omega) (by omega) (by omega)).mono ?_; rintro e w1 ⟨rfl, b1⟩
  go_wp2
  go_loop [11] (fun v => ∃ c : Int, Cal.num y 3 1 + (44 - (E0 + 30)) - 1 < c ∧ c ≤ 7 * ((Cal.num y 3 1 + (44 - (E0 + 30)) - 1) / 7 + 1) ∧ v = .int .i64 c) (fun v => (7 * ((Cal.num y 3 1 + (44 - (E0 + 30)) - 1) / 7 + 1) - intOf v).toNat)
  case atStart => exact ⟨_, by omega, by omega, rfl⟩
  case round =>
    obtain ⟨c, hc1, hc2, rfl⟩ := hrel
    by_cases hc : c = 7 * ((Cal.num y 3 1 + (44 - (E0 + 30)) - 1) / 7 + 1)
    · have hd : Cal.wday c = 7 := by unfold Cal.wday; omega
      have HC : Hid (X = c) := by unfold Hid; rw [HX.out, hc]
      clear hc
      go_wp2_with (go_at_call 72; refine (dow_any _ _ (by omega) (by omega)).mono ?_; rintro e w2 ⟨rfl, rfl⟩)
      go_ret2
      obtain rfl := HC.out
      exact ⟨rfl, b1⟩
    · have hd : ¬ Cal.wday c = 7 := by unfold Cal.wday; omega
      have hc3 : c < 7 * ((Cal.num y 3 1 + (44 - (E0 + 30)) - 1) / 7 + 1) := by omega
      clear hc
      go_wp2_with (go_at_call 72; refine (dow_any _ _ (by omega) (by omega)).mono ?_; rintro e w2 ⟨rfl, rfl⟩)
      go_round
      case rel => exact ⟨c + 1, by omega, by omega, rfl⟩
      case measure => simp [intOf]; omega
set_option maxHeartbeats 1000000 in
theorem easterOf_neg_d_lo (y X E0 G : Int) (w : World) (h1 : 1583 ≤ y) (h2 : y ≤ 9999) (hG : y % 19 + 1 = G) (hE : (11 * G + 20 + ((8 * (y / 100 + 1) + 5) / 25 - 5) - (3 * (y / 100 + 1) / 4 - 12)).tmod 30 = E0) (hb0 : -30 < E0) (hb1 : E0 < 30) (hs : E0 < 0) (ht1 : ¬ E0 + 30 = 25) (ht2 : ¬ E0 + 30 = 24) (hu : 44 - (E0 + 30) < 21)
    (hX : X = 7 * ((Cal.num y 3 1 + (44 - (E0 + 30) + 30) - 1) / 7 + 1)) :
    Calls Tryd.prog 84 #[.int .i64 y] w fun e w' => e = .returned (.tuple #[.int .i64 X, .int .i64 0]) ∧ Below w.heap.size w w' := by
  have HX : Hid (X = 7 * ((Cal.num y 3 1 + (44 - (E0 + 30) + 30) - 1) / 7 + 1)) := hX
  have all := And.intro hb0 (And.intro hb1 (And.intro hs (And.intro hu (And.intro ht1 ht2))))
  clear hX all
  have hG1 : 1 ≤ G ∧ G ≤ 19 := by omega
  have hv : Cal.vld y 3 1 := ⟨by omega, by omega, by omega, by omega, by omega, by have := Cal.mlen_bd y 3; omega⟩
  have hn := Cal.num_in y 3 1 hv
  clear hv
  go_enter Tryd.func84, Tryd.ntmps84
  go_wp2_with fail
  refine (dayOf_any y 3 1 _ (by omega) (by omega) (by omega) (by omega) (by omega) (by omega)).mono ?_; rintro e w1 ⟨rfl, b1⟩
  go_wp2
  go_loop [11] (fun v => ∃ c : Int, Cal.num y 3 1 + (44 - (E0 + 30) + 30) - 1 < c ∧ c ≤ 7 * ((Cal.num y 3 1 + (44 - (E0 + 30) + 30) - 1) / 7 + 1) ∧ v = .int .i64 c) (fun v => (7 * ((Cal.num y 3 1 + (44 - (E0 + 30) + 30) - 1) / 7 + 1) - intOf v).toNat)
  case atStart => exact ⟨_, by omega, by omega, rfl⟩
  case round =>
    obtain ⟨c, hc1, hc2, rfl⟩ := hrel
    by_cases hc : c = 7 * ((Cal.num y 3 1 + (44 - (E0 + 30) + 30) - 1) / 7 + 1)
    · have hd : Cal.wday c = 7 := by unfold Cal.wday; omega
      have HC : Hid (X = c) := by unfold Hid; rw [HX.out, hc]
      clear hc
      go_wp2_with (go_at_call 72; refine (dow_any _ _ (by omega) (by omega)).mono ?_; rintro e w2 ⟨rfl, rfl⟩)
      go_ret2
      obtain rfl := HC.out
      exact ⟨rfl, b1⟩
    · have hd : ¬ Cal.wday c = 7 := by unfold Cal.wday; omega
      have hc3 : c < 7 * ((Cal.num y 3 1 + (44 - (E0 + 30) + 30) - 1) / 7 + 1) := by omega
      clear hc
      go_wp2_with (go_at_call 72; refine (dow_any _ _ (by omega) (by omega)).mono ?_; rintro e w2 ⟨rfl, rfl⟩)
      go_round
      case rel => exact ⟨c + 1, by omega, by omega, rfl⟩
      case measure => simp [intOf]; omega
theorem easterOf_ok (y : Int) (w : World) (h1 : 1583 ≤ y) (h2 : y ≤ 9999) :
    Calls Tryd.prog 84 #[.int .i64 y] w fun e w' => e = .returned (.tuple #[.int .i64 (Cal.easter y), .int .i64 0]) ∧ Below w.heap.size w w' := by
  have hX := (Cal.goodE_of y h1 h2).2.2.2.2.1
  unfold Cal.march at hX
  have hE : (11 * (y % 19 + 1) + 20 + ((8 * (y / 100 + 1) + 5) / 25 - 5) - (3 * (y / 100 + 1) / 4 - 12)).tmod 30 = Cal.epact0 y := rfl
  have hb0 : -30 < Cal.epact0 y := by
    have := Int.lt_tmod_of_pos (11 * (y % 19 + 1) + 20 + ((8 * (y / 100 + 1) + 5) / 25 - 5) - (3 * (y / 100 + 1) / 4 - 12)) (show (0 : Int) < 30 by decide)
    unfold Cal.epact0; omega
  have hb1 : Cal.epact0 y < 30 := by
    have := Int.tmod_lt_of_pos (11 * (y % 19 + 1) + 20 + ((8 * (y / 100 + 1) + 5) / 25 - 5) - (3 * (y / 100 + 1) / 4 - 12)) (show (0 : Int) < 30 by decide)
    unfold Cal.epact0; omega
  by_cases hs : Cal.epact0 y < 0
  · have e1 : Cal.epact1 y = Cal.epact0 y + 30 := by unfold Cal.epact1; rw [if_pos hs]
    by_cases a : Cal.epact0 y + 30 = 25
    · by_cases g : 11 < y % 19 + 1
      · skip
        have e2 : Cal.epact2 y = Cal.epact0 y + 30 + 1 := by unfold Cal.epact2; rw [e1, if_pos (.inl ⟨a, g⟩)]
        have ef : Cal.full y = 44 - (Cal.epact0 y + 30 + 1) + 30 := by unfold Cal.full; rw [e2, if_pos (by omega)]
        rw [ef] at hX
        exact easterOf_neg_a_lo y _ (Cal.epact0 y) _ w h1 h2 rfl hE hb0 hb1 hs a g (by omega) hX
      · skip
        have e2 : Cal.epact2 y = Cal.epact0 y + 30 := by unfold Cal.epact2; rw [e1, if_neg (by omega)]
        have ef : Cal.full y = 44 - (Cal.epact0 y + 30) + 30 := by unfold Cal.full; rw [e2, if_pos (by omega)]
        rw [ef] at hX
        exact easterOf_neg_c_lo y _ (Cal.epact0 y) _ w h1 h2 rfl hE hb0 hb1 hs a g (by omega) hX
    · by_cases b : Cal.epact0 y + 30 = 24
      · skip
        have e2 : Cal.epact2 y = Cal.epact0 y + 30 + 1 := by unfold Cal.epact2; rw [e1, if_pos (.inr b)]
        have ef : Cal.full y = 44 - (Cal.epact0 y + 30 + 1) + 30 := by unfold Cal.full; rw [e2, if_pos (by omega)]
        rw [ef] at hX
        exact easterOf_neg_b_lo y _ (Cal.epact0 y) _ w h1 h2 rfl hE hb0 hb1 hs b (by omega) hX
      · by_cases u : 44 - (Cal.epact0 y + 30) < 21
        · skip
          have e2 : Cal.epact2 y = Cal.epact0 y + 30 := by unfold Cal.epact2; rw [e1, if_neg (by omega)]
          have ef : Cal.full y = 44 - (Cal.epact0 y + 30) + 30 := by unfold Cal.full; rw [e2, if_pos (by omega)]
          rw [ef] at hX
          exact easterOf_neg_d_lo y _ (Cal.epact0 y) _ w h1 h2 rfl hE hb0 hb1 hs a b u hX
        · skip
          have e2 : Cal.epact2 y = Cal.epact0 y + 30 := by unfold Cal.epact2; rw [e1, if_neg (by omega)]
          have ef : Cal.full y = 44 - (Cal.epact0 y + 30) := by unfold Cal.full; rw [e2, if_neg (by omega)]
          rw [ef] at hX
          exact easterOf_neg_d_hi y _ (Cal.epact0 y) _ w h1 h2 rfl hE hb0 hb1 hs a b u hX
  · have e1 : Cal.epact1 y = Cal.epact0 y := by unfold Cal.epact1; rw [if_neg hs]
    by_cases a : Cal.epact0 y = 25
    · by_cases g : 11 < y % 19 + 1
      · skip
        have e2 : Cal.epact2 y = Cal.epact0 y + 1 := by unfold Cal.epact2; rw [e1, if_pos (.inl ⟨a, g⟩)]
        have ef : Cal.full y = 44 - (Cal.epact0 y + 1) + 30 := by unfold Cal.full; rw [e2, if_pos (by omega)]
        rw [ef] at hX
        exact easterOf_pos_a_lo y _ (Cal.epact0 y) _ w h1 h2 rfl hE hb0 hb1 (by omega) a g (by omega) hX
      · skip
        have e2 : Cal.epact2 y = Cal.epact0 y := by unfold Cal.epact2; rw [e1, if_neg (by omega)]
        have ef : Cal.full y = 44 - (Cal.epact0 y) + 30 := by unfold Cal.full; rw [e2, if_pos (by omega)]
        rw [ef] at hX
        exact easterOf_pos_c_lo y _ (Cal.epact0 y) _ w h1 h2 rfl hE hb0 hb1 (by omega) a g (by omega) hX
    · by_cases b : Cal.epact0 y = 24
      · skip
        have e2 : Cal.epact2 y = Cal.epact0 y + 1 := by unfold Cal.epact2; rw [e1, if_pos (.inr b)]
        have ef : Cal.full y = 44 - (Cal.epact0 y + 1) + 30 := by unfold Cal.full; rw [e2, if_pos (by omega)]
        rw [ef] at hX
        exact easterOf_pos_b_lo y _ (Cal.epact0 y) _ w h1 h2 rfl hE hb0 hb1 (by omega) b (by omega) hX
      · by_cases u : 44 - (Cal.epact0 y) < 21
        · skip
          have e2 : Cal.epact2 y = Cal.epact0 y := by unfold Cal.epact2; rw [e1, if_neg (by omega)]
          have ef : Cal.full y = 44 - (Cal.epact0 y) + 30 := by unfold Cal.full; rw [e2, if_pos (by omega)]
          rw [ef] at hX
          exact easterOf_pos_d_lo y _ (Cal.epact0 y) _ w h1 h2 rfl hE hb0 hb1 (by omega) a b u hX
        · skip
          have e2 : Cal.epact2 y = Cal.epact0 y := by unfold Cal.epact2; rw [e1, if_neg (by omega)]
          have ef : Cal.full y = 44 - (Cal.epact0 y) := by unfold Cal.full; rw [e2, if_neg (by omega)]
          rw [ef] at hX
          exact easterOf_pos_d_hi y _ (Cal.epact0 y) _ w h1 h2 rfl hE hb0 hb1 (by omega) a b u hX
end Go.Proofs.YtehopfpcikbaiaaDoor
