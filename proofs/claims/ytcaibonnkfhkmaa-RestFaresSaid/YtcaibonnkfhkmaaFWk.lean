/- The walks of package fare: within, is a row right, are fares right, one price, the least of two. -/
import Derived.Test.YtcaibonnkfhkmaaFRow
namespace Go.Proofs.Ytcaibonnkfhkmaa
open Go.RowKit

theorem within_any (x lo hi : Int) (w : World) : Calls Try.prog 25 #[.int .i64 x, .int .i64 lo, .int .i64 hi] w fun e w' => e = .returned (.bool (decide (lo ≤ x ∧ x ≤ hi))) ∧ w' = w := by
  by_cases h1 : lo ≤ x
  · have h1' : decide (lo ≤ x) = true := by simpa using h1
    go_enter Try.func25, Try.ntmps25
    go_wp2
    go_ret
    exact ⟨ret_bool (by simp [h1]), rfl⟩
  · have h1' : decide (lo ≤ x) = false := by simpa using h1
    go_enter Try.func25, Try.ntmps25
    go_wp2
    go_ret
    exact ⟨ret_bool (by simp), rfl⟩
theorem within_is (x lo hi : Int) (b : Bool) (w : World) (h : decide (lo ≤ x ∧ x ≤ hi) = b) : Calls Try.prog 25 #[.int .i64 x, .int .i64 lo, .int .i64 hi] w fun e w' => e = .returned (.bool b) ∧ w' = w := h ▸ within_any x lo hi w
set_option maxRecDepth 100000 in
theorem price_any (f : List (List Int)) (a : Option Addr) (cap x y : Nat) (w : World) (hm : Mat w a f) (hx : x < f.length) (hxy : x ≤ y) (hy : y - x < (f.getD x []).length) :
    Calls Try.prog 22 #[.slice a f.length cap, .int .i64 (x : Int), .int .i64 (y : Int)] w fun e w' => e = .returned (.int .i64 (Fr.pr f x y)) ∧ w' = w := by
  have hy2 : (f.getD x []).length ≤ maxLen := by obtain ⟨_, _, _, _, _, _, _, _, h⟩ := hm.at hx; exact h
  unfold maxLen at hy2
  obtain ⟨b, off, b2, off2, ci, rfl, hb, hb2, c1, c2⟩ := hm.price hx hy
  obtain ⟨k, hk⟩ : ∃ k, y = x + k := ⟨y - x, by omega⟩
  subst hk
  rw [show x + k - x = k by omega] at c2 hy
  generalize hn : (f.getD x []).length = n at *
  generalize Fr.pr f x (x + k) = p at *
  generalize f.length = N at *
  clear hm hn
  have hx' : (x : Int) < (N : Int) := by omega
  have hk' : (k : Int) < (n : Int) := by omega
  have e1 : ((x + k : Nat) : Int) - (x : Int) = (k : Int) := by omega
  have e2 : (x : Int) + (k : Int) - (x : Int) = (k : Int) := by omega
  go_enter Try.func22, Try.ntmps22
  go_wp2
  go_ret
  exact ⟨rfl, rfl⟩
/-- as many prices as there are zones from its own on -/
def Sq (f : List (List Int)) : Prop := ∀ x, x < f.length → (f.getD x []).length = f.length - x
theorem price_sq {f : List (List Int)} (hs : Sq f) (a : Option Addr) (cap x y : Nat) (w : World) (hm : Mat w a f) (hxy : x ≤ y) (hy : y < f.length) :
    Calls Try.prog 22 #[.slice a f.length cap, .int .i64 (x : Int), .int .i64 (y : Int)] w fun e w' => e = .returned (.int .i64 (Fr.pr f x y)) ∧ w' = w :=
  price_any f a cap x y w hm (by omega) hxy (by rw [hs x (by omega)]; omega)
theorem price_at {f : List (List Int)} (hs : Sq f) (a : Option Addr) (cap n x y : Nat) (X Y : Int) (w : World) (hn : f.length = n) (hX : X = x) (hY : Y = y) (hm : Mat w a f) (hxy : x ≤ y) (hy : y < n) :
    Calls Try.prog 22 #[.slice a n cap, .int .i64 X, .int .i64 Y] w fun e w' => e = .returned (.int .i64 (Fr.pr f x y)) ∧ w' = w := by
  subst hn hX hY
  exact price_sq hs a cap x y w hm hxy hy
set_option maxRecDepth 100000 in
set_option maxHeartbeats 1000000 in
theorem two_any {f : List (List Int)} (hs : Sq f) (hP : Fr.Ok (Fr.pr f) f.length) (ad : Option Addr) (cap a b : Nat) (w : World) (hm : Mat w ad f) (hab : a ≤ b) (hb : b < f.length) (hn6 : f.length ≤ 6) :
    Calls Try.prog 24 #[.slice ad f.length cap, .int .i64 (a : Int), .int .i64 (b : Int)] w fun e w' => e = .returned (.int .i64 (Fr.lt (Fr.pr f) a b (b - a))) ∧ w' = w := by
  have HS : Hid (Sq f) := hs
  have HP : Hid (Fr.Ok (Fr.pr f) f.length) := hP
  have HM : Hid (Mat w ad f) := hm
  obtain ⟨n, hn⟩ : ∃ n, f.length = n := ⟨_, rfl⟩
  have HN : Hid (f.length = n) := hn
  rw [hn] at hb hn6 HP ⊢
  clear hs hP hm hn
  go_enter Try.func24, Try.ntmps24
  go_wp2
  go_loop [7, 8] (fun s i => ∃ k : Nat, a + k ≤ b ∧ i = .int .i64 ((a + k : Nat) : Int) ∧ s = .int .i64 (Fr.lt (Fr.pr f) a b k)) (fun _ i => b - (intOf i).toNat)
  case atStart => exact ⟨0, by omega, rfl, rfl⟩
  case round =>
    obtain ⟨k, hk, rfl, rfl⟩ := hrel
    by_cases hlt : a + k < b
    · have hlt' : ((a + k : Nat) : Int) < (b : Int) := by omega
      have p1 := fun W => price_at HS.out ad cap n a (a + k) (a : Int) ((a + k : Nat) : Int) W HN.out rfl rfl
      have p2 := fun W => price_at HS.out ad cap n (a + k + 1) b (((a + k : Nat) : Int) + 1) (b : Int) W HN.out (by omega) rfl
      have b1 := HP.out a (a + k) (by omega) (by omega)
      have b2 := HP.out (a + k + 1) b (by omega) (by omega)
      have hL := Fr.lt_le (Fr.pr f) a b k
      have hL0 : 0 ≤ Fr.lt (Fr.pr f) a b k := by
        rcases Fr.lt_is (Fr.pr f) a b k with h | ⟨i, hi, h⟩
        · omega
        · rw [h]
          have := HP.out a (a + i) (by omega) (by omega)
          have := HP.out (a + i + 1) b (by omega) (by omega)
          omega
      have HL : Hid (Fr.lt (Fr.pr f) a b (k + 1) = min (Fr.lt (Fr.pr f) a b k) (Fr.pr f a (a + k) + Fr.pr f (a + k + 1) b)) := Fr.lt_succ _ _ _ _
      have hL1 := hL.1
      have P1 : Hid (_) := p1
      have P2 : Hid (_) := p2
      clear hL p1 p2
      generalize Fr.lt (Fr.pr f) a b k = L at *
      generalize Fr.pr f a (a + k) = A at *
      generalize Fr.pr f (a + k + 1) b = B at *
      by_cases hmin : L ≤ A + B
      · go_wp2_with fail
        refine (P1.out _ HM.out (by omega) (by omega)).mono ?_; rintro e w1 ⟨rfl, rfl⟩
        go_wp2_with fail
        refine (P2.out _ HM.out (by omega) (by omega)).mono ?_; rintro e w2 ⟨rfl, rfl⟩
        clear P1 P2
        go_wp2
        go_round
        case rel => exact ⟨k + 1, by omega, by go_num, by rw [HL.out, Int.min_eq_left hmin]⟩
        case measure => simp [intOf]; omega
      · have hmin' : A + B < L := by omega
        go_wp2_with fail
        refine (P1.out _ HM.out (by omega) (by omega)).mono ?_; rintro e w1 ⟨rfl, rfl⟩
        go_wp2_with fail
        refine (P2.out _ HM.out (by omega) (by omega)).mono ?_; rintro e w2 ⟨rfl, rfl⟩
        clear P1 P2
        go_wp2
        go_round
        case rel => exact ⟨k + 1, by omega, by go_num, by rw [HL.out, Int.min_eq_right (Int.le_of_lt hmin')]⟩
        case measure => simp [intOf]; omega
    · obtain rfl : a + k = b := by omega
      have HE : Hid (a + k - a = k) := by show _ = _; omega
      go_wp2
      go_ret
      exact ⟨ret_int (by first | rfl | rw [HE.out]), rfl⟩
end Go.Proofs.Ytcaibonnkfhkmaa
