/- The walks of Easter: Sunday and Feast answer as the plain mathematics says, and the reference too. -/
import Derived.Test.YtpjpmfcbddkjnaaDoorEas
import Derived.Test.YtpjpmfcbddkjnaaDoorBegun
import Derived.Test.YtpjpmfcbddkjnaaDoorRef2
namespace Go.Proofs.YtpjpmfcbddkjnaaDoor
open Go.RowKit Go.BigFrame Go.Sort

set_option maxHeartbeats 1000000 in
theorem place_any (y : Int) (w : World) (h1 : 1583 ≤ y) (h2 : y ≤ 9999) :
    Calls Tryd.prog 85 #[.int .i64 y] w fun e w' => e = .returned (.int .i64 (Cal.place y)) ∧ w' = w := by
  obtain ⟨a, ha⟩ : ∃ a, y % 19 = a := ⟨_, rfl⟩
  obtain ⟨b, hb⟩ : ∃ b, y / 100 = b := ⟨_, rfl⟩
  obtain ⟨c, hc⟩ : ∃ c, y % 100 = c := ⟨_, rfl⟩
  obtain ⟨f, hf⟩ : ∃ f, (b + 8) / 25 = f := ⟨_, rfl⟩
  obtain ⟨g, hg⟩ : ∃ g, (b - f + 1) / 3 = g := ⟨_, rfl⟩
  obtain ⟨d, hd⟩ : ∃ d, b / 4 = d := ⟨_, rfl⟩
  obtain ⟨h, hh⟩ : ∃ h, (19 * a + b - d - g + 15) % 30 = h := ⟨_, rfl⟩
  obtain ⟨i, hi⟩ : ∃ i, c / 4 = i := ⟨_, rfl⟩
  obtain ⟨k, hk⟩ : ∃ k, c % 4 = k := ⟨_, rfl⟩
  obtain ⟨e, he⟩ : ∃ e, b % 4 = e := ⟨_, rfl⟩
  obtain ⟨l, hl⟩ : ∃ l, (32 + 2 * e + 2 * i - h - k) % 7 = l := ⟨_, rfl⟩
  obtain ⟨m, hm⟩ : ∃ m, (a + 11 * h + 22 * l) / 451 = m := ⟨_, rfl⟩
  have HP : Hid (h + l - 7 * m + 114 = Cal.place y) := by
    unfold Hid Cal.place Cal.el Cal.eh
    rw [ha, hb, hc, hf, hg, hd, hi, hk, he, hh, hl, hm]
  have ba : 0 ≤ a ∧ a ≤ 18 := by omega
  have bb : 15 ≤ b ∧ b ≤ 99 := by omega
  have bc : 0 ≤ c ∧ c ≤ 99 := by omega
  have bf : 0 ≤ f ∧ f ≤ 4 := by omega
  have bg : 0 ≤ g ∧ g ≤ 33 := by omega
  have bd : 0 ≤ d ∧ d ≤ 24 := by omega
  have bn : 0 ≤ 19 * a + b - d - g + 15 := by omega
  have bh : 0 ≤ h ∧ h ≤ 29 := by omega
  have bi : 0 ≤ i ∧ i ≤ 24 := by omega
  have bk : 0 ≤ k ∧ k ≤ 3 := by omega
  have be : 0 ≤ e ∧ e ≤ 3 := by omega
  have bq : 0 ≤ 32 + 2 * e + 2 * i - h - k := by omega
  have bl : 0 ≤ l ∧ l ≤ 6 := by omega
  have bm : 0 ≤ m ∧ m ≤ 1 := by omega
  go_enter Tryd.func85, Tryd.ntmps85
  go_wp2
  go_ret
  exact ⟨ret_int HP.out, rfl⟩
set_option maxHeartbeats 1000000 in
theorem sunday_err (y : Int) (w : World) (h : y < 1583 ∨ 9999 < y) :
    Calls Tryd.prog 73 #[.int .i64 y] w fun e w' => e = .returned (.tuple #[.int .i64 0, .int .i64 3]) ∧ w' = w := by
  by_cases h1 : y < 1583
  · clear h
    go_enter Tryd.func73, Tryd.ntmps73
    go_wp2
    go_ret2
    exact ⟨rfl, rfl⟩
  · have h2 : 9999 < y := by omega
    clear h
    go_enter Tryd.func73, Tryd.ntmps73
    go_wp2
    go_ret2
    exact ⟨rfl, rfl⟩
set_option maxHeartbeats 1000000 in
theorem sunday_ok (y : Int) (w : World) (hw : Laid w) (h1 : 1583 ≤ y) (h2 : y ≤ 9999) :
    Calls Tryd.prog 73 #[.int .i64 y] w fun e w' => e = .returned (.tuple #[.int .i64 (Cal.easter y), .int .i64 0]) ∧ Below w.heap.size w w' := by
  have g := (Cal.goodE_of y h1 h2).1
  have hp : 0 ≤ Cal.place y ∧ Cal.place y ≤ 1000 := by
    obtain ⟨_, _, a, b, _, _⟩ := g; omega
  go_enter Tryd.func73, Tryd.ntmps73
  go_wp2_with (first
    | (go_at_call 85; refine (place_any _ _ (by omega) (by omega)).mono ?_; rintro e w1 ⟨rfl, rfl⟩)
    | (go_at_call 31; refine (day_ok _ _ _ _ hw g).mono ?_; rintro e w1 ⟨rfl, b1⟩))
  go_ret2
  exact ⟨rfl, b1⟩
set_option maxHeartbeats 1000000 in
theorem feast_err (y off : Int) (w : World) (h : y < 1583 ∨ 9999 < y) :
    Calls Tryd.prog 66 #[.int .i64 y, .int .i64 off] w fun e w' => e = .returned (.tuple #[.int .i64 0, .int .i64 3]) ∧ Below w.heap.size w w' := by
  have HN : Hid (y < 1583 ∨ 9999 < y) := h
  clear h
  go_enter Tryd.func66, Tryd.ntmps66
  go_wp2_with (go_at_call 73; refine (sunday_err _ _ HN.out).mono ?_; rintro e w1 ⟨rfl, rfl⟩)
  go_ret2
  exact ⟨rfl, Below.refl _ _⟩
theorem easter_bd (y : Int) (h1 : 1583 ≤ y) (h2 : y ≤ 9999) : 1 ≤ Cal.easter y ∧ Cal.easter y ≤ 3652059 := Cal.num_in _ _ _ (Cal.goodE_of y h1 h2).1
set_option maxHeartbeats 1000000 in
theorem feast_ok (y off : Int) (w : World) (hw : Laid w) (h1 : 1583 ≤ y) (h2 : y ≤ 9999) (h3 : -100 ≤ off) (h4 : off ≤ 100) :
    Calls Tryd.prog 66 #[.int .i64 y, .int .i64 off] w fun e w' => e = .returned (.tuple #[.int .i64 (Cal.easter y + off), .int .i64 0]) ∧ Below w.heap.size w w' := by
  have eb := easter_bd y h1 h2
  go_enter Tryd.func66, Tryd.ntmps66
  go_wp2_with (go_at_call 73; refine (sunday_ok _ _ hw (by omega) (by omega)).mono ?_; rintro e w1 ⟨rfl, b1⟩)
  go_ret2
  exact ⟨rfl, b1⟩
set_option maxHeartbeats 1000000 in
theorem feast_off (y off : Int) (w : World) (hw : Laid w) (h1 : 1583 ≤ y) (h2 : y ≤ 9999) (h : off < -100 ∨ 100 < off) :
    Calls Tryd.prog 66 #[.int .i64 y, .int .i64 off] w fun e w' => e = .returned (.tuple #[.int .i64 0, .int .i64 3]) ∧ Below w.heap.size w w' := by
  by_cases h3 : off < -100
  · clear h
    go_enter Tryd.func66, Tryd.ntmps66
    go_wp2_with (go_at_call 73; refine (sunday_ok _ _ hw (by omega) (by omega)).mono ?_; rintro e w1 ⟨rfl, b1⟩)
    go_ret2
    exact ⟨rfl, b1⟩
  · have h4 : 100 < off := by omega
    clear h
    go_enter Tryd.func66, Tryd.ntmps66
    go_wp2_with (go_at_call 73; refine (sunday_ok _ _ hw (by omega) (by omega)).mono ?_; rintro e w1 ⟨rfl, b1⟩)
    go_ret2
    exact ⟨rfl, b1⟩
end Go.Proofs.YtpjpmfcbddkjnaaDoor
