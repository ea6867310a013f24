/- Plain mathematics of Easter: the rule of the document and that of the golden number and the epact come to one day, a Sunday, held for each year by the kernel. Plain mathematics of days of work: the holidays of a year. The walks of the reference's weeks: they come to the same plain mathematics; nothing old in memory turns. The walks of Easter: Sunday and Feast answer as the plain mathematics says, and the reference too. -/
import Derived.Test.YtehopfpcikbaiaaDoorCal
import Derived.Test.YtehopfpcikbaiaaDoorWkA
import Derived.Test.YtehopfpcikbaiaaDoorRef
import Derived.Test.YtehopfpcikbaiaaDoorDtToTWk
namespace Go.Proofs.YtehopfpcikbaiaaDoor
namespace Cal
def eh (y : Int) : Int := (19 * (y % 19) + y / 100 - y / 100 / 4 - (y / 100 - (y / 100 + 8) / 25 + 1) / 3 + 15) % 30
def el (y : Int) : Int := (32 + 2 * (y / 100 % 4) + 2 * (y % 100 / 4) - eh y - y % 100 % 4) % 7
def place (y : Int) : Int := eh y + el y - 7 * ((y % 19 + 11 * eh y + 22 * el y) / 451) + 114
def easter (y : Int) : Int := num y (place y / 31) (place y % 31 + 1)
def epact0 (y : Int) : Int := (11 * (y % 19 + 1) + 20 + ((8 * (y / 100 + 1) + 5) / 25 - 5) - (3 * (y / 100 + 1) / 4 - 12)).tmod 30
def epact1 (y : Int) : Int := if epact0 y < 0 then epact0 y + 30 else epact0 y
def epact2 (y : Int) : Int := if (epact1 y = 25 ∧ 11 < y % 19 + 1) ∨ epact1 y = 24 then epact1 y + 1 else epact1 y
def full (y : Int) : Int := if 44 - epact2 y < 21 then 44 - epact2 y + 30 else 44 - epact2 y
def march (y : Int) : Int := num y 3 1 + full y - 1
def gap (y : Int) : Int := easter (y + 1) - easter y
def goodE (y : Int) : Prop := vld y (place y / 31) (place y % 31 + 1) ∧ wday (easter y) = 7 ∧ num y 3 22 ≤ easter y ∧ easter y ≤ num y 4 25 ∧ easter y = 7 * (march y / 7 + 1) ∧ 0 < full y ∧ full y < 60
/-- the same as a test, with what is reckoned once handed on -/
def testE (y p e m f : Int) : Bool := decide (1 ≤ p / 31) && decide (p / 31 ≤ 12) && decide (p % 31 + 1 ≤ mlen y (p / 31)) && decide (0 ≤ p % 31) && decide (wday e = 7) && decide (num y 3 22 ≤ e) && decide (e ≤ num y 4 25) && decide (e = 7 * (m / 7 + 1)) && decide (0 < f) && decide (f < 60)
theorem goodE_of_test (y : Int) (h1 : 1 ≤ y) (h2 : y ≤ 9999) (h : testE y (place y) (easter y) (march y) (full y) = true) : goodE y := by
  unfold testE at h
  simp only [Bool.and_eq_true, decide_eq_true_eq] at h
  obtain ⟨⟨⟨⟨⟨⟨⟨⟨⟨a, b⟩, c⟩, d⟩, e⟩, f⟩, g⟩, i⟩, j⟩, k⟩ := h
  exact ⟨⟨h1, h2, a, b, by omega, c⟩, e, f, g, i, j, k⟩
def goodG (y : Int) : Prop := gap y = 350 ∨ gap y = 357 ∨ gap y = 378 ∨ gap y = 385
set_option maxRecDepth 100000 in
theorem goodE_all : ∀ a : Nat, a < 93 → ∀ b : Nat, b < 91 → 1583 + 91 * a + b ≤ 9999 → testE (1583 + 91 * a + b) (place (1583 + 91 * a + b)) (easter (1583 + 91 * a + b)) (march (1583 + 91 * a + b)) (full (1583 + 91 * a + b)) = true := by
  decide +kernel
set_option maxRecDepth 100000 in
theorem goodG_all : ∀ a : Nat, a < 93 → ∀ b : Nat, b < 91 → 1583 + 91 * a + b < 9999 → goodG (1583 + 91 * a + b) := by
  unfold goodG; decide +kernel
theorem split_year (y : Int) (h1 : 1583 ≤ y) (h2 : y ≤ 9999) : ∃ a b : Nat, a < 93 ∧ b < 91 ∧ 1583 + 91 * a + b ≤ 9999 ∧ y = 1583 + 91 * a + b := by
  refine ⟨((y - 1583) / 91).toNat, ((y - 1583) % 91).toNat, ?_, ?_, ?_, ?_⟩ <;> omega
theorem goodE_of (y : Int) (h1 : 1583 ≤ y) (h2 : y ≤ 9999) : goodE y := by
  obtain ⟨a, b, ha, hb, hc, rfl⟩ := split_year y h1 h2
  exact goodE_of_test _ (by omega) (by omega) (goodE_all a ha b hb hc)
theorem goodG_of (y : Int) (h1 : 1583 ≤ y) (h2 : y < 9999) : goodG y := by
  obtain ⟨a, b, ha, hb, _, rfl⟩ := split_year y h1 (by omega)
  exact goodG_all a ha b hb (by omega)
end Cal
end Go.Proofs.YtehopfpcikbaiaaDoor
namespace Go.Proofs.YtehopfpcikbaiaaDoor
namespace Wk
/-- the day of a rule in a year, if there is one -/
def rday (R : Rst) (y : Int) (r : Rl) : Option Int :=
  if y < 1 then none
  else if r.1 = 1 then some (push R (Cal.num y r.2.1 r.2.2.1))
  else if r.1 = 2 then some (nth y r.2.1 r.2.2.1 r.2.2.2)
  else if 1583 ≤ y then some (Cal.easter y + r.2.2.1) else none
def days (R : Rst) (L : List Rl) (y : Int) : List Int := L.filterMap (rday R y)
/-- the holidays of a year: rising, each once -/
def hol (R : Rst) (L : List Rl) (y : Int) : List Int := Spn.once (days R L y)
theorem mem_hol (R : Rst) (L : List Rl) (y n : Int) : n ∈ hol R L y ↔ n ∈ days R L y := (Spn.once_all _).2 n
theorem days_succ (R : Rst) (L : List Rl) (y : Int) (k : Nat) (r : Rl) (h : L[k]? = some r) : days R (L.take (k + 1)) y = days R (L.take k) y ++ (match rday R y r with | none => [] | some n => [n]) := by
  unfold days
  rw [List.take_add_one, h, List.filterMap_append]
  congr 1
  show List.filterMap (rday R y) [r] = _
  cases hd : rday R y r <;> simp [hd]
theorem days_len (R : Rst) (L : List Rl) (y : Int) : (days R L y).length ≤ L.length := List.length_filterMap_le _ _
/-- is a day one of work? -/
def isW (R : Rst) (L : List Rl) (n : Int) : Bool := !(R.rest n || decide (n ∈ days R L (Cal.yr n)) || decide (n ∈ days R L (Cal.yr n - 1)))
end Wk
end Go.Proofs.YtehopfpcikbaiaaDoor
namespace Go.Proofs.YtehopfpcikbaiaaDoor
open Go.RowKit Go.BigFrame Go.Sort

theorem dow_any (n : Int) (w : World) (h1 : 1 ≤ n) (h2 : n ≤ 4000000) :
    Calls Tryd.prog 72 #[.int .i64 n] w fun e w' => e = .returned (.int .i64 (Cal.wday n)) ∧ w' = w := by
  go_enter Tryd.func72, Tryd.ntmps72
  go_wp2
  go_loop [0] (fun v => ∃ c : Int, 1 ≤ c ∧ c ≤ n ∧ (n - c) % 7 = 0 ∧ v = .int .i64 c) (fun v => (intOf v).toNat)
  case atStart => exact ⟨n, by omega, by omega, by omega, rfl⟩
  case round =>
    obtain ⟨c, hc1, hc2, hc3, rfl⟩ := hrel
    have HC : Hid ((n - c) % 7 = 0) := hc3
    clear hc3
    by_cases hlt : 700000 < c
    · go_wp2
      go_round
      case rel => exact ⟨c - 700000, by omega, by omega, by have := HC.out; omega, rfl⟩
      case measure => simp [intOf]; omega
    · by_cases h7 : c % 7 = 0
      · go_wp2
        go_ret
        exact ⟨ret_int (by have := HC.out; unfold Cal.wday; omega), rfl⟩
      · go_wp2
        go_ret
        exact ⟨ret_int (by have := HC.out; unfold Cal.wday; omega), rfl⟩
end Go.Proofs.YtehopfpcikbaiaaDoor
namespace Go.Proofs.YtehopfpcikbaiaaDoor
open Go.RowKit Go.BigFrame Go.Sort

set_option maxHeartbeats 1000000 in
theorem place_any (y : Int) (w : World) (h1 : 1583 ≤ y) (h2 : y ≤ 9999) :
    Calls Tryd.prog 97 #[.int .i64 y] w fun e w' => e = .returned (.int .i64 (Cal.place y)) ∧ w' = w := by
  obtain ⟨a, ha⟩ : ∃ a, y % 19 = a := ⟨_, rfl⟩
  obtain ⟨b, hb⟩ : ∃ b, y / 100 = b := ⟨_, rfl⟩
  obtain ⟨c, hc⟩ : ∃ c, y % 100 = c := ⟨_, rfl⟩
  obtain ⟨f, hf⟩ : ∃ f, (b + 8) / 25 = f := ⟨_, rfl⟩
  obtain ⟨g, hg⟩ : ∃ g, (b - f + 1) / 3 = g := ⟨_, rfl⟩
  obtain ⟨d, hd⟩ : ∃ d, b / 4 = d := ⟨_, rfl⟩
  obtain ⟨h, hh⟩ : ∃ h, (19 * a + b - d - g + 15) % 30 = h := ⟨_, rfl⟩
  obtain ⟨i, hi⟩ : ∃ i, c / 4 = i := ⟨_, rfl⟩
  obtain ⟨k, hk⟩ : ∃ k, c % 4 = k := ⟨_, rfl⟩
  obtain ⟨e, he⟩ : ∃ e, b % 4 = e := ⟨_, rfl⟩
  obtain ⟨l, hl⟩ : ∃ l, (32 + 2 * e + 2 * i - h - k) % 7 = l := ⟨_, rfl⟩
  obtain ⟨m, hm⟩ : ∃ m, (a + 11 * h + 22 * l) / 451 = m := ⟨_, rfl⟩
  have HP : Hid (h + l - 7 * m + 114 = Cal.place y) := by
    unfold Hid Cal.place Cal.el Cal.eh
    rw [ha, hb, hc, hf, hg, hd, hi, hk, he, hh, hl, hm]
  have ba : 0 ≤ a ∧ a ≤ 18 := by omega
  have bb : 15 ≤ b ∧ b ≤ 99 := by omega
  have bc : 0 ≤ c ∧ c ≤ 99 := by omega
  have bf : 0 ≤ f ∧ f ≤ 4 := by omega
  have bg : 0 ≤ g ∧ g ≤ 33 := by omega
  have bd : 0 ≤ d ∧ d ≤ 24 := by omega
  have bn : 0 ≤ 19 * a + b - d - g + 15 := by omega
  have bh : 0 ≤ h ∧ h ≤ 29 := by omega
  have bi : 0 ≤ i ∧ i ≤ 24 := by omega
  have bk : 0 ≤ k ∧ k ≤ 3 := by omega
  have be : 0 ≤ e ∧ e ≤ 3 := by omega
  have bq : 0 ≤ 32 + 2 * e + 2 * i - h - k := by omega
  have bl : 0 ≤ l ∧ l ≤ 6 := by omega
  have bm : 0 ≤ m ∧ m ≤ 1 := by omega
  go_enter Tryd.func97, Tryd.ntmps97
  go_wp2
  go_ret
  exact ⟨ret_int HP.out, rfl⟩
set_option maxHeartbeats 1000000 in
theorem sunday_err (y : Int) (w : World) (h : y < 1583 ∨ 9999 < y) :
    Calls Tryd.prog 85 #[.int .i64 y] w fun e w' => e = .returned (.tuple #[.int .i64 0, .int .i64 3]) ∧ w' = w := by
  by_cases h1 : y < 1583
  · clear h
    go_enter Tryd.func85, Tryd.ntmps85
    go_wp2
    go_ret2
    exact ⟨rfl, rfl⟩
  · have h2 : 9999 < y := by omega
    clear h
    go_enter Tryd.func85, Tryd.ntmps85
    go_wp2
    go_ret2
    exact ⟨rfl, rfl⟩
set_option maxHeartbeats 1000000 in
theorem sunday_ok (y : Int) (w : World) (hw : Laid w) (h1 : 1583 ≤ y) (h2 : y ≤ 9999) :
    Calls Tryd.prog 85 #[.int .i64 y] w fun e w' => e = .returned (.tuple #[.int .i64 (Cal.easter y), .int .i64 0]) ∧ Below w.heap.size w w' := by
  have g := (Cal.goodE_of y h1 h2).1
  have hp : 0 ≤ Cal.place y ∧ Cal.place y ≤ 1000 := by
    obtain ⟨_, _, a, b, _, _⟩ := g; omega
  go_enter Tryd.func85, Tryd.ntmps85
  go_wp2_with (first
    | (go_at_call 97; refine (place_any _ _ (by omega) (by omega)).mono ?_; rintro e w1 ⟨rfl, rfl⟩)
    | (go_at_call 21; refine (day_ok _ _ _ _ hw g).mono ?_; rintro e w1 ⟨rfl, b1⟩))
  go_ret2
  exact ⟨rfl, b1⟩
set_option maxHeartbeats 1000000 in
theorem feast_err (y off : Int) (w : World) (h : y < 1583 ∨ 9999 < y) :
    Calls Tryd.prog 81 #[.int .i64 y, .int .i64 off] w fun e w' => e = .returned (.tuple #[.int .i64 0, .int .i64 3]) ∧ Below w.heap.size w w' := by
  have HN : Hid (y < 1583 ∨ 9999 < y) := h
  clear h
  go_enter Tryd.func81, Tryd.ntmps81
  go_wp2_with (go_at_call 85; refine (sunday_err _ _ HN.out).mono ?_; rintro e w1 ⟨rfl, rfl⟩)
  go_ret2
  exact ⟨rfl, Below.refl _ _⟩
theorem easter_bd (y : Int) (h1 : 1583 ≤ y) (h2 : y ≤ 9999) : 1 ≤ Cal.easter y ∧ Cal.easter y ≤ 3652059 := Cal.num_in _ _ _ (Cal.goodE_of y h1 h2).1
set_option maxHeartbeats 1000000 in
theorem feast_ok (y off : Int) (w : World) (hw : Laid w) (h1 : 1583 ≤ y) (h2 : y ≤ 9999) (h3 : -100 ≤ off) (h4 : off ≤ 100) :
    Calls Tryd.prog 81 #[.int .i64 y, .int .i64 off] w fun e w' => e = .returned (.tuple #[.int .i64 (Cal.easter y + off), .int .i64 0]) ∧ Below w.heap.size w w' := by
  have eb := easter_bd y h1 h2
  go_enter Tryd.func81, Tryd.ntmps81
  go_wp2_with (go_at_call 85; refine (sunday_ok _ _ hw (by omega) (by omega)).mono ?_; rintro e w1 ⟨rfl, b1⟩)
  go_ret2
  exact ⟨rfl, b1⟩
set_option maxHeartbeats 1000000 in
theorem feast_off (y off : Int) (w : World) (hw : Laid w) (h1 : 1583 ≤ y) (h2 : y ≤ 9999) (h : off < -100 ∨ 100 < off) :
    Calls Tryd.prog 81 #[.int .i64 y, .int .i64 off] w fun e w' => e = .returned (.tuple #[.int .i64 0, .int .i64 3]) ∧ Below w.heap.size w w' := by
  by_cases h3 : off < -100
  · clear h
    go_enter Tryd.func81, Tryd.ntmps81
    go_wp2_with (go_at_call 85; refine (sunday_ok _ _ hw (by omega) (by omega)).mono ?_; rintro e w1 ⟨rfl, b1⟩)
    go_ret2
    exact ⟨rfl, b1⟩
  · have h4 : 100 < off := by omega
    clear h
    go_enter Tryd.func81, Tryd.ntmps81
    go_wp2_with (go_at_call 85; refine (sunday_ok _ _ hw (by omega) (by omega)).mono ?_; rintro e w1 ⟨rfl, b1⟩)
    go_ret2
    exact ⟨rfl, b1⟩
end Go.Proofs.YtehopfpcikbaiaaDoor
