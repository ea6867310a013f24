/- Plain mathematics of Easter: the rule of the document and that of the golden number and the epact come to one day, a Sunday, held for each year by the kernel. -/
import Derived.Test.YtpjpmfcbddkjnaaDoorCal
namespace Go.Proofs.YtpjpmfcbddkjnaaDoor
namespace Cal
def eh (y : Int) : Int := (19 * (y % 19) + y / 100 - y / 100 / 4 - (y / 100 - (y / 100 + 8) / 25 + 1) / 3 + 15) % 30
def el (y : Int) : Int := (32 + 2 * (y / 100 % 4) + 2 * (y % 100 / 4) - eh y - y % 100 % 4) % 7
def place (y : Int) : Int := eh y + el y - 7 * ((y % 19 + 11 * eh y + 22 * el y) / 451) + 114
def easter (y : Int) : Int := num y (place y / 31) (place y % 31 + 1)
def epact0 (y : Int) : Int := (11 * (y % 19 + 1) + 20 + ((8 * (y / 100 + 1) + 5) / 25 - 5) - (3 * (y / 100 + 1) / 4 - 12)).tmod 30
def epact1 (y : Int) : Int := if epact0 y < 0 then epact0 y + 30 else epact0 y
def epact2 (y : Int) : Int := if (epact1 y = 25 ∧ 11 < y % 19 + 1) ∨ epact1 y = 24 then epact1 y + 1 else epact1 y
def full (y : Int) : Int := if 44 - epact2 y < 21 then 44 - epact2 y + 30 else 44 - epact2 y
def march (y : Int) : Int := num y 3 1 + full y - 1
def gap (y : Int) : Int := easter (y + 1) - easter y
def goodE (y : Int) : Prop := vld y (place y / 31) (place y % 31 + 1) ∧ wday (easter y) = 7 ∧ num y 3 22 ≤ easter y ∧ easter y ≤ num y 4 25 ∧ easter y = 7 * (march y / 7 + 1) ∧ 0 < full y ∧ full y < 60
/-- the same as a test, with what is reckoned once handed on -/
def testE (y p e m f : Int) : Bool := decide (1 ≤ p / 31) && decide (p / 31 ≤ 12) && decide (p % 31 + 1 ≤ mlen y (p / 31)) && decide (0 ≤ p % 31) && decide (wday e = 7) && decide (num y 3 22 ≤ e) && decide (e ≤ num y 4 25) && decide (e = 7 * (m / 7 + 1)) && decide (0 < f) && decide (f < 60)
theorem goodE_of_test (y : Int) (h1 : 1 ≤ y) (h2 : y ≤ 9999) (h : testE y (place y) (easter y) (march y) (full y) = true) : goodE y := by
  unfold testE at h
  simp only [Bool.and_eq_true, decide_eq_true_eq] at h
  obtain ⟨⟨⟨⟨⟨⟨⟨⟨⟨a, b⟩, c⟩, d⟩, e⟩, f⟩, g⟩, i⟩, j⟩, k⟩ := h
  exact ⟨⟨h1, h2, a, b, by omega, c⟩, e, f, g, i, j, k⟩
def goodG (y : Int) : Prop := gap y = 350 ∨ gap y = 357 ∨ gap y = 378 ∨ gap y = 385
set_option maxRecDepth 100000 in
theorem goodE_all : ∀ a : Nat, a < 93 → ∀ b : Nat, b < 91 → 1583 + 91 * a + b ≤ 9999 → testE (1583 + 91 * a + b) (place (1583 + 91 * a + b)) (easter (1583 + 91 * a + b)) (march (1583 + 91 * a + b)) (full (1583 + 91 * a + b)) = true := by
  decide +kernel
set_option maxRecDepth 100000 in
theorem goodG_all : ∀ a : Nat, a < 93 → ∀ b : Nat, b < 91 → 1583 + 91 * a + b < 9999 → goodG (1583 + 91 * a + b) := by
  unfold goodG; decide +kernel
theorem split_year (y : Int) (h1 : 1583 ≤ y) (h2 : y ≤ 9999) : ∃ a b : Nat, a < 93 ∧ b < 91 ∧ 1583 + 91 * a + b ≤ 9999 ∧ y = 1583 + 91 * a + b := by
  refine ⟨((y - 1583) / 91).toNat, ((y - 1583) % 91).toNat, ?_, ?_, ?_, ?_⟩ <;> omega
theorem goodE_of (y : Int) (h1 : 1583 ≤ y) (h2 : y ≤ 9999) : goodE y := by
  obtain ⟨a, b, ha, hb, hc, rfl⟩ := split_year y h1 h2
  exact goodE_of_test _ (by omega) (by omega) (goodE_all a ha b hb hc)
theorem goodG_of (y : Int) (h1 : 1583 ≤ y) (h2 : y < 9999) : goodG y := by
  obtain ⟨a, b, ha, hb, _, rfl⟩ := split_year y h1 (by omega)
  exact goodG_all a ha b hb (by omega)
end Cal
end Go.Proofs.YtpjpmfcbddkjnaaDoor
