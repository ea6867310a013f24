/- Plain mathematics of days of work: the next one, so many behind, how many between. -/
import Derived.Test.YtpjpmfcbddkjnaaDoorWk
namespace Go.Proofs.YtpjpmfcbddkjnaaDoor
namespace Wk
variable (R : Rst) (L : List Rl)
def nextF : Nat → Int → Int × Int
  | 0, _ => (0, 3)
  | k + 1, n => if isW R L n = true then (n, 0) else nextF k (n + 1)
/-- the next day of work, or why not -/
def next (n : Int) : Int × Int := if 1 ≤ n ∧ n ≤ 3651693 then nextF R L (3651694 - n).toNat n else (0, 3)
theorem next_out (n : Int) (h : ¬ (1 ≤ n ∧ n ≤ 3651693)) : next R L n = (0, 3) := by unfold next; rw [if_neg h]
theorem next_in (n : Int) (h1 : 1 ≤ n) (h2 : n ≤ 3651693) : next R L n = if isW R L n = true then (n, 0) else next R L (n + 1) := by
  unfold next
  rw [if_pos ⟨h1, h2⟩]
  obtain ⟨k, hk⟩ : ∃ k : Nat, (3651694 - n).toNat = k + 1 := ⟨(3651693 - n).toNat, by omega⟩
  rw [hk]
  show (if isW R L n = true then (n, 0) else nextF R L k (n + 1)) = _
  by_cases hw : isW R L n = true
  · rw [if_pos hw, if_pos hw]
  · rw [if_neg hw, if_neg hw]
    by_cases c : n + 1 ≤ 3651693
    · rw [if_pos ⟨by omega, c⟩]
      have e : (3651694 - (n + 1)).toNat = k := by omega
      rw [e]
    · rw [if_neg (by omega)]
      have e : k = 0 := by omega
      subst e; rfl
def addF : Nat → Int → Int → Int × Int
  | 0, _, _ => (0, 3)
  | k + 1, n, c => if isW R L n = true then (if c = 1 then (n, 0) else addF k (n + 1) (c - 1)) else addF k (n + 1) c
/-- from a day on: the c-th day of work -/
def addS (n c : Int) : Int × Int := if 1 ≤ n ∧ n ≤ 3651693 then addF R L (3651694 - n).toNat n c else (0, 3)
theorem addS_out (n c : Int) (h : ¬ (1 ≤ n ∧ n ≤ 3651693)) : addS R L n c = (0, 3) := by unfold addS; rw [if_neg h]
theorem addS_in (n c : Int) (h1 : 1 ≤ n) (h2 : n ≤ 3651693) : addS R L n c = if isW R L n = true then (if c = 1 then (n, 0) else addS R L (n + 1) (c - 1)) else addS R L (n + 1) c := by
  have key : ∀ c', addF R L ((3651694 - n).toNat - 1) (n + 1) c' = addS R L (n + 1) c' := by
    intro c'
    unfold addS
    by_cases c : n + 1 ≤ 3651693
    · rw [if_pos ⟨by omega, c⟩]
      have e : (3651694 - (n + 1)).toNat = (3651694 - n).toNat - 1 := by omega
      rw [e]
    · rw [if_neg (by omega)]
      have e : (3651694 - n).toNat - 1 = 0 := by omega
      rw [e]; rfl
  rw [← key, ← key]
  conv => lhs; unfold addS
  rw [if_pos ⟨h1, h2⟩]
  obtain ⟨k, hk⟩ : ∃ k : Nat, (3651694 - n).toNat = k + 1 := ⟨(3651693 - n).toNat, by omega⟩
  rw [hk]; rfl
/-- so many days of work behind a day, or why not -/
def add (n c : Int) : Int × Int := if 1 ≤ n ∧ n ≤ 3651693 ∧ 0 ≤ c ∧ c ≤ 400 then (if c = 0 then (n, 0) else addS R L (n + 1) c) else (0, 3)
/-- how many days of work, from n on, k days -/
def cnt (n : Int) : Nat → Int
  | 0 => 0
  | k + 1 => cnt n k + if isW R L (n + k) = true then 1 else 0
def count (a b : Int) : Int × Int :=
  if 1 ≤ a ∧ a ≤ 3651693 ∧ 1 ≤ b ∧ b ≤ 3651693 then (if b < a then (0, 4) else if 2000 < b - a then (0, 2) else (cnt R L a (b - a).toNat, 0)) else (0, 3)
theorem cnt_bd (n : Int) : ∀ k : Nat, 0 ≤ cnt R L n k ∧ cnt R L n k ≤ k
  | 0 => by simp [cnt]
  | k + 1 => by
    have := cnt_bd n k
    unfold cnt
    split <;> omega
/-- what is told of a calendar ahead of all else -/
def told (f : Int × Int) : Int × Int := if cchk R L = 0 then f else (0, cchk R L)
end Wk
end Go.Proofs.YtpjpmfcbddkjnaaDoor
