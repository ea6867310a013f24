/- Plain mathematics of amounts and of their parts: no program is named here. -/
namespace Go.Proofs.Ytdebhcdmbijanaa
namespace Pen
def amt (p : Int) : Bool := decide (-1099511627776 ≤ p) && decide (p ≤ 1099511627776)
theorem amt_yes (p : Int) (h : amt p = true) : -1099511627776 ≤ p ∧ p ≤ 1099511627776 := by simpa [amt] using h
theorem amt_no (p : Int) (h : amt p = false) : p < -1099511627776 ∨ 1099511627776 < p := by simp [amt] at h; omega
theorem amt_mk (p : Int) (h1 : -1099511627776 ≤ p) (h2 : p ≤ 1099511627776) : amt p = true := by simp [amt, h1, h2]
theorem amt_not (p : Int) (h : p < -1099511627776 ∨ 1099511627776 < p) : amt p = false := by simp [amt]; omega
theorem amt_neg (p : Int) : amt (-p) = amt p := by rw [Bool.eq_iff_iff]; simp [amt]; omega
/-- the sum of a list, or why not -/
def bad (l : List Int) : Bool := l.any fun p => !amt p
def tot (l : List Int) : Int := if bad l = true then 0 else if amt l.sum = true then l.sum else 0
def totE (l : List Int) : Int := if bad l = true then 3 else if amt l.sum = true then 0 else 8
theorem take_succ1 (l : List Int) (k : Nat) (x : Int) (h : l[k]? = some x) : l.take (k + 1) = l.take k ++ [x] := by
  rw [List.take_add_one, h]; rfl
theorem bad_succ (l : List Int) (k : Nat) (x : Int) (h : l[k]? = some x) (h0 : bad (l.take k) = false) (hx : amt x = true) : bad (l.take (k + 1)) = false := by
  rw [take_succ1 l k x h]; unfold bad at *; rw [List.any_append, h0]; simp [hx]
theorem bad_at (l : List Int) (k : Nat) (x : Int) (h : l[k]? = some x) (hx : amt x = false) : bad l = true := by
  unfold bad; rw [List.any_eq_true]; exact ⟨x, List.mem_of_getElem? h, by simp [hx]⟩
theorem sum_succ (l : List Int) (k : Nat) (x : Int) (h : l[k]? = some x) : (l.take (k + 1)).sum = (l.take k).sum + x := by
  rw [take_succ1 l k x h, List.sum_append]; simp
theorem sum_bd : ∀ (l : List Int), bad l = false → -1099511627776 * (l.length : Int) ≤ l.sum ∧ l.sum ≤ 1099511627776 * (l.length : Int)
  | [], _ => by simp
  | x :: l, h => by
    have h' : amt x = true ∧ bad l = false := by
      unfold bad at h ⊢; rw [List.any_cons, Bool.or_eq_false_iff] at h; exact ⟨by simpa using h.1, h.2⟩
    have ih := sum_bd l h'.2
    have hx := amt_yes x h'.1
    rw [List.sum_cons, List.length_cons]
    omega
/-- whether one more is asked for: of whole den-ths q, and r beside them -/
def upB (q r d way : Int) : Bool := decide ((way = 2 ∧ 0 < r) ∨ (way = 3 ∧ d ≤ 2 * r) ∨ (way = 4 ∧ (d < 2 * r ∨ (2 * r = d ∧ q % 2 = 1))))
def rnd (n d way : Int) : Int := if upB (n / d) (n % d) d way = true then n / d + 1 else n / d
/-- the part without its checks -/
def raw (p num d way : Int) : Int := if p < 0 then -(rnd (-(p * num)) d way) else rnd (p * num) d way
/-- why there is no part: 0 where there is one -/
def partE (p num d way : Int) : Int :=
  if amt p = false then 3 else if way < 1 ∨ 4 < way then 7 else if num < 0 ∨ 100000 < num ∨ d < 1 ∨ 100000 < d then 3 else if amt (raw p num d way) = false then 8 else 0
def part (p num d way : Int) : Int := if partE p num d way = 0 then raw p num d way else 0
theorem div_facts (n d : Int) (hd : 0 < d) : n = n / d * d + n % d ∧ 0 ≤ n % d ∧ n % d < d := by
  have h1 := Int.mul_ediv_add_emod n d
  have h2 := Int.emod_nonneg n (show d ≠ 0 by omega)
  have h3 := Int.emod_lt_of_pos n hd
  rw [Int.mul_comm] at h1
  omega
theorem div_one (n d q r : Int) (hd : 0 < d) (h : n = q * d + r) (h0 : 0 ≤ r) (h1 : r < d) : n / d = q ∧ n % d = r := by
  subst h
  constructor
  · rw [Int.add_comm, Int.add_mul_ediv_right _ _ (by omega), Int.ediv_eq_zero_of_lt h0 h1]; omega
  · rw [Int.add_comm, Int.add_mul_emod_self_right, Int.emod_eq_of_lt h0 h1]
theorem rnd_of (n d way q r : Int) (hd : 0 < d) (h : n = q * d + r) (h0 : 0 ≤ r) (h1 : r < d) : rnd n d way = if upB q r d way = true then q + 1 else q := by
  obtain ⟨e1, e2⟩ := div_one n d q r hd h h0 h1
  unfold rnd; rw [e1, e2]
theorem rnd_ex (n d way : Int) (hd : 0 < d) (hn : 0 ≤ n) : ∃ q r : Int, n = q * d + r ∧ 0 ≤ r ∧ r < d ∧ 0 ≤ q ∧ q ≤ n ∧ rnd n d way = if upB q r d way = true then q + 1 else q := by
  obtain ⟨a, b, c⟩ := div_facts n d hd
  refine ⟨n / d, n % d, a, b, c, Int.ediv_nonneg hn (by omega), Int.ediv_le_self _ hn, rfl⟩
theorem mul_bd (p num : Int) (h1 : -1099511627776 ≤ p) (h2 : p ≤ 1099511627776) (h3 : 0 ≤ num) (h4 : num ≤ 100000) : -109951162777600000 ≤ p * num ∧ p * num ≤ 109951162777600000 := by
  have a := Int.mul_le_mul_of_nonneg_right h1 h3
  have b := Int.mul_le_mul_of_nonneg_right h2 h3
  omega
end Pen
end Go.Proofs.Ytdebhcdmbijanaa
