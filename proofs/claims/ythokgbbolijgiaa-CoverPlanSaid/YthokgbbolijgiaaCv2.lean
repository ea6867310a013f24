/- Plain mathematics of what is bought: days and prices of a choice of offers; a plan's; no choice is cheaper. -/
import Derived.Test.YthokgbbolijgiaaCv
namespace Go.Proofs.Ythokgbbolijgiaa
namespace Cv
/-- the offer at a place -/
def of (l : List Off) (i : Int) : Off := l.getD i.toNat (0, 0)
def sumD (l : List Off) (xs : List Int) : Int := (xs.map fun i => (of l i).1).sum
def sumP (l : List Off) (xs : List Int) : Int := (xs.map fun i => (of l i).2).sum
theorem sumD_cons (l : List Off) (i : Int) (xs : List Int) : sumD l (i :: xs) = (of l i).1 + sumD l xs := by unfold sumD; rw [List.map_cons, List.sum_cons]
theorem sumP_cons (l : List Off) (i : Int) (xs : List Int) : sumP l (i :: xs) = (of l i).2 + sumP l xs := by unfold sumP; rw [List.map_cons, List.sum_cons]
/-- the places are some of the list's -/
def In (l : List Off) (xs : List Int) : Prop := ∀ i ∈ xs, 0 ≤ i ∧ i < l.length
theorem of_mem (l : List Off) (i : Int) (h : 0 ≤ i ∧ i < l.length) : of l i ∈ l := by
  have hlt : i.toNat < l.length := by omega
  unfold of
  rw [List.getD_eq_getElem?_getD, List.getElem?_eq_getElem hlt]
  exact List.getElem_mem hlt
theorem first_best (l : List Off) (ok : Ok l) (d : Nat) (hd : 0 < d) : (of l (first l d)).2 + best l (d - (of l (first l d)).1.toNat) = best l d := by
  have hlt := first_lt l ok d hd
  have h : isBest l d (l[first l d]) = true := List.findIdx_getElem (w := hlt)
  have e : of l (first l d) = l[first l d] := by
    unfold of; rw [List.getD_eq_getElem?_getD, Int.toNat_natCast, List.getElem?_eq_getElem hlt]; rfl
  rw [e]
  exact of_decide_eq_true h
theorem plan_cons (l : List Off) (n d : Nat) (hd : 0 < d) : plan l (n + 1) d = (first l d : Int) :: plan l n (d - (of l (first l d)).1.toNat) := by
  show (if d = 0 then [] else _) = _
  rw [if_neg (by omega)]; rfl
theorem plan_in (l : List Off) (ok : Ok l) : ∀ n d, In l (plan l n d)
  | 0, d => fun i hi => by cases hi
  | n + 1, d => by
    intro i hi
    by_cases h : d = 0
    · subst h; rw [plan_zero] at hi; cases hi
    · rw [plan_cons l n d (by omega)] at hi
      rcases List.mem_cons.1 hi with rfl | hi
      · have := first_lt l ok d (by omega); omega
      · exact plan_in l ok n _ i hi
theorem plan_sum (l : List Off) (ok : Ok l) : ∀ n d : Nat, d ≤ n → sumP l (plan l n d) = best l d ∧ (d : Int) ≤ sumD l (plan l n d)
  | 0, d, h => by
    obtain rfl : d = 0 := by omega
    exact ⟨rfl, Int.le_refl _⟩
  | n + 1, d, h => by
    by_cases h0 : d = 0
    · subst h0; rw [plan_zero]; exact ⟨rfl, Int.le_refl _⟩
    · have hb := first_best l ok d (by omega)
      have hm := ok.all _ (of_mem l (first l d) (by have := first_lt l ok d (by omega); omega))
      obtain ⟨h1, h2⟩ := plan_sum l ok n (d - (of l (first l d)).1.toNat) (by omega)
      rw [plan_cons l n d (by omega), sumP_cons, sumD_cons, h1]
      exact ⟨hb, by omega⟩
theorem plan_nil (l : List Off) (n d : Nat) (h : d ≤ n) (e : plan l n d = []) : d = 0 := by
  by_cases h0 : d = 0
  · exact h0
  · obtain ⟨m, rfl⟩ : ∃ m, n = m + 1 := ⟨n - 1, by omega⟩
    rw [plan_cons l m d (by omega)] at e
    cases e
theorem plan_less (l : List Off) (ok : Ok l) : ∀ n d : Nat, d ≤ n → 0 < d → sumD l (plan l n d).dropLast < d
  | 0, d, h, h0 => by omega
  | n + 1, d, h, h0 => by
    have hm := ok.all _ (of_mem l (first l d) (by have := first_lt l ok d (by omega); omega))
    rw [plan_cons l n d h0]
    by_cases hr : d - (of l (first l d)).1.toNat = 0
    · rw [hr, plan_zero]
      show (0 : Int) < d
      omega
    · have ih := plan_less l ok n (d - (of l (first l d)).1.toNat) (by omega) (by omega)
      have hne : plan l n (d - (of l (first l d)).1.toNat) ≠ [] := fun e => hr (plan_nil l n _ (by omega) e)
      rw [List.dropLast_cons_of_ne_nil hne, sumD_cons]
      omega
theorem plan_len (l : List Off) (ok : Ok l) : ∀ n d : Nat, (plan l n d).length ≤ n
  | 0, d => Nat.le_refl _
  | n + 1, d => by
    by_cases h0 : d = 0
    · subst h0; rw [plan_zero]; exact Nat.zero_le _
    · rw [plan_cons l n d (by omega), List.length_cons]
      have := plan_len l ok n (d - (of l (first l d)).1.toNat)
      omega

/-- how often the offer at a place of the choice is bought -/
def num (often : List Int) (i : Nat) : Int := if i < often.length then often.getD i 0 else 1
def buyD (l : List Off) (at' often : List Int) : Nat → Int
  | 0 => 0
  | i + 1 => buyD l at' often i + num often i * (of l (at'.getD i 0)).1
def buyP (l : List Off) (at' often : List Int) : Nat → Int
  | 0 => 0
  | i + 1 => buyP l at' often i + num often i * (of l (at'.getD i 0)).2
/-- may the choice's place i be? -/
def may (l : List Off) (at' often : List Int) (i : Nat) : Prop := 0 ≤ at'.getD i 0 ∧ at'.getD i 0 < l.length ∧ 0 ≤ num often i ∧ num often i ≤ 1000
theorem may_mem {l : List Off} {at' often : List Int} {i : Nat} (h : may l at' often i) : of l (at'.getD i 0) ∈ l := of_mem l _ ⟨h.1, h.2.1⟩
theorem mul_bd (n x m : Int) (h0 : 0 ≤ n) (h1 : n ≤ 1000) (x0 : 0 ≤ x) (x1 : x ≤ m) : 0 ≤ n * x ∧ n * x ≤ 1000 * m := by
  refine ⟨Int.mul_nonneg h0 x0, ?_⟩
  have h2 : n * x ≤ n * m := Int.mul_le_mul_of_nonneg_left x1 h0
  have h3 : n * m ≤ 1000 * m := Int.mul_le_mul_of_nonneg_right h1 (Int.le_trans x0 x1)
  omega
theorem buy_bd (l : List Off) (ok : Ok l) (at' often : List Int) : ∀ i : Nat, (∀ j, j < i → may l at' often j) → 0 ≤ buyD l at' often i ∧ buyD l at' often i ≤ i * 400000 ∧ 0 ≤ buyP l at' often i ∧ buyP l at' often i ≤ i * 1000000000
  | 0, _ => by
    unfold buyD buyP
    omega
  | i + 1, h => by
    have ih := buy_bd l ok at' often i (fun j hj => h j (by omega))
    have hi := h i (by omega)
    have ho := ok.all _ (may_mem hi)
    have m1 := mul_bd _ (of l (at'.getD i 0)).1 400 hi.2.2.1 hi.2.2.2 (by omega) ho.2.1
    have m2 := mul_bd _ (of l (at'.getD i 0)).2 1000000 hi.2.2.1 hi.2.2.2 ho.2.2.1 ho.2.2.2
    unfold buyD buyP
    omega
theorem buy_least (l : List Off) (ok : Ok l) (at' often : List Int) (d : Nat) : ∀ i : Nat, (∀ j, j < i → may l at' often j) → best l d ≤ buyP l at' often i + best l (d - (buyD l at' often i).toNat)
  | 0, _ => by
    unfold buyP buyD
    simp
  | i + 1, h => by
    have ih := buy_least l ok at' often d i (fun j hj => h j (by omega))
    have bd := buy_bd l ok at' often i (fun j hj => h j (by omega))
    have hi := h i (by omega)
    have hmem := may_mem hi
    have ho := ok.all _ hmem
    unfold buyD buyP
    generalize of l (at'.getD i 0) = o at *
    obtain ⟨n, hn⟩ := Int.eq_ofNat_of_zero_le hi.2.2.1
    rw [hn]
    have h2 := best_many l ok o hmem (d - (buyD l at' often i).toNat) n
    have e : d - (buyD l at' often i).toNat - n * o.1.toNat = d - (buyD l at' often i + (n : Int) * o.1).toNat := by
      have e1 : ((n * o.1.toNat : Nat) : Int) = (n : Int) * o.1 := by rw [Int.natCast_mul, Int.toNat_of_nonneg (by omega)]
      omega
    rw [e] at h2
    omega
/-- NO CHOICE THAT COVERS AS MANY DAYS IS CHEAPER. -/
theorem buy_cheap (l : List Off) (ok : Ok l) (at' often : List Int) (d : Nat) (i : Nat) (h : ∀ j, j < i → may l at' often j) (hd : (d : Int) ≤ buyD l at' often i) : best l d ≤ buyP l at' often i := by
  have := buy_least l ok at' often d i h
  have e : d - (buyD l at' often i).toNat = 0 := by omega
  rw [e, best_zero] at this
  omega
theorem buy_once (l : List Off) (xs : List Int) : ∀ i : Nat, i ≤ xs.length → buyD l xs [] i = sumD l (xs.take i) ∧ buyP l xs [] i = sumP l (xs.take i)
  | 0, _ => ⟨rfl, rfl⟩
  | i + 1, h => by
    obtain ⟨h1, h2⟩ := buy_once l xs i (by omega)
    have e : xs[i]? = some (xs.getD i 0) := by rw [List.getD_eq_getElem?_getD, List.getElem?_eq_getElem (by omega)]; rfl
    have t : xs.take (i + 1) = xs.take i ++ [xs.getD i 0] := by rw [List.take_add_one, e]; rfl
    unfold buyD buyP sumD sumP
    rw [h1, h2, t, List.map_append, List.map_append, List.sum_append, List.sum_append]
    unfold sumD sumP num
    rw [if_neg (by simp)]
    simp
theorem once_may (l : List Off) (xs : List Int) (h : In l xs) (i : Nat) (hi : i < xs.length) : may l xs [] i := by
  have e : xs.getD i 0 ∈ xs := by rw [List.getD_eq_getElem?_getD, List.getElem?_eq_getElem hi]; exact List.getElem_mem hi
  have := h _ e
  unfold may num
  rw [if_neg (by simp)]
  exact ⟨this.1, this.2, by decide, by decide⟩
end Cv
end Go.Proofs.Ythokgbbolijgiaa
