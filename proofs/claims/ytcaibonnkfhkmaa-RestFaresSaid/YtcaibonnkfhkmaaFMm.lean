/- Mended fares as they are made, range by range. -/
import Derived.Test.YtcaibonnkfhkmaaFIt
namespace Go.Proofs.Ytcaibonnkfhkmaa
open Go.RowKit

namespace Fr
def mup (P : Pr) (n : Nat) (M : Pr) (q : Nat × Nat) : Pr := fun x y => if x = q.1 ∧ y = q.2 then min (la P (rg n) q.1 q.2) (lt M q.1 q.2 (q.2 - q.1)) else M x y
def mst (P : Pr) (n : Nat) (l : List (Nat × Nat)) : Pr := l.foldl (mup P n) (fun _ _ => 0)
theorem mst_snoc (P : Pr) (n : Nat) (l : List (Nat × Nat)) (q : Nat × Nat) : mst P n (l ++ [q]) = mup P n (mst P n l) q := by unfold mst; rw [List.foldl_append]; rfl
theorem lt_pos {P : Pr} {n : Nat} (hP : Ok P n) {a b k : Nat} (hk : a + k ≤ b) (hb : b < n) : 0 ≤ lt P a b k := by
  rcases lt_is P a b k with h | ⟨i, hi, h⟩
  · omega
  · rw [h]
    have := hP a (a + i) (by omega) (by omega)
    have := hP (a + i + 1) b (by omega) (by omega)
    omega
theorem mup_ok {P M : Pr} {n : Nat} (hP : Ok P n) (hM : Ok M n) {q : Nat × Nat} (h1 : q.1 ≤ q.2) (h2 : q.2 < n) : Ok (mup P n M q) n := by
  intro x y hxy hy
  unfold mup
  split
  · obtain ⟨a, b, _, _, hb, e⟩ := la_is P n q.1 q.2 h2
    have hl := lt_pos hM (a := q.1) (b := q.2) (k := q.2 - q.1) (by omega) h2
    have := la_le P n q.1 q.2
    have h0 := hP q.1 q.2 h1 h2
    have : 0 ≤ la P (rg n) q.1 q.2 := by
      rcases la_is P n q.1 q.2 h2 with ⟨a, b, ha, hb, hbn, e⟩
      rw [e]
      exact (hP a b (by omega) hbn).1
    omega
  · exact hM x y hxy hy
theorem mst_ok {P : Pr} {n : Nat} (hP : Ok P n) : ∀ (l : List (Nat × Nat)) (M : Pr), Ok M n → (∀ q ∈ l, q.1 ≤ q.2 ∧ q.2 < n) → Ok (l.foldl (mup P n) M) n
  | [], _, h, _ => h
  | q :: l, M, h, hl => mst_ok hP l _ (mup_ok hP h (hl q (by simp)).1 (hl q (by simp)).2) (fun x hx => hl x (List.mem_cons_of_mem _ hx))
theorem mst_ok0 {P : Pr} {n : Nat} (hP : Ok P n) (l : List (Nat × Nat)) (hl : ∀ q ∈ l, q.1 ≤ q.2 ∧ q.2 < n) : Ok (mst P n l) n :=
  mst_ok hP l _ (fun _ _ _ _ => ⟨by decide, by decide⟩) hl
theorem mst_row {P : Pr} {n m : Nat} (hP : Ok P n) (hm : m < n) (l : List (Nat × Nat)) (h0 : ∀ x y, x ≤ y → y < n → y - x < m → mst P n l x y = cv P n x y) :
    ∀ j, j ≤ n - m → ∀ x y, x ≤ y → y < n → (y - x < m ∨ y - x = m ∧ x < j) → mst P n (l ++ rowp m j) x y = cv P n x y
  | 0, _, x, y, h1, h2, h3 => by rw [rowp_zero, List.append_nil]; exact h0 x y h1 h2 (by omega)
  | j + 1, hj, x, y, h1, h2, h3 => by
    have ih := mst_row hP hm l h0 j (by omega)
    rw [rowp_succ, ← List.append_assoc, mst_snoc]
    unfold mup
    split
    · rename_i c
      obtain ⟨rfl, rfl⟩ := c
      simp only
      rw [show x + m - x = m by omega]
      have hl : lt (mst P n (l ++ rowp m x)) x (x + m) m = lt (cv P n) x (x + m) (x + m - x) := by
        rw [show x + m - x = m by omega]
        exact lt_congr _ _ _ _ _ fun i hi => ⟨ih _ _ (by omega) (by omega) (by omega), ih _ _ (by omega) (by omega) (by omega)⟩
      rw [hl]
      exact cv_step hP h1 h2
    · rename_i c
      simp only at c
      exact ih x y h1 h2 (by omega)
theorem mst_rgp {P : Pr} {n : Nat} (hP : Ok P n) : ∀ m, m ≤ n → ∀ x y, x ≤ y → y < n → y - x < m → mst P n (rgp n m) x y = cv P n x y
  | 0, _, _, _, _, _, h => by omega
  | m + 1, hm, x, y, h1, h2, h3 => by
    rw [rgp_succ]
    exact mst_row hP (by omega) _ (mst_rgp hP m (by omega)) (n - m) (Nat.le_refl _) x y h1 h2 (by omega)
theorem mst_rg {P : Pr} {n : Nat} (hP : Ok P n) (x y : Nat) (h1 : x ≤ y) (h2 : y < n) : mst P n (rg n) x y = cv P n x y := by
  rw [← rgp_all]
  exact mst_rgp hP n (Nat.le_refl _) x y h1 h2 (by omega)
theorem rg_cl' (n : Nat) : (rg n).map (cl n) = rg n := by
  conv => rhs; rw [← List.map_id (rg n)]
  apply List.map_congr_left
  rintro ⟨x, y⟩ h
  exact cl_id ((mem_rg n x y).1 h)
/-- over ranges that are ones -/
def mstc (P : Pr) (n : Nat) (l : List (Nat × Nat)) : Pr := mst P n (l.map (cl n))
theorem mstc_snoc (P : Pr) (n : Nat) (l : List (Nat × Nat)) (q : Nat × Nat) : mstc P n (l ++ [q]) = mup P n (mstc P n l) (cl n q) := by unfold mstc; rw [List.map_append]; exact mst_snoc _ _ _ _
theorem mstc_ok {P : Pr} {n : Nat} (hP : Ok P n) (hn : 1 ≤ n) (l : List (Nat × Nat)) : Ok (mstc P n l) n := mst_ok0 hP _ fun q hq => by
  obtain ⟨x, _, rfl⟩ := List.mem_map.1 hq
  exact cl_ok hn x
theorem mstc_rg {P : Pr} {n : Nat} (hP : Ok P n) (x y : Nat) (h1 : x ≤ y) (h2 : y < n) : mstc P n (rg n) x y = cv P n x y := by unfold mstc; rw [rg_cl']; exact mst_rg hP x y h1 h2
end Fr
end Go.Proofs.Ytcaibonnkfhkmaa
