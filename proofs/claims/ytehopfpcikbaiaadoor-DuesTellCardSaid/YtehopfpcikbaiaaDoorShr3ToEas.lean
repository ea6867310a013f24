/- Plain mathematics of what is shared out one by one (Jefferson). No program is named here. Plain mathematics of Easter: the rule of the document and that of the golden number and the epact come to one day, a Sunday, held for each year by the kernel. -/
import Derived.Test.YtehopfpcikbaiaaDoorShr2
import Derived.Test.YtehopfpcikbaiaaDoorCal
namespace Go.Proofs.YtehopfpcikbaiaaDoor
namespace Shr
/-- whose turn it is, among the first k -/
def jn (W O : Nat → Int) : Nat → Nat
  | 0 => 0
  | k + 1 => if W (jn W O k) * (O k + 1) < W k * (O (jn W O k) + 1) then k else jn W O k
theorem jn_zero (W O : Nat → Int) : jn W O 0 = 0 := rfl
theorem jn_succ (W O : Nat → Int) (k : Nat) : jn W O (k + 1) = if W (jn W O k) * (O k + 1) < W k * (O (jn W O k) + 1) then k else jn W O k := rfl
theorem jn_one (W O : Nat → Int) : jn W O 1 = 0 := by rw [jn_succ, jn_zero, if_neg (by omega)]
theorem jn_yes (W O : Nat → Int) (k : Nat) (h : W (jn W O k) * (O k + 1) < W k * (O (jn W O k) + 1)) : jn W O (k + 1) = k := by rw [jn_succ, if_pos h]
theorem jn_not (W O : Nat → Int) (k : Nat) (h : ¬ W (jn W O k) * (O k + 1) < W k * (O (jn W O k) + 1)) : jn W O (k + 1) = jn W O k := by rw [jn_succ, if_neg h]
theorem jn_lt (W O : Nat → Int) (k : Nat) : jn W O k ≤ k - 1 := by
  induction k with
  | zero => exact Nat.le_refl _
  | succ k ih => rw [jn_succ]; split <;> omega
theorem jn_bd (W O : Nat → Int) (k : Nat) (h : 0 < k) : jn W O k < k := by have := jn_lt W O k; omega
theorem jn_congr (W O O' : Nat → Int) (k : Nat) (h : ∀ i, i < k → O i = O' i) : jn W O k = jn W O' k := by
  induction k with
  | zero => rfl
  | succ k ih =>
    have e := ih (fun i hi => h i (by omega))
    rw [jn_succ, jn_succ, e, h k (by omega)]
    by_cases c : k = 0
    · subst c; rw [jn_zero, h 0 (by omega)]
    · rw [h (jn W O' k) (by have := jn_bd W O' k (by omega); omega)]
/-- it is nobody's turn more -/
theorem jn_max (W O : Nat → Int) (hO : ∀ i, 0 ≤ O i) (n : Nat) : ∀ k, k < n → W k * (O (jn W O n) + 1) ≤ W (jn W O n) * (O k + 1) := by
  induction n with
  | zero => intro k h; omega
  | succ n ih =>
    intro k hk
    by_cases c : W (jn W O n) * (O n + 1) < W n * (O (jn W O n) + 1)
    · rw [jn_yes W O n c]
      by_cases e : k = n
      · subst e; exact Int.le_refl _
      · have h1 := ih k (by omega)
        generalize jn W O n = b at *
        -- W k (Ob+1) ≤ W b (Ok+1); W b (On+1) < W n (Ob+1)
        have p1 : 0 < O b + 1 := by have := hO b; omega
        have p2 : 0 ≤ O n + 1 := by have := hO n; omega
        have p3 : 0 ≤ O k + 1 := by have := hO k; omega
        refine Int.le_of_mul_le_mul_right ?_ p1
        have a1 : W k * (O b + 1) * (O n + 1) ≤ W b * (O k + 1) * (O n + 1) := Int.mul_le_mul_of_nonneg_right h1 p2
        have a2 : W b * (O n + 1) * (O k + 1) ≤ W n * (O b + 1) * (O k + 1) := Int.mul_le_mul_of_nonneg_right (by omega) p3
        have e1 : W k * (O n + 1) * (O b + 1) = W k * (O b + 1) * (O n + 1) := by rw [Int.mul_assoc, Int.mul_comm (O n + 1), ← Int.mul_assoc]
        have e2 : W b * (O k + 1) * (O n + 1) = W b * (O n + 1) * (O k + 1) := by rw [Int.mul_assoc, Int.mul_comm (O k + 1), ← Int.mul_assoc]
        have e3 : W n * (O k + 1) * (O b + 1) = W n * (O b + 1) * (O k + 1) := by rw [Int.mul_assoc, Int.mul_comm (O k + 1), ← Int.mul_assoc]
        omega
    · rw [jn_not W O n c]
      by_cases e : k = n
      · subst e; omega
      · exact ih k (by omega)
def inc (O : Nat → Int) (b : Nat) : Nat → Int := fun i => if i = b then O i + 1 else O i
theorem inc_same (O : Nat → Int) (b : Nat) : inc O b b = O b + 1 := if_pos rfl
theorem inc_other (O : Nat → Int) (b i : Nat) (h : i ≠ b) : inc O b i = O i := if_neg h
theorem inc_ge (O : Nat → Int) (b i : Nat) : O i ≤ inc O b i ∧ inc O b i ≤ O i + 1 := by unfold inc; split <;> omega
theorem sm_inc (n : Nat) (O : Nat → Int) (b : Nat) (h : b < n) : sm n (inc O b) = sm n O + 1 := by
  induction n with
  | zero => omega
  | succ n ih =>
    rw [sm_succ, sm_succ]
    by_cases e : b = n
    · subst e
      rw [inc_same, sm_congr b (inc O b) O (fun i hi => inc_other O b i (by omega))]
      omega
    · rw [ih (by omega), inc_other O b n (fun e' => e e'.symm)]
      omega
def jef (W : Nat → Int) (n : Nat) : Nat → Nat → Int
  | 0 => fun _ => 0
  | t + 1 => inc (jef W n t) (jn W (jef W n t) n)
theorem jef_zero (W : Nat → Int) (n : Nat) (i : Nat) : jef W n 0 i = 0 := rfl
theorem jef_succ (W : Nat → Int) (n t : Nat) : jef W n (t + 1) = inc (jef W n t) (jn W (jef W n t) n) := rfl
theorem jef_bd (W : Nat → Int) (n t : Nat) (i : Nat) : 0 ≤ jef W n t i ∧ jef W n t i ≤ t := by
  induction t with
  | zero => rw [jef_zero]; exact ⟨Int.le_refl _, Int.le_refl _⟩
  | succ t ih =>
    rw [jef_succ]
    have := inc_ge (jef W n t) (jn W (jef W n t) n) i
    omega
theorem jef_sum (W : Nat → Int) (n t : Nat) (hn : 0 < n) : sm n (jef W n t) = t := by
  induction t with
  | zero =>
    rw [sm_congr n (jef W n 0) (fun _ => 0) (fun i _ => rfl), sm_const]; simp
  | succ t ih => rw [jef_succ, sm_inc n _ _ (jn_bd W _ n hn), ih]; omega
/-- nobody would change places -/
theorem jef_best (W : Nat → Int) (n : Nat) (hW : ∀ i, 0 ≤ W i) (t : Nat) : ∀ i k, i < n → k < n → 0 < jef W n t i → W k * jef W n t i ≤ W i * (jef W n t k + 1) := by
  induction t with
  | zero => intro i k _ _ h; rw [jef_zero] at h; omega
  | succ t ih =>
    intro i k hi hk h
    have hb := jef_bd W n t
    have hm := jn_max W (jef W n t) (fun i => (hb i).1) n
    rw [jef_succ] at h ⊢
    generalize jn W (jef W n t) n = b at *
    have hg := inc_ge (jef W n t) b k
    have m1 : W i * (jef W n t k + 1) ≤ W i * (inc (jef W n t) b k + 1) := Int.mul_le_mul_of_nonneg_left (by omega) (hW i)
    by_cases e : i = b
    · subst e
      rw [inc_same]
      have := hm k hk
      omega
    · rw [inc_other _ _ _ e] at h ⊢
      have := ih i k hi hk h
      omega
/-- no one has less than its quota, downward -/
theorem jef_quota (W : Nat → Int) (n : Nat) (hW : ∀ i, 0 ≤ W i) (t : Nat) (i : Nat) (hi : i < n) (hS : 0 < sm n W) : t * W i < (jef W n t i + 1) * sm n W := by
  have hb := jef_bd W n t
  have hn : 0 < n := by omega
  have hle : ∀ k, k < n → W i * jef W n t k ≤ (jef W n t i + 1) * W k := fun k hk => by
    by_cases c : 0 < jef W n t k
    · have := jef_best W n hW t k i hk hi c
      rw [Int.mul_comm (W k)] at this
      exact this
    · have : jef W n t k = 0 := by have := (hb k).1; omega
      rw [this, Int.mul_zero]
      exact Int.mul_nonneg (by have := (hb i).1; omega) (hW k)
  by_cases c : W i = 0
  · rw [c, Int.mul_zero]
    exact Int.mul_pos (by have := (hb i).1; omega) hS
  · have hpos : 0 < W i := by have := hW i; omega
    have strict : sm n (fun k => W i * jef W n t k) < sm n (fun k => (jef W n t i + 1) * W k) := by
      have key : ∀ m, m ≤ n → sm m (fun k => W i * jef W n t k) + (if i < m then 1 else 0) ≤ sm m (fun k => (jef W n t i + 1) * W k) := by
        intro m
        induction m with
        | zero => intro _; rw [sm_zero, sm_zero]; simp
        | succ m ih =>
          intro hm
          rw [sm_succ, sm_succ]
          have h1 := ih (by omega)
          have h2 := hle m (by omega)
          by_cases e : i = m
          · subst e
            rw [if_neg (by omega)] at h1
            rw [if_pos (by omega)]
            have e2 : (jef W n t i + 1) * W i = W i * jef W n t i + W i := by rw [Int.add_mul, Int.one_mul, Int.mul_comm]
            omega
          · by_cases e3 : i < m
            · rw [if_pos e3] at h1
              rw [if_pos (by omega)]; omega
            · rw [if_neg e3] at h1
              rw [if_neg (by omega)]; omega
      have := key n (Nat.le_refl _)
      rw [if_pos hi] at this
      omega
    rw [sm_mul, sm_mul, jef_sum W n t hn] at strict
    rw [Int.mul_comm (t : Int)]
    exact strict
def jeff (T : Int) (l : List Int) : List Int := if code T l = 0 then (List.range l.length).map (jef (at' l) l.length T.toNat) else []
end Shr
end Go.Proofs.YtehopfpcikbaiaaDoor
namespace Go.Proofs.YtehopfpcikbaiaaDoor
namespace Cal
def eh (y : Int) : Int := (19 * (y % 19) + y / 100 - y / 100 / 4 - (y / 100 - (y / 100 + 8) / 25 + 1) / 3 + 15) % 30
def el (y : Int) : Int := (32 + 2 * (y / 100 % 4) + 2 * (y % 100 / 4) - eh y - y % 100 % 4) % 7
def place (y : Int) : Int := eh y + el y - 7 * ((y % 19 + 11 * eh y + 22 * el y) / 451) + 114
def easter (y : Int) : Int := num y (place y / 31) (place y % 31 + 1)
def epact0 (y : Int) : Int := (11 * (y % 19 + 1) + 20 + ((8 * (y / 100 + 1) + 5) / 25 - 5) - (3 * (y / 100 + 1) / 4 - 12)).tmod 30
def epact1 (y : Int) : Int := if epact0 y < 0 then epact0 y + 30 else epact0 y
def epact2 (y : Int) : Int := if (epact1 y = 25 ∧ 11 < y % 19 + 1) ∨ epact1 y = 24 then epact1 y + 1 else epact1 y
def full (y : Int) : Int := if 44 - epact2 y < 21 then 44 - epact2 y + 30 else 44 - epact2 y
def march (y : Int) : Int := num y 3 1 + full y - 1
def gap (y : Int) : Int := easter (y + 1) - easter y
def goodE (y : Int) : Prop := vld y (place y / 31) (place y % 31 + 1) ∧ wday (easter y) = 7 ∧ num y 3 22 ≤ easter y ∧ easter y ≤ num y 4 25 ∧ easter y = 7 * (march y / 7 + 1) ∧ 0 < full y ∧ full y < 60
/-- the same as a test, with what is reckoned once handed on -/
def testE (y p e m f : Int) : Bool := decide (1 ≤ p / 31) && decide (p / 31 ≤ 12) && decide (p % 31 + 1 ≤ mlen y (p / 31)) && decide (0 ≤ p % 31) && decide (wday e = 7) && decide (num y 3 22 ≤ e) && decide (e ≤ num y 4 25) && decide (e = 7 * (m / 7 + 1)) && decide (0 < f) && decide (f < 60)
theorem goodE_of_test (y : Int) (h1 : 1 ≤ y) (h2 : y ≤ 9999) (h : testE y (place y) (easter y) (march y) (full y) = true) : goodE y := by
  unfold testE at h
  simp only [Bool.and_eq_true, decide_eq_true_eq] at h
  obtain ⟨⟨⟨⟨⟨⟨⟨⟨⟨a, b⟩, c⟩, d⟩, e⟩, f⟩, g⟩, i⟩, j⟩, k⟩ := h
  exact ⟨⟨h1, h2, a, b, by omega, c⟩, e, f, g, i, j, k⟩
def goodG (y : Int) : Prop := gap y = 350 ∨ gap y = 357 ∨ gap y = 378 ∨ gap y = 385
set_option maxRecDepth 100000 in
theorem goodE_all : ∀ a : Nat, a < 93 → ∀ b : Nat, b < 91 → 1583 + 91 * a + b ≤ 9999 → testE (1583 + 91 * a + b) (place (1583 + 91 * a + b)) (easter (1583 + 91 * a + b)) (march (1583 + 91 * a + b)) (full (1583 + 91 * a + b)) = true := by
  decide +kernel
set_option maxRecDepth 100000 in
theorem goodG_all : ∀ a : Nat, a < 93 → ∀ b : Nat, b < 91 → 1583 + 91 * a + b < 9999 → goodG (1583 + 91 * a + b) := by
  unfold goodG; decide +kernel
theorem split_year (y : Int) (h1 : 1583 ≤ y) (h2 : y ≤ 9999) : ∃ a b : Nat, a < 93 ∧ b < 91 ∧ 1583 + 91 * a + b ≤ 9999 ∧ y = 1583 + 91 * a + b := by
  refine ⟨((y - 1583) / 91).toNat, ((y - 1583) % 91).toNat, ?_, ?_, ?_, ?_⟩ <;> omega
theorem goodE_of (y : Int) (h1 : 1583 ≤ y) (h2 : y ≤ 9999) : goodE y := by
  obtain ⟨a, b, ha, hb, hc, rfl⟩ := split_year y h1 h2
  exact goodE_of_test _ (by omega) (by omega) (goodE_all a ha b hb hc)
theorem goodG_of (y : Int) (h1 : 1583 ≤ y) (h2 : y < 9999) : goodG y := by
  obtain ⟨a, b, ha, hb, _, rfl⟩ := split_year y h1 (by omega)
  exact goodG_all a ha b hb (by omega)
end Cal
end Go.Proofs.YtehopfpcikbaiaaDoor
