/- Plain mathematics of days of work: rules, holidays, days of rest; no program is named here. -/
import Derived.Test.YtehopfpcikbaiaaDoorCore
import Derived.Test.YtehopfpcikbaiaaDoorNums
namespace Go.Proofs.YtehopfpcikbaiaaDoor
namespace Wk
/-- days of rest: Monday first -/
structure Rst where
  b0 : Bool
  b1 : Bool
  b2 : Bool
  b3 : Bool
  b4 : Bool
  b5 : Bool
  b6 : Bool
def Rst.at (r : Rst) (k : Int) : Bool := if k = 0 then r.b0 else if k = 1 then r.b1 else if k = 2 then r.b2 else if k = 3 then r.b3 else if k = 4 then r.b4 else if k = 5 then r.b5 else r.b6
/-- is a day one of rest? -/
def Rst.rest (r : Rst) (n : Int) : Bool := r.at ((n - 1) % 7)
def Rst.all (r : Rst) : Bool := r.b0 && r.b1 && r.b2 && r.b3 && r.b4 && r.b5 && r.b6
theorem Rst.all_at (r : Rst) (h : r.all = false) : ∃ k : Int, 0 ≤ k ∧ k < 7 ∧ r.at k = false := by
  unfold Rst.all at h
  cases h0 : r.b0 with
  | false => exact ⟨0, by omega, by omega, by simp [Rst.at, h0]⟩
  | true =>
    cases h1 : r.b1 with
    | false => exact ⟨1, by omega, by omega, by simp [Rst.at, h1]⟩
    | true =>
      cases h2 : r.b2 with
      | false => exact ⟨2, by omega, by omega, by simp [Rst.at, h2]⟩
      | true =>
        cases h3 : r.b3 with
        | false => exact ⟨3, by omega, by omega, by simp [Rst.at, h3]⟩
        | true =>
          cases h4 : r.b4 with
          | false => exact ⟨4, by omega, by omega, by simp [Rst.at, h4]⟩
          | true =>
            cases h5 : r.b5 with
            | false => exact ⟨5, by omega, by omega, by simp [Rst.at, h5]⟩
            | true =>
              cases h6 : r.b6 with
              | false => exact ⟨6, by omega, by omega, by simp [Rst.at, h6]⟩
              | true => rw [h0, h1, h2, h3, h4, h5, h6] at h; cases h
/-- the first day from n on that is none of rest, at most k further -/
def pushF (R : Rst) : Nat → Int → Int
  | 0, n => n
  | k + 1, n => if R.rest n = true then pushF R k (n + 1) else n
def push (R : Rst) (n : Int) : Int := pushF R 7 n
theorem pushF_spec (R : Rst) : ∀ (k : Nat) (n : Int), n ≤ pushF R k n ∧ pushF R k n ≤ n + k ∧ (∀ m, n ≤ m → m < pushF R k n → R.rest m = true) ∧ ((∃ m, n ≤ m ∧ m < n + k ∧ R.rest m = false) → R.rest (pushF R k n) = false ∧ pushF R k n < n + k)
  | 0, n => ⟨Int.le_refl _, by simp [pushF], (fun m a b => by simp [pushF] at b; omega), fun ⟨m, a, b, _⟩ => by simp at b; omega⟩
  | k + 1, n => by
    obtain ⟨h1, h2, h3, h4⟩ := pushF_spec R k (n + 1)
    unfold pushF
    cases hr : R.rest n with
    | false =>
      rw [if_neg (by decide)]
      exact ⟨Int.le_refl _, by omega, (fun m a b => by omega), fun _ => ⟨hr, by omega⟩⟩
    | true =>
      rw [if_pos rfl]
      refine ⟨by omega, by omega, ?_, ?_⟩
      · intro m a b
        by_cases c : m = n
        · subst c; exact hr
        · exact h3 m (by omega) b
      · rintro ⟨m, a, b, c⟩
        have hne : m ≠ n := by rintro rfl; rw [hr] at c; cases c
        have := h4 ⟨m, by omega, by omega, c⟩
        exact ⟨this.1, by omega⟩
theorem push_spec (R : Rst) (h : R.all = false) (n : Int) : n ≤ push R n ∧ push R n ≤ n + 6 ∧ R.rest (push R n) = false ∧ ∀ m, n ≤ m → m < push R n → R.rest m = true := by
  obtain ⟨k, k0, k7, hk⟩ := R.all_at h
  obtain ⟨h1, h2, h3, h4⟩ := pushF_spec R 7 n
  have hm : ∃ m, n ≤ m ∧ m < n + (7 : Nat) ∧ R.rest m = false := by
    refine ⟨n + (k - (n - 1)) % 7, by omega, by omega, ?_⟩
    have e : (n + (k - (n - 1)) % 7 - 1) % 7 = k := by omega
    unfold Rst.rest; rw [e]; exact hk
  have h5 := h4 hm
  unfold push
  exact ⟨h1, by omega, h5.1, h3⟩
theorem push_unique (R : Rst) (h : R.all = false) (n x : Int) (h1 : n ≤ x) (h2 : R.rest x = false) (h3 : ∀ m, n ≤ m → m < x → R.rest m = true) : x = push R n := by
  obtain ⟨p1, _, p3, p4⟩ := push_spec R h n
  rcases Int.lt_trichotomy x (push R n) with c | c | c
  · have := p4 x h1 c; rw [h2] at this; cases this
  · exact c
  · have := h3 _ p1 c; rw [p3] at this; cases this
/-- a rule: kind, month, day, weekday -/
abbrev Rl := Int × Int × Int × Int
def fchk (m d wd : Int) : Int := if 1 ≤ m ∧ m ≤ 12 ∧ 1 ≤ d ∧ d ≤ Cal.mlen 2001 m then (if wd = 0 then 0 else 1) else 3
def nchk (m d wd : Int) : Int := if 1 ≤ m ∧ m ≤ 12 ∧ 1 ≤ d ∧ d ≤ 5 ∧ 1 ≤ wd ∧ wd ≤ 7 then 0 else 3
def mchk (m d wd : Int) : Int := if m = 0 ∧ wd = 0 then (if -100 ≤ d ∧ d ≤ 100 then 0 else 3) else 1
def rchk (r : Rl) : Int := if r.1 = 1 then fchk r.2.1 r.2.2.1 r.2.2.2 else if r.1 = 2 then nchk r.2.1 r.2.2.1 r.2.2.2 else if r.1 = 3 then mchk r.2.1 r.2.2.1 r.2.2.2 else 7
/-- the first rule that is not right -/
def lchk : List Rl → Int
  | [] => 0
  | r :: l => if rchk r = 0 then lchk l else rchk r
def cchk (R : Rst) (L : List Rl) : Int := if R.all = true then 1 else if 12 < L.length then 2 else lchk L
theorem lchk_zero : ∀ L : List Rl, lchk L = 0 ↔ ∀ r ∈ L, rchk r = 0
  | [] => by simp [lchk]
  | r :: l => by
    unfold lchk
    by_cases h : rchk r = 0
    · rw [if_pos h, lchk_zero l]
      constructor
      · intro a s hs
        rcases List.mem_cons.1 hs with rfl | hs
        · exact h
        · exact a s hs
      · intro a s hs; exact a s (List.mem_cons_of_mem _ hs)
    · rw [if_neg h]
      constructor
      · intro a; exact absurd a h
      · intro a; exact absurd (a r List.mem_cons_self) h
theorem lchk_succ (L : List Rl) (k : Nat) (r : Rl) (h : L[k]? = some r) : lchk (L.drop k) = if rchk r = 0 then lchk (L.drop (k + 1)) else rchk r := by
  have hk : k < L.length := by
    rcases Nat.lt_or_ge k L.length with c | c
    · exact c
    · rw [List.getElem?_eq_none c] at h; cases h
  rw [List.drop_eq_getElem_cons hk]
  rw [List.getElem?_eq_getElem hk] at h
  rw [Option.some.inj h]; rfl
theorem cchk_zero (R : Rst) (L : List Rl) : cchk R L = 0 ↔ R.all = false ∧ L.length ≤ 12 ∧ ∀ r ∈ L, rchk r = 0 := by
  unfold cchk
  cases hR : R.all with
  | true => simp
  | false =>
    by_cases h : 12 < L.length
    · rw [if_neg (by decide), if_pos h]
      exact ⟨(fun c => by cases c), (fun c => by have := c.2.1; omega)⟩
    · rw [if_neg (by decide), if_neg h, lchk_zero]
      exact ⟨fun c => ⟨rfl, by omega, c⟩, fun c => c.2.2⟩
/-- a rule that is right: of which kind, and what it says -/
theorem rchk_zero (r : Rl) (h : rchk r = 0) :
    (r.1 = 1 ∧ 1 ≤ r.2.1 ∧ r.2.1 ≤ 12 ∧ 1 ≤ r.2.2.1 ∧ r.2.2.1 ≤ Cal.mlen 2001 r.2.1 ∧ r.2.2.2 = 0) ∨
    (r.1 = 2 ∧ 1 ≤ r.2.1 ∧ r.2.1 ≤ 12 ∧ 1 ≤ r.2.2.1 ∧ r.2.2.1 ≤ 5 ∧ 1 ≤ r.2.2.2 ∧ r.2.2.2 ≤ 7) ∨
    (r.1 = 3 ∧ r.2.1 = 0 ∧ r.2.2.2 = 0 ∧ -100 ≤ r.2.2.1 ∧ r.2.2.1 ≤ 100) := by
  unfold rchk fchk nchk mchk at h
  by_cases h1 : r.1 = 1
  · rw [if_pos h1] at h
    by_cases h2 : 1 ≤ r.2.1 ∧ r.2.1 ≤ 12 ∧ 1 ≤ r.2.2.1 ∧ r.2.2.1 ≤ Cal.mlen 2001 r.2.1
    · rw [if_pos h2] at h
      by_cases h3 : r.2.2.2 = 0
      · exact .inl ⟨h1, h2.1, h2.2.1, h2.2.2.1, h2.2.2.2, h3⟩
      · rw [if_neg h3] at h; cases h
    · rw [if_neg h2] at h; cases h
  · rw [if_neg h1] at h
    by_cases h2 : r.1 = 2
    · rw [if_pos h2] at h
      by_cases h3 : 1 ≤ r.2.1 ∧ r.2.1 ≤ 12 ∧ 1 ≤ r.2.2.1 ∧ r.2.2.1 ≤ 5 ∧ 1 ≤ r.2.2.2 ∧ r.2.2.2 ≤ 7
      · exact .inr (.inl ⟨h2, h3⟩)
      · rw [if_neg h3] at h; cases h
    · rw [if_neg h2] at h
      by_cases h3 : r.1 = 3
      · rw [if_pos h3] at h
        by_cases h4 : r.2.1 = 0 ∧ r.2.2.2 = 0
        · rw [if_pos h4] at h
          by_cases h5 : -100 ≤ r.2.2.1 ∧ r.2.2.1 ≤ 100
          · exact .inr (.inr ⟨h3, h4.1, h4.2, h5.1, h5.2⟩)
          · rw [if_neg h5] at h; cases h
        · rw [if_neg h4] at h; cases h
      · rw [if_neg h3] at h; cases h
/-- a day of each year: no 29th of February -/
theorem mlen_each (y m d : Int) (h : d ≤ Cal.mlen 2001 m) : d ≤ Cal.mlen y m := by
  have e : Cal.lp 2001 = 0 := by decide
  have := Cal.lp_bd y
  unfold Cal.mlen at *
  by_cases c : m = 2
  · rw [if_pos c] at h ⊢; omega
  · rw [if_neg c] at h ⊢; exact h
/-- the so manyth weekday of a month, at most the last one -/
def nth0 (y m d w : Int) : Int := Cal.num y m 1 + (w - Cal.num y m 1 % 7 + 7) % 7 + (d - 1) * 7
def nth (y m d w : Int) : Int := if Cal.num y m 1 + Cal.mlen y m ≤ nth0 y m d w then nth0 y m d w - 7 else nth0 y m d w
end Wk
end Go.Proofs.YtehopfpcikbaiaaDoor
