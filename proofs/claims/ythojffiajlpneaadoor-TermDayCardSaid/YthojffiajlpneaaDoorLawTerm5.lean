/- The walk of TermFinds: it answers true, whatever it is handed. -/
import Derived.Test.YthojffiajlpneaaDoorTLaw
namespace Go.Proofs.YthojffiajlpneaaDoor
open Go.RowKit Go.BigFrame

namespace Trm
theorem nth_err (s u n k x c : Int) (h : NthIs s u n k x c) (hc : c ≠ 0) : x = 0 := by
  rcases h with ⟨_, _, h⟩ | ⟨_, _, _, _, _, _, _, _, _, _, _, _, h⟩
  · exact h
  · unfold over at h
    split at h
    · assumption
    · exact absurd h.symm hc
theorem find_err (s u n N x c : Int) (h : FindIs s u n N x c) (hc : c ≠ 0) : x = 0 := by
  rcases h with ⟨_, _, h⟩ | ⟨_, _, _, _, _, _, _, _, _, _, _, _, _, _, _, h⟩
  · exact h
  · rcases h with ⟨_, _, h⟩ | ⟨_, h, _⟩
    · exact absurd h hc
    · exact h
/-- what was found: a term that begins no later, the next one later; and so for each other one -/
theorem finds (s u n N k : Int) (h : FindIs s u n N k 0) : 0 ≤ k ∧ k ≤ 1000 ∧ (∃ a, NthIs s u n k a 0 ∧ a ≤ N) ∧ (∀ b g, NthIs s u n (k + 1) b g → g = 0 → N < b) ∧ (∀ j x, NthIs s u n j x 0 → (x ≤ N ↔ j ≤ k)) := by
  rcases h with ⟨_, g, _⟩ | ⟨y, m, d, K, h1, h2, h3, h4, h5, h6, h7, h8, h9, h10, h11, h12⟩
  · exact absurd rfl g
  rcases h12 with ⟨k1, rfl, _⟩ | ⟨_, _, g⟩
  rotate_left
  · exact absurd g (by decide)
  have hin := fun j hj => day_in y m d u n j h1 hj h5
  have s0 := Cal.num_in y m d h1
  -- a day of a valid start is told by its own date
  have back : ∀ j x, NthIs s u n j x 0 → 0 ≤ j ∧ j ≤ 1000 ∧ day y m d u n j = x ∧ x ≠ 0 := by
    intro j x hj
    rcases hj with ⟨_, g, _⟩ | ⟨y', m', d', a1, a2, a3, a4, a5, a6, a7, a8, a9, a10⟩
    · exact absurd rfl g
    · obtain ⟨rfl, rfl, rfl⟩ := Cal.num_inj _ _ _ _ _ _ h1 a1 (by omega)
      refine ⟨a7, a8, a9, ?_⟩
      intro e; rw [e] at a10; exact absurd a10 (by decide)
  have low : ∀ j : Int, 0 ≤ j → j ≤ K → day y m d u n j ≠ 0 ∧ day y m d u n j ≤ N := by
    intro j hj hjK
    by_cases hK0 : K = 0
    · have : j = 0 := by omega
      rw [this, day_zero y m d u n h1]; omega
    · have e := h10 (K - 1) (by omega)
      unfold ends at e
      rw [decide_eq_false_iff_not, show (((K - 1 : Nat) : Int) + 1) = (K : Int) by omega] at e
      have hne : day y m d u n K ≠ 0 := fun c => e (.inl c)
      have := day_mono y m d y m d u n j K h1 h1 h5 hj hjK (Int.le_refl _) hne
      refine ⟨this.1, ?_⟩
      have : ¬ N < day y m d u n K := fun c => e (.inr c)
      omega
  have high : ∀ j : Int, (K : Int) < j → day y m d u n j = 0 ∨ N < day y m d u n j := by
    intro j hj
    have e := h11 K (Nat.le_refl _) (by omega)
    unfold ends at e
    rw [decide_eq_true_eq] at e
    by_cases c : day y m d u n j = 0
    · exact .inl c
    · have := day_mono y m d y m d u n (K + 1) j h1 h1 h5 (by omega) (by omega) (Int.le_refl _) c
      rcases e with e | e
      · exact absurd e this.1
      · exact .inr (by omega)
  refine ⟨by omega, by omega, ⟨_, .inr ⟨y, m, d, h1, h2, h3, h4, h5, h6, by omega, by omega, rfl, ?_⟩, (low K (by omega) (Int.le_refl _)).2⟩, ?_, ?_⟩
  · unfold over; rw [if_neg (low K (by omega) (Int.le_refl _)).1]
  · intro b g hb hg
    subst hg
    obtain ⟨b1, b2, b3, b4⟩ := back _ _ hb
    rcases high (K + 1) (by omega) with c | c
    · omega
    · omega
  · intro j x hj
    obtain ⟨b1, b2, b3, b4⟩ := back _ _ hj
    constructor
    · intro hx
      by_cases c : j ≤ K
      · exact c
      · rcases high j (by omega) with c2 | c2 <;> omega
    · intro hx
      have := (low j b1 hx).2
      omega
end Trm
set_option maxHeartbeats 1000000 in
theorem termFinds_any (s u n N j : Int) (w : World) (hw : Laid w) :
    Calls Tryd.prog 7 #[.int .i64 s, .agg #[.int .i64 u, .int .i64 n], .int .i64 N, .int .i64 j] w fun e w' => e = .returned (.bool true) ∧ Below w.heap.size w w' := by
  obtain ⟨k, c, h1⟩ := Trm.find_is_ex s u n N
  have H1 : Hid (Trm.FindIs s u n N k c) := h1
  have T0 : Hid (_) := TL.new (u := u) (n := n) hw
  by_cases hc : c = 0
  · subst hc
    obtain ⟨k1, k2, ⟨a, ha, haN⟩, hb, hj⟩ := Trm.finds s u n N k h1
    obtain ⟨b, g, h3⟩ := Trm.nth_ex s u n (k + 1)
    obtain ⟨x, h, h4⟩ := Trm.nth_ex s u n j
    have H2 : Hid (Trm.NthIs s u n k a 0) := ha
    have H3 : Hid (Trm.NthIs s u n (k + 1) b g) := h3
    have H4 : Hid (Trm.NthIs s u n j x h) := h4
    have c1 : (g == 0) = false ∨ ((g == 0) = true ∧ decide (b ≤ N) = false) := by
      by_cases q : g = 0
      · exact .inr ⟨by simpa using q, by have := hb b g h3 q; simp; omega⟩
      · exact .inl (by simpa using q)
    have c2 : (h != 0) = true ∨ ((h != 0) = false ∧ decide (x ≤ N) = decide (j ≤ k)) := by
      by_cases q : h = 0
      · subst q
        exact .inr ⟨rfl, by rw [decide_eq_decide]; exact hj j x h4⟩
      · exact .inl (by simpa using q)
    have q2 : decide (N < a) = false := by simp; omega
    clear h1 ha h3 h4 hb hj hw
    rcases c1 with c1 | ⟨c1, c1'⟩
    all_goals
      rcases c2 with c2 | ⟨c2, c2'⟩
      all_goals
        try (have C2 : Hid (decide (x ≤ N) = decide (j ≤ k)) := c2'; clear c2')
        go_enter Tryd.func7, Tryd.ntmps7
        go_wp2_with fail
        refine (find_is _ _ _ _ _ _ _ T0.out.lay H1.out).mono ?_; rintro e w1 ⟨rfl, b1⟩
        have T1 : Hid (TL w u n w1) := T0.out.on b1
        clear b1
        go_wp2_with fail
        refine (tbegun_any _ T1.out.lay).mono ?_; rintro e w2 ⟨rfl, b2⟩
        have T2 : Hid (TL w u n w2) := T1.out.on b2
        clear b2
        obtain ⟨p0, p1⟩ := T2.out.cells
        go_wp2_with fail
        refine (nth_is _ _ _ _ _ _ _ T2.out.lay H2.out).mono ?_; rintro e w3 ⟨rfl, b3⟩
        have T3 : Hid (TL w u n w3) := T2.out.on b3
        clear b3 p0 p1
        obtain ⟨p0, p1⟩ := T3.out.cells
        go_wp2_with fail
        refine (nth_is _ _ _ _ _ _ _ T3.out.lay H3.out).mono ?_; rintro e w4 ⟨rfl, b4⟩
        have T4 : Hid (TL w u n w4) := T3.out.on b4
        clear b4 p0 p1
        obtain ⟨p0, p1⟩ := T4.out.cells
        go_wp2_with fail
        refine (nth_is _ _ _ _ _ _ _ T4.out.lay H4.out).mono ?_; rintro e w5 ⟨rfl, b5⟩
        have T5 : Hid (TL w u n w5) := T4.out.on b5
        clear b5 p0 p1
        go_wp2_with fail
        go_ret
        first
          | exact ⟨rfl, T5.out.fin⟩
          | exact ⟨ret_bool (by rw [C2.out]; simp), T5.out.fin⟩
  · have hz := Trm.find_err s u n N k c h1 hc
    have hc1 : (c != 0) = true := by simpa using hc
    subst hz
    clear h1 hc hw
    go_enter Tryd.func7, Tryd.ntmps7
    go_wp2_with fail
    refine (find_is _ _ _ _ _ _ _ T0.out.lay H1.out).mono ?_; rintro e w1 ⟨rfl, b1⟩
    have T1 : Hid (TL w u n w1) := T0.out.on b1
    clear b1
    go_wp2_with fail
    refine (tbegun_any _ T1.out.lay).mono ?_; rintro e w2 ⟨rfl, b2⟩
    have T2 : Hid (TL w u n w2) := T1.out.on b2
    clear b2
    go_wp2_with fail
    go_ret
    exact ⟨rfl, T2.out.fin⟩
end Go.Proofs.YthojffiajlpneaaDoor
