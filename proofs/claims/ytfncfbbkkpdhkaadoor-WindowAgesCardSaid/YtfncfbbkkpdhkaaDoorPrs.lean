/- Plain mathematics of persons: the day on which an age is turned, how old somebody is on a day, windows of classes, percents. -/
import Derived.Test.YtfncfbbkkpdhkaaDoorTrm
namespace Go.Proofs.YtfncfbbkkpdhkaaDoor
namespace Prs
/-- somebody born on a date turns a years on that day; 0: beyond all days -/
def tn (y m d a : Int) : Int := Trm.mon y m d (12 * a)
theorem tn_in (y m d a : Int) (h : Cal.vld y m d) (ha : 0 ≤ a) : tn y m d a = 0 ∨ (1 ≤ tn y m d a ∧ tn y m d a ≤ 3652059) := Trm.mon_in y m d _ h (by omega)
theorem tn_zero (y m d : Int) (h : Cal.vld y m d) : tn y m d 0 = Cal.num y m d := Trm.mon_zero y m d h
theorem tn_mono (y m d a y' m' d' a' : Int) (h : Cal.vld y m d) (h' : Cal.vld y' m' d') (ha : 0 ≤ a) (haa : a ≤ a') (hle : Cal.num y m d ≤ Cal.num y' m' d') (hne : tn y' m' d' a' ≠ 0) :
    tn y m d a ≠ 0 ∧ tn y m d a ≤ tn y' m' d' a' ∧ (a < a' → tn y m d a < tn y' m' d' a') := by
  obtain ⟨h1, h2, h3⟩ := Trm.mon_mono y m d (12 * a) y' m' d' (12 * a') h h' (by omega) (by omega) hle hne
  exact ⟨h1, h2, fun c => h3 (by omega)⟩
/-- by the date: the year, the month, the day, but of the 29th of February the 28th where there is none -/
theorem tn_is (y m d a : Int) (h : Cal.vld y m d) : tn y m d a = if 9999 < y + a then 0 else Cal.num (y + a) m (if m = 2 ∧ d = 29 ∧ Cal.leap (y + a) = false then 28 else d) := by
  obtain ⟨h1, h2, h3, h4, h5, h6⟩ := h
  have e1 : (m - 1 + 12 * a) / 12 = a := by omega
  have e2 : (m - 1 + 12 * a) % 12 + 1 = m := by omega
  unfold tn Trm.mon
  rw [e1, e2]
  by_cases c : 9999 < y + a
  · rw [if_pos c, if_pos c]
  · rw [if_neg c, if_neg c]
    congr 1
    have l1 := Cal.lp_cases y
    have l2 := Cal.lp_cases (y + a)
    by_cases c2 : m = 2 ∧ d = 29 ∧ Cal.leap (y + a) = false
    · rw [if_pos c2]
      obtain ⟨e, e3, e4⟩ := c2
      have : Cal.lp (y + a) = 0 := by
        rcases l2 with l2 | l2
        · rw [e4] at l2; exact absurd l2.2 (by decide)
        · exact l2.1
      unfold Cal.mlen
      rw [if_pos e, this, e3]
      decide
    · rw [if_neg c2]
      have hml : d ≤ Cal.mlen (y + a) m := by
        unfold Cal.mlen at h6 ⊢
        by_cases c3 : m = 2
        · rw [if_pos c3] at h6 ⊢
          rcases l2 with l2 | l2
          · have := Cal.lp_bd y; omega
          · have hd : d ≠ 29 := fun e => c2 ⟨c3, e, l2.2⟩
            have := Cal.lp_bd y
            omega
        · rw [if_neg c3] at h6 ⊢
          exact h6
      omega
theorem tn_vld (y m d a : Int) (h : Cal.vld y m d) (ha : 0 ≤ a) (hy : y + a ≤ 9999) : Cal.vld (y + a) m (if m = 2 ∧ d = 29 ∧ Cal.leap (y + a) = false then 28 else d) := by
  have hm := Trm.vld_mon y m d (12 * a) h (by omega) (by have := h.2.2; omega)
  obtain ⟨h1, h2, h3, h4, h5, h6⟩ := h
  have l1 := Cal.lp_cases y
  have l2 := Cal.lp_cases (y + a)
  refine ⟨by omega, hy, h3, h4, ?_, ?_⟩
  · split <;> omega
  · by_cases c2 : m = 2 ∧ d = 29 ∧ Cal.leap (y + a) = false
    · rw [if_pos c2]
      unfold Cal.mlen
      rw [if_pos c2.1]
      have := Cal.lp_bd (y + a); omega
    · rw [if_neg c2]
      unfold Cal.mlen at h6 ⊢
      by_cases c3 : m = 2
      · rw [if_pos c3] at h6 ⊢
        rcases l2 with l2 | l2
        · have := Cal.lp_bd y; omega
        · have hd : d ≠ 29 := fun e => c2 ⟨c3, e, l2.2⟩
          have := Cal.lp_bd y
          omega
      · rw [if_neg c3] at h6 ⊢
        exact h6
/-- somebody is a years old on day n -/
structure Age (y m d n a : Int) : Prop where
  a0 : 0 ≤ a
  ne : tn y m d a ≠ 0
  le : tn y m d a ≤ n
  more : tn y m d (a + 1) = 0 ∨ n < tn y m d (a + 1)
theorem Age.uniq {y m d n a b : Int} (h : Cal.vld y m d) (ha : Age y m d n a) (hb : Age y m d n b) : a = b := by
  have key : ∀ a b : Int, Age y m d n a → Age y m d n b → ¬ a < b := by
    intro a b ha hb hlt
    obtain ⟨h1, h2, _⟩ := tn_mono y m d (a + 1) y m d b h h (by have := ha.a0; omega) (by omega) (Int.le_refl _) hb.ne
    rcases ha.more with e | e
    · exact h1 e
    · have := hb.le; omega
  have h1 := key a b ha hb
  have h2 := key b a hb ha
  omega
/-- the age by the dates: the years apart, or one less -/
def byDate (y m d yn n : Int) : Int := if n < tn y m d (yn - y) then yn - y - 1 else yn - y
theorem age_is (y m d yn mn dn : Int) (h : Cal.vld y m d) (hn : Cal.vld yn mn dn) (hle : Cal.num y m d ≤ Cal.num yn mn dn) : Age y m d (Cal.num yn mn dn) (byDate y m d yn (Cal.num yn mn dn)) := by
  obtain ⟨i1, i2⟩ := Trm.num_index _ _ _ _ _ _ h hn hle
  have h' := h
  have hn' := hn
  obtain ⟨h1, h2, h3, h4, h5, h6⟩ := h'
  obtain ⟨g1, g2, g3, g4, g5, g6⟩ := hn'
  have hyy : y ≤ yn := by omega
  have hy : y + (yn - y) = yn := by omega
  have e := tn_is y m d (yn - y) h
  rw [hy, if_neg (by omega)] at e
  have v := tn_vld y m d (yn - y) h (by omega) (by omega)
  rw [hy] at v
  have hnz : tn y m d (yn - y) ≠ 0 := by
    have := Cal.num_in _ _ _ v; rw [e]; omega
  -- one year more is beyond the day
  have hmore : tn y m d (yn - y + 1) = 0 ∨ Cal.num yn mn dn < tn y m d (yn - y + 1) := by
    have e2 := tn_is y m d (yn - y + 1) h
    by_cases c : 9999 < y + (yn - y + 1)
    · rw [if_pos c] at e2; exact .inl e2
    · rw [if_neg c] at e2
      have v2 := tn_vld y m d (yn - y + 1) h (by omega) (by omega)
      refine .inr ?_
      rw [e2]
      have b1 := Cal.num_bd _ _ _ hn
      have b2 := Cal.num_bd _ _ _ v2
      have e3 : y + (yn - y + 1) = yn + 1 := by omega
      rw [e3] at b2 ⊢
      omega
  unfold byDate
  by_cases c : Cal.num yn mn dn < tn y m d (yn - y)
  · rw [if_pos c]
    -- a year less: it was turned in the year before
    have hpos : 1 ≤ yn - y := by
      rcases Int.lt_or_le (yn - y) 1 with q | q
      · exfalso
        have e0 : yn - y = 0 := by omega
        rw [e0, tn_zero y m d h] at c
        omega
      · exact q
    have e2 := tn_is y m d (yn - y - 1) h
    have e3 : y + (yn - y - 1) = yn - 1 := by omega
    rw [e3, if_neg (by omega)] at e2
    have v2 := tn_vld y m d (yn - y - 1) h (by omega) (by omega)
    rw [e3] at v2
    have b1 := Cal.num_bd _ _ _ hn
    have b2 := Cal.num_bd _ _ _ v2
    have e4 : yn - 1 + 1 = yn := by omega
    rw [e4] at b2
    have e5 : yn - y - 1 + 1 = yn - y := by omega
    refine ⟨by omega, by rw [e2]; have := Cal.num_in _ _ _ v2; omega, by rw [e2]; omega, ?_⟩
    rw [e5]
    exact .inr c
  · rw [if_neg c]
    exact ⟨by omega, hnz, by omega, hmore⟩
/-- WHO WAS BORN LATER IS NO OLDER, and later on nobody is younger. -/
theorem age_order {y m d n a y' m' d' n' a' : Int} (h : Cal.vld y m d) (h' : Cal.vld y' m' d') (hb : Cal.num y' m' d' ≤ Cal.num y m d) (hn : n ≤ n') (ha : Age y m d n a) (ha' : Age y' m' d' n' a') : a ≤ a' := by
  rcases Int.lt_or_le a' a with c | c
  · exfalso
    obtain ⟨h1, h2, _⟩ := tn_mono y' m' d' (a' + 1) y m d a h' h (by have := ha'.a0; omega) (by omega) hb ha.ne
    rcases ha'.more with e | e
    · exact h1 e
    · have := ha.le; omega
  · exact c
/-- ONE YEAR OLDER ON EACH DAY THAT TURNS TELLS, and on no other one. -/
theorem age_next {y m d n a b : Int} (h : Cal.vld y m d) (ha : Age y m d n a) (hb : Age y m d (n - 1) b) : (a = b + 1 ↔ tn y m d a = n) ∧ (a = b ∨ a = b + 1) := by
  have hle : b ≤ a := by
    rcases Int.lt_or_le a b with c | c
    · exfalso
      obtain ⟨h1, h2, _⟩ := tn_mono y m d (a + 1) y m d b h h (by have := ha.a0; omega) (by omega) (Int.le_refl _) hb.ne
      rcases ha.more with e | e
      · exact h1 e
      · have := hb.le; omega
    · exact c
  by_cases e : tn y m d a = n
  · have hlt : b < a := by
      rcases Int.lt_or_le b a with c | c
      · exact c
      · exfalso
        have : a = b := by omega
        subst this
        have := hb.le; omega
    -- b + 1 is turned at n at the latest
    obtain ⟨h1, h2, h3⟩ := tn_mono y m d (b + 1) y m d a h h (by have := hb.a0; omega) (by omega) (Int.le_refl _) ha.ne
    have hba : a = b + 1 := by
      rcases Int.lt_or_le (b + 1) a with c | c
      · exfalso
        have h4 := h3 c
        rcases hb.more with q | q
        · exact h1 q
        · omega
      · omega
    exact ⟨⟨fun _ => e, fun _ => hba⟩, .inr hba⟩
  · have hba : a = b := by
      have hle2 := ha.le
      have : Age y m d (n - 1) a := ⟨ha.a0, ha.ne, by omega, by rcases ha.more with q | q; exact .inl q; exact .inr (by omega)⟩
      exact this.uniq h hb
    exact ⟨⟨fun q => by omega, fun q => absurd q e⟩, .inl hba⟩
theorem age_turn {y m d a : Int} (h : Cal.vld y m d) (ha : 0 ≤ a) (hne : tn y m d a ≠ 0) : Age y m d (tn y m d a) a := by
  refine ⟨ha, hne, Int.le_refl _, ?_⟩
  by_cases c : tn y m d (a + 1) = 0
  · exact .inl c
  · exact .inr ((tn_mono y m d a y m d (a + 1) h h ha (by omega) (Int.le_refl _) c).2.2 (by omega))
/-- A DAY LIES IN A CLASS'S WINDOW, if the age on it is one of the class's. -/
theorem window {y m d n a f t : Int} (h : Cal.vld y m d) (hf : 0 ≤ f) (hft : f ≤ t) (hne : tn y m d (t + 1) ≠ 0) (ha : Age y m d n a) : (tn y m d f ≤ n ∧ n < tn y m d (t + 1)) ↔ (f ≤ a ∧ a ≤ t) := by
  constructor
  · rintro ⟨h1, h2⟩
    constructor
    · rcases Int.lt_or_le a f with c | c
      · exfalso
        obtain ⟨_, _, _⟩ := tn_mono y m d (a + 1) y m d (t + 1) h h (by have := ha.a0; omega) (by omega) (Int.le_refl _) hne
        obtain ⟨q0, _, _⟩ := tn_mono y m d f y m d (t + 1) h h hf (by omega) (Int.le_refl _) hne
        obtain ⟨q1, q2, _⟩ := tn_mono y m d (a + 1) y m d f h h (by have := ha.a0; omega) (by omega) (Int.le_refl _) q0
        rcases ha.more with e | e
        · exact q1 e
        · omega
      · exact c
    · rcases Int.lt_or_le t a with c | c
      · exfalso
        obtain ⟨_, q2, _⟩ := tn_mono y m d (t + 1) y m d a h h (by omega) (by omega) (Int.le_refl _) ha.ne
        have := ha.le; omega
      · exact c
  · rintro ⟨h1, h2⟩
    constructor
    · obtain ⟨_, q2, _⟩ := tn_mono y m d f y m d a h h hf h1 (Int.le_refl _) ha.ne
      have := ha.le; omega
    · obtain ⟨q1, q2, _⟩ := tn_mono y m d (a + 1) y m d (t + 1) h h (by have := ha.a0; omega) (by omega) (Int.le_refl _) hne
      rcases ha.more with e | e
      · exact absurd e q1
      · omega
/-- ahead of the birth no class has anybody -/
theorem window_born {y m d n f : Int} (h : Cal.vld y m d) (hf : 0 ≤ f) (hne : tn y m d f ≠ 0) (hn : n < Cal.num y m d) : n < tn y m d f := by
  have := tn_mono y m d 0 y m d f h h (Int.le_refl _) hf (Int.le_refl _) hne
  rw [tn_zero y m d h] at this
  omega
end Prs
end Go.Proofs.YtfncfbbkkpdhkaaDoor
