/- Plain mathematics of windows and of percents, for WindowAges. -/
import Derived.Test.YtfncfbbkkpdhkaaDoorPnRow
namespace Go.Proofs.YtfncfbbkkpdhkaaDoor
namespace Prs
theorem best_app (a : Int) : ∀ (l r : List Kl) (b : Int), best a b (l ++ r) = best a (best a b l) r
  | [], _, _ => rfl
  | _ :: l, r, _ => best_app a l r _
theorem best_ge (a : Int) : ∀ (l : List Kl) (b : Int), b ≤ best a b l
  | [], _ => Int.le_refl _
  | c :: l, b => by
    have := best_ge a l (if c.f ≤ a ∧ a ≤ c.t ∧ b < c.p then c.p else b)
    show b ≤ best a _ l
    split at this
    · rename_i h; rw [if_pos h]; omega
    · rename_i h; rw [if_neg h]; exact this
/-- what is off is no less with a class more; just the same where the class isn't the age's -/
theorem best_more (a : Int) (l : List Kl) (c : Kl) : best a 0 (l ++ [c]) = if c.f ≤ a ∧ a ≤ c.t ∧ best a 0 l < c.p then c.p else best a 0 l := by
  rw [best_app]; rfl
theorem winsE_app (s : Int) : ∀ (l r : List Kl), winsE s (l ++ r) = if winsE s l = 0 then winsE s r else winsE s l
  | [], r => rfl
  | c :: l, r => by
    show (if winE s c = 0 then winsE s (l ++ r) else winE s c) = if (if winE s c = 0 then winsE s l else winE s c) = 0 then winsE s r else (if winE s c = 0 then winsE s l else winE s c)
    by_cases h : winE s c = 0
    · rw [if_pos h, if_pos h, winsE_app s l r]
    · rw [if_neg h, if_neg h, if_neg h]
/-- a day's lying in the window -/
def inW (s : Int) (c : Kl) (n : Int) : Prop := winF s c ≤ n ∧ n < winT s c
theorem win_age {s : Int} {c : Kl} {n a e : Int} (hw : winE s c = 0) (h : AgeAns s n a e) : (e = 0 → (inW s c n ↔ (c.f ≤ a ∧ a ≤ c.t))) ∧ (e = 2 → ¬ inW s c n) ∧ (e = 4 → ¬ inW s c n) := by
  obtain ⟨h1, h2, h3⟩ := winE_zero hw
  have hf : winF s c = tns s c.f := by unfold winF; rw [if_pos hw]
  have ht : winT s c = tns s (c.t + 1) := by unfold winT; rw [if_pos hw]
  unfold inW
  rw [hf, ht]
  unfold Kl.bad at h2
  obtain ⟨y, m, d, v, ey⟩ := date_of h1
  rw [tns_is v ey] at h3
  rw [tns_is v ey, tns_is v ey]
  have hff : tn y m d c.f ≠ 0 := (tn_mono y m d c.f y m d (c.t + 1) v v (by omega) (by omega) (Int.le_refl _) h3).1
  rcases h with ⟨_, h4, h5⟩ | ⟨_, _, h4, h5, h6⟩ | ⟨_, _, _, y', m', d', p, v', ey', ha, h4⟩
  · exact ⟨fun k => by omega, fun k => by omega, fun k => by omega⟩
  · have := window_born v (f := c.f) (n := n) (by omega) hff (by omega)
    exact ⟨fun k => by omega, fun k => by omega, fun _ k => by omega⟩
  · obtain ⟨rfl, rfl, rfl⟩ := Cal.num_inj _ _ _ _ _ _ v' v (ey'.trans ey.symm)
    have hw2 := window v (by omega) (by omega) h3 ha (f := c.f) (t := c.t)
    rcases h4 with ⟨h4, h5, h6⟩ | ⟨h4, h5, h6⟩
    · exact ⟨fun k => by omega, fun _ k => by have := hw2.1 k; omega, fun k => by omega⟩
    · subst h5
      exact ⟨fun _ => hw2, fun k => by omega, fun k => by omega⟩
/-- what WindowAges asks of the percents -/
theorem pct_more {s : Int} {l : List Kl} {c : Kl} {n p q : Int} (hw : winE s c = 0) (h : PctAns s l n p 0) (h' : PctAns s (l ++ [c]) n q 0) :
    p ≤ q ∧ (inW s c n → c.p ≤ q) ∧ (¬ inW s c n → q = p) := by
  rcases h.2 with k | ⟨_, a, e, ha, hp⟩
  · exact absurd rfl k.1
  rcases h'.2 with k | ⟨_, a', e', ha', hq⟩
  · exact absurd rfl k.1
  obtain ⟨rfl, rfl⟩ := ha.uniq ha'
  obtain ⟨w1, w2, w3⟩ := win_age hw ha
  rcases hp with ⟨e0, hp⟩ | ⟨e0, hp⟩ <;> rcases hq with ⟨e1, hq⟩ | ⟨e1, hq⟩
  · rw [best_more, ← hp] at hq
    have w1 := w1 e0
    by_cases hc : c.f ≤ a ∧ a ≤ c.t ∧ p < c.p
    · rw [if_pos hc] at hq
      exact ⟨by omega, fun _ => by omega, fun k => absurd (w1.2 ⟨hc.1, hc.2.1⟩) k⟩
    · rw [if_neg hc] at hq
      exact ⟨by omega, fun k => by have := w1.1 k; omega, fun _ => hq⟩
  · exact absurd e0 e1
  · exact absurd e1 e0
  · refine ⟨by omega, fun k => ?_, fun _ => by omega⟩
    exfalso
    have h3 : e = 3 ∨ e = 4 ∨ e = 2 := by
      rcases ha with k | k | ⟨_, _, _, _, _, _, _, _, _, _, k⟩
      · exact .inl k.2.2
      · exact .inr (.inl k.2.2.2.2)
      · rcases k with k | k
        · exact .inr (.inr k.2.2)
        · exact absurd k.2.2 e0
    rcases h3 with h3 | h3 | h3
    · have hE := h.1
      unfold pctE at hE
      have hb : bad s ∨ bad n := by
        rcases ha with k | k | ⟨_, _, _, _, _, _, _, _, _, _, k⟩
        · exact k.1
        · have := k.2.2.2.2; omega
        · omega
      rcases hb with hb | hb
      · exact (winE_zero hw).1 hb
      · split at hE
        · exact absurd hE (by decide)
        · try rw [if_pos hb] at hE
          split at hE
          · exact absurd hE (by decide)
          · rename_i h9; exact h9 hE.symm
    · exact w3 h3 k
    · exact w2 h3 k
end Prs
end Go.Proofs.YtfncfbbkkpdhkaaDoor
