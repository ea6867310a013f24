/- Plain mathematics of a stable sort, the second part: insertion, and the symmetric merge. No program is named here. -/
import Derived.Test.YtehopfpcikbaiaaDoorSrt
namespace Go.Proofs.YtehopfpcikbaiaaDoor
namespace Srt
theorem step_right (F : Nat → Int) (k m : Nat) (h : k < m) (q : Nat) : swp (rot F (k + 1) m (m + 1)) (k + 1) k q = rot F k m (m + 1) q := by
  have e1 : m + 1 - m = 1 := by omega
  unfold swp rot
  rw [e1]
  repeat' split
  all_goals first | rfl | (exfalso; omega) | (congr 1; omega)
theorem step_left (F : Nat → Int) (a k : Nat) (h : a ≤ k) (q : Nat) : swp (rot F a (a + 1) (k + 1)) k (k + 1) q = rot F a (a + 1) (k + 2) q := by
  have e1 : k + 1 - (a + 1) = k - a := by omega
  have e2 : k + 2 - (a + 1) = k - a + 1 := by omega
  unfold swp rot
  rw [e1, e2]
  repeat' split
  all_goals first | rfl | (exfalso; omega) | (congr 1; omega)
variable {lt : Int → Int → Prop}
/-- one from the left is brought in among those on the right -/
theorem merge_left (o : Ord lt) (F : Nat → Int) (a b i : Nat) (h0 : a + 1 ≤ i) (hb : i ≤ b) (hs : Sorted lt F (a + 1) b) (hl : Lr F a (a + 1) b)
    (h1 : ∀ k, a + 1 ≤ k → k < i → lt (F k) (F a)) (h2 : ∀ k, i ≤ k → k < b → ¬ lt (F k) (F a)) : Merged lt (rot F a (a + 1) i) F a b := by
  have of := rot_off F a (a + 1) i (by omega) h0
  refine ⟨?_, (rot_same F a (a + 1) i (by omega) h0).wide of (Nat.le_refl _) hb, of.wide (Nat.le_refl _) hb⟩
  have v1 : ∀ k, a ≤ k → k + 1 < i → rot F a (a + 1) i k = F (k + 1) := fun k c1 c2 => by rw [rot_left F a (a + 1) i k c1 (by omega)]; congr 1; omega
  have v2 : rot F a (a + 1) i (i - 1) = F a := by rw [rot_right F a (a + 1) i (i - 1) (by omega) (by omega)]; congr 1; omega
  have v3 : ∀ k, i ≤ k → rot F a (a + 1) i k = F k := fun k c => of k (.inr c)
  have up : ∀ k, i ≤ k → k < b → lt (F a) (F k) := fun k c1 c2 => o.of_not (h2 k c1 c2) (by have := hl a k (by omega) (by omega) (by omega) c2; omega)
  intro p q hp hpq hq
  rcases Nat.lt_trichotomy (p + 1) i with c | c | c
  · rw [v1 p hp c]
    rcases Nat.lt_trichotomy (q + 1) i with d | d | d
    · rw [v1 q (by omega) d]; exact hs _ _ (by omega) (by omega) (by omega)
    · obtain rfl : q = i - 1 := by omega
      rw [v2]; exact h1 _ (by omega) (by omega)
    · rw [v3 q (by omega)]; exact hs _ _ (by omega) (by omega) (by omega)
  · obtain rfl : p = i - 1 := by omega
    rw [v2, v3 q (by omega)]; exact up q (by omega) hq
  · rw [v3 p (by omega), v3 q (by omega)]; exact hs _ _ (by omega) (by omega) (by omega)
/-- one from the right is brought in among those on the left -/
theorem merge_right (o : Ord lt) (F : Nat → Int) (a m i : Nat) (h0 : a ≤ i) (hb : i ≤ m) (hs : Sorted lt F a m) (hl : Lr F a m (m + 1))
    (h1 : ∀ k, a ≤ k → k < i → ¬ lt (F m) (F k)) (h2 : ∀ k, i ≤ k → k < m → lt (F m) (F k)) : Merged lt (rot F i m (m + 1)) F a (m + 1) := by
  have of := rot_off F i m (m + 1) hb (by omega)
  refine ⟨?_, (rot_same F i m (m + 1) hb (by omega)).wide of h0 (Nat.le_refl _), of.wide h0 (Nat.le_refl _)⟩
  have v1 : ∀ k, k < i → rot F i m (m + 1) k = F k := fun k c => of k (.inl c)
  have v2 : rot F i m (m + 1) i = F m := by rw [rot_left F i m (m + 1) i (by omega) (by omega)]; congr 1; omega
  have v3 : ∀ k, i < k → k < m + 1 → rot F i m (m + 1) k = F (k - 1) := fun k c d => by rw [rot_right F i m (m + 1) k (by omega) d]; congr 1; omega
  have up : ∀ k, a ≤ k → k < i → lt (F k) (F m) := fun k c1 c2 => o.of_not (h1 k c1 c2) (by have := hl k m c1 (by omega) (by omega) (by omega); omega)
  intro p q hp hpq hq
  rcases Nat.lt_trichotomy p i with c | c | c
  · rw [v1 p c]
    rcases Nat.lt_trichotomy q i with d | d | d
    · rw [v1 q d]; exact hs _ _ (by omega) (by omega) (by omega)
    · rw [d, v2]; exact up p hp c
    · rw [v3 q d hq]
      exact hs _ _ (by omega) (by omega) (by omega)
  · rw [c, v2, v3 q (by omega) hq]
    exact h2 _ (by omega) (by omega)
  · rw [v3 p c (by omega), v3 q (by omega) hq]
    exact hs _ _ (by omega) (by omega) (by omega)
/-- an insertion stops: all further left stand ahead -/
theorem stop_left (o : Ord lt) (F : Nat → Int) (a j i : Nat) (x : Int) (hji : j ≤ i) (hs : Sorted lt F a i) (h : j = a ∨ ¬ lt x (F (j - 1))) : ∀ k, a ≤ k → k < j → ¬ lt x (F k) := by
  intro k h1 h2 hk
  rcases h with h | h
  · omega
  · by_cases e : k = j - 1
    · exact h (e ▸ hk)
    · exact h (o.tr _ _ _ hk (hs k (j - 1) h1 (by omega) (by omega)))
/-- two halves, all of the one ahead of all of the other -/
theorem join (G G1 G2 : Nat → Int) (a mid b : Nat) (h1 : a ≤ mid) (h2 : mid ≤ b) (hx : ∀ i j, a ≤ i → i < mid → mid ≤ j → j < b → lt (G i) (G j))
    (m1 : Merged lt G1 G a mid) (m2 : Merged lt G2 G1 mid b) : Merged lt G2 G a b := by
  obtain ⟨s1, a1, o1⟩ := m1
  obtain ⟨s2, a2, o2⟩ := m2
  refine ⟨?_, (a2.wide o2 h1 (Nat.le_refl _)).trans (a1.wide o1 (Nat.le_refl _) h2), (o2.wide h1 (Nat.le_refl _)).trans (o1.wide (Nat.le_refl _) h2)⟩
  intro p q hp hpq hq
  by_cases c : q < mid
  · rw [o2 p (.inl (by omega)), o2 q (.inl c)]; exact s1 p q hp hpq c
  by_cases d : mid ≤ p
  · exact s2 p q d hpq hq
  rw [o2 p (.inl (by omega))]
  obtain ⟨p', e1, e2, e3⟩ := a1.1 p hp (by omega)
  obtain ⟨q', f1, f2, f3⟩ := a2.1 q (by omega) hq
  rw [e3, f3, o1 q' (.inr f1)]
  exact hx p' q' e1 e2 f1 f2
theorem half (G : Nat → Int) (a s b : Nat) (h1 : a ≤ s) (h2 : s ≤ b) (h3 : ¬ (a < s ∧ s < b)) (s1 : Sorted lt G a s) (s2 : Sorted lt G s b) : Merged lt G G a b := by
  refine ⟨?_, Same.refl _ _ _, Off.refl _ _ _⟩
  by_cases h : s = a
  · subst h; exact s2
  · obtain rfl : s = b := by omega
    exact s1
/-- what lies where behind the rotation of a symmetric merge -/
structure Cut (lt : Int → Int → Prop) (F : Nat → Int) (a m b s e : Nat) : Prop where
  as : a ≤ s
  sm : s ≤ m
  me : m ≤ e
  eb : e ≤ b
  x1 : a < s → e < b → lt (F (s - 1)) (F e)
  x2 : s < m → m < e → lt (F (e - 1)) (F s)
theorem Cut.parts {F : Nat → Int} {a m b s e : Nat} (o : Ord lt) (c : Cut lt F a m b s e) (s1 : Sorted lt F a m) (s2 : Sorted lt F m b) (hl : Lr F a m b) :
    let G := rot F s m e
    let mid := s + (e - m)
    Sorted lt G a s ∧ Sorted lt G s mid ∧ Lr G a s mid ∧ Sorted lt G mid e ∧ Sorted lt G e b ∧ Lr G mid e b ∧ (∀ i j, a ≤ i → i < mid → mid ≤ j → j < b → lt (G i) (G j)) ∧ Same G F a b ∧ Off G F a b := by
  intro G mid
  obtain ⟨as, sm, me, eb, x1, x2⟩ := c
  have of := rot_off F s m e sm me
  have v1 : ∀ k, k < s → G k = F k := fun k h => of k (.inl h)
  have v2 : ∀ k, s ≤ k → k < mid → G k = F (m + (k - s)) := fun k h1 h2 => rot_left F s m e k h1 h2
  have v3 : ∀ k, mid ≤ k → k < e → G k = F (s + (k - mid)) := fun k h1 h2 => rot_right F s m e k h1 h2
  have v4 : ∀ k, e ≤ k → G k = F k := fun k h => of k (.inr h)
  have hmid : mid = s + (e - m) := rfl
  have g1 : Same G F a b := (rot_same F s m e sm me).wide of as eb
  have g2 : Off G F a b := of.wide as eb
  clear_value G mid
  -- the four pairs across
  have y1 : ∀ i j, a ≤ i → i < s → e ≤ j → j < b → lt (F i) (F j) := fun i j h1 h2 h3 h4 => by
    have hx := x1 (by omega) (by omega)
    have l1 : i = s - 1 ∨ lt (F i) (F (s - 1)) := by
      by_cases h : i = s - 1
      · exact .inl h
      · exact .inr (s1 _ _ h1 (by omega) (by omega))
    have l2 : j = e ∨ lt (F e) (F j) := by
      by_cases h : j = e
      · exact .inl h
      · exact .inr (s2 _ _ (by omega) (by omega) h4)
    have hx' : lt (F i) (F e) := by
      rcases l1 with l1 | l1
      · rw [l1]; exact hx
      · exact o.tr _ _ _ l1 hx
    rcases l2 with l2 | l2
    · rw [l2]; exact hx'
    · exact o.tr _ _ _ hx' l2
  have y2 : ∀ i j, m ≤ i → i < e → s ≤ j → j < m → lt (F i) (F j) := fun i j h1 h2 h3 h4 => by
    have hx := x2 (by omega) (by omega)
    have l1 : i = e - 1 ∨ lt (F i) (F (e - 1)) := by
      by_cases h : i = e - 1
      · exact .inl h
      · exact .inr (s2 _ _ h1 (by omega) (by omega))
    have l2 : j = s ∨ lt (F s) (F j) := by
      by_cases h : j = s
      · exact .inl h
      · exact .inr (s1 _ _ (by omega) (by omega) h4)
    have hx' : lt (F i) (F s) := by
      rcases l1 with l1 | l1
      · rw [l1]; exact hx
      · exact o.tr _ _ _ l1 hx
    rcases l2 with l2 | l2
    · rw [l2]; exact hx'
    · exact o.tr _ _ _ hx' l2
  refine ⟨?_, ?_, ?_, ?_, ?_, ?_, ?_, ?_, ?_⟩
  · intro i j h1 h2 h3; rw [v1 i (by omega), v1 j h3]; exact s1 _ _ h1 h2 (by omega)
  · intro i j h1 h2 h3; rw [v2 i h1 (by omega), v2 j (by omega) h3]; exact s2 _ _ (by omega) (by omega) (by omega)
  · intro i j h1 h2 h3 h4; rw [v1 i h2, v2 j h3 h4]; exact hl _ _ h1 (by omega) (by omega) (by omega)
  · intro i j h1 h2 h3; rw [v3 i h1 (by omega), v3 j (by omega) h3]; exact s1 _ _ (by omega) (by omega) (by omega)
  · intro i j h1 h2 h3; rw [v4 i h1, v4 j (by omega)]; exact s2 _ _ (by omega) h2 h3
  · intro i j h1 h2 h3 h4; rw [v3 i h1 h2, v4 j h3]; exact hl _ _ (by omega) (by omega) (by omega) (by omega)
  · intro i j h1 h2 h3 h4
    by_cases c1 : i < s
    · rw [v1 i c1]
      by_cases c2 : j < e
      · rw [v3 j h3 c2]; exact s1 _ _ h1 (by omega) (by omega)
      · rw [v4 j (by omega)]; exact y1 i j h1 c1 (by omega) h4
    · rw [v2 i (by omega) h2]
      by_cases c2 : j < e
      · rw [v3 j h3 c2]; exact y2 _ _ (by omega) (by omega) (by omega) (by omega)
      · rw [v4 j (by omega)]; exact s2 _ _ (by omega) (by omega) h4
  · exact g1
  · exact g2
/-- the search of a symmetric merge -/
structure Look (lt : Int → Int → Prop) (F : Nat → Int) (p s0 r0 s r : Nat) : Prop where
  h1 : s0 ≤ s
  h2 : s ≤ r
  h3 : r ≤ r0
  lo : ∀ c, s0 ≤ c → c < s → ¬ lt (F (p - c)) (F c)
  up : ∀ c, r ≤ c → c < r0 → lt (F (p - c)) (F c)
/-- where the search goes -/
structure Range (a m b mid p s0 r0 : Nat) : Prop where
  am : a < m
  mb : m < b
  hmid : mid = (a + b) / 2
  hp : p + 1 = mid + m
  hs : (mid < m ∧ s0 + b = mid + m ∧ r0 = mid) ∨ (m ≤ mid ∧ s0 = a ∧ r0 = m)
theorem Range.facts {a m b mid p s0 r0 : Nat} (h : Range a m b mid p s0 r0) : a ≤ s0 ∧ s0 ≤ r0 ∧ r0 ≤ m ∧ a < mid ∧ mid < b ∧ ∀ c, s0 ≤ c → c < r0 → c ≤ p ∧ m ≤ p - c ∧ p - c < b := by
  obtain ⟨am, mb, hmid, hp, hs⟩ := h
  rcases hs with ⟨q1, q2, q3⟩ | ⟨q1, q2, q3⟩
  · refine ⟨by omega, by omega, by omega, by omega, by omega, fun c c1 c2 => ⟨by omega, by omega, by omega⟩⟩
  · refine ⟨by omega, by omega, by omega, by omega, by omega, fun c c1 c2 => ⟨by omega, by omega, by omega⟩⟩
theorem Look.low {F : Nat → Int} {a m b mid p s0 r0 s r : Nat} (o : Ord lt) (R : Range a m b mid p s0 r0) (s1 : Sorted lt F a m) (s2 : Sorted lt F m b) (L : Look lt F p s0 r0 s r) (c : Nat) (hc1 : s ≤ c) (hc2 : c < r)
    (h : ¬ lt (F (p - c)) (F c)) : Look lt F p s0 r0 (c + 1) r := by
  obtain ⟨f1, f2, f3, _, _, f4⟩ := R.facts
  obtain ⟨l1, l2, l3, lo, up⟩ := L
  refine ⟨by omega, by omega, l3, fun d d1 d2 hd => h ?_, up⟩
  by_cases e : d = c
  · rw [← e]; exact hd
  · obtain ⟨g1, g2, g3⟩ := f4 d d1 (by omega)
    obtain ⟨k1, k2, k3⟩ := f4 c (by omega) (by omega)
    exact o.tr _ _ _ (s2 (p - c) (p - d) (by omega) (by omega) (by omega)) (o.tr _ _ _ hd (s1 d c (by omega) (by omega) (by omega)))
theorem Look.high {F : Nat → Int} {a m b mid p s0 r0 s r : Nat} (o : Ord lt) (R : Range a m b mid p s0 r0) (s1 : Sorted lt F a m) (s2 : Sorted lt F m b) (L : Look lt F p s0 r0 s r) (c : Nat) (hc1 : s ≤ c) (hc2 : c < r)
    (h : lt (F (p - c)) (F c)) : Look lt F p s0 r0 s c := by
  obtain ⟨f1, f2, f3, _, _, f4⟩ := R.facts
  obtain ⟨l1, l2, l3, lo, up⟩ := L
  refine ⟨l1, hc1, by omega, lo, fun d d1 d2 => ?_⟩
  by_cases e : d = c
  · rw [e]; exact h
  · obtain ⟨g1, g2, g3⟩ := f4 d (by omega) d2
    obtain ⟨k1, k2, k3⟩ := f4 c (by omega) (by omega)
    exact o.tr _ _ _ (s2 (p - d) (p - c) (by omega) (by omega) (by omega)) (o.tr _ _ _ h (s1 c d (by omega) (by omega) (by omega)))
theorem Look.found {F : Nat → Int} {a m b mid p s0 r0 s : Nat} (o : Ord lt) (R : Range a m b mid p s0 r0) (hl : Lr F a m b) (L : Look lt F p s0 r0 s s) : Cut lt F a m b s (p + 1 - s) ∧ s + (p + 1 - s - m) = mid ∧ s ≤ p := by
  obtain ⟨f1, f2, f3, f5, f6, f4⟩ := R.facts
  obtain ⟨l1, l2, l3, lo, up⟩ := L
  obtain ⟨am, mb, hmid, hp, hs⟩ := R
  refine ⟨⟨by omega, by omega, by omega, ?_, fun h1 h2 => ?_, fun h1 h2 => ?_⟩, by omega, by omega⟩
  · rcases hs with ⟨q1, q2, q3⟩ | ⟨q1, q2, q3⟩ <;> omega
  · have hs0 : s0 ≤ s - 1 := by rcases hs with ⟨q1, q2, q3⟩ | ⟨q1, q2, q3⟩ <;> omega
    have hlo := lo (s - 1) hs0 (by omega)
    have e : p - (s - 1) = p + 1 - s := by omega
    rw [e] at hlo
    exact o.of_not hlo (by have := hl (s - 1) (p + 1 - s) (by omega) (by omega) (by omega) h2; omega)
  · have hr : s < r0 := by rcases hs with ⟨q1, q2, q3⟩ | ⟨q1, q2, q3⟩ <;> omega
    have hup := up s (Nat.le_refl _) hr
    have e : p + 1 - s - 1 = p - s := by omega
    rw [e]; exact hup
/-- the searches of a merge of one alone -/
theorem low_left (o : Ord lt) (F : Nat → Int) (m b h : Nat) (x : Int) (hs : Sorted lt F m b) (hb : h < b) (hh : lt (F h) x) : ∀ k, m ≤ k → k < h + 1 → lt (F k) x := fun k h1 h2 => by
  by_cases e : k = h
  · rw [e]; exact hh
  · exact o.tr _ _ _ (hs k h h1 (by omega) hb) hh
theorem high_left (o : Ord lt) (F : Nat → Int) (m b h : Nat) (x : Int) (hs : Sorted lt F m b) (hm : m ≤ h) (hh : ¬ lt (F h) x) : ∀ k, h ≤ k → k < b → ¬ lt (F k) x := fun k h1 h2 hk => by
  by_cases e : k = h
  · exact hh (e ▸ hk)
  · exact hh (o.tr _ _ _ (hs h k hm (by omega) h2) hk)
theorem low_right (o : Ord lt) (F : Nat → Int) (a m h : Nat) (x : Int) (hs : Sorted lt F a m) (hm : h < m) (hh : ¬ lt x (F h)) : ∀ k, a ≤ k → k < h + 1 → ¬ lt x (F k) := fun k h1 h2 hk => by
  by_cases e : k = h
  · exact hh (e ▸ hk)
  · exact hh (o.tr _ _ _ hk (hs k h h1 (by omega) hm))
theorem high_right (o : Ord lt) (F : Nat → Int) (a m h : Nat) (x : Int) (hs : Sorted lt F a m) (ha : a ≤ h) (hh : lt x (F h)) : ∀ k, h ≤ k → k < m → lt x (F k) := fun k h1 h2 => by
  by_cases e : k = h
  · rw [e]; exact hh
  · exact o.tr _ _ _ hh (hs h k ha (by omega) h2)
end Srt
end Go.Proofs.YtehopfpcikbaiaaDoor
