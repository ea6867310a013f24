/- Plain mathematics of a stable sort over rows (functions of the place): exchanges, rotations, insertion, and the symmetric merge. No program is named here. -/
namespace Go.Proofs.YtehopfpcikbaiaaDoor
namespace Srt
/-- a strict order in which any two that differ stand one ahead of the other -/
structure Ord (lt : Int → Int → Prop) : Prop where
  tr : ∀ x y z, lt x y → lt y z → lt x z
  ir : ∀ x, ¬ lt x x
  to : ∀ x y, x ≠ y → lt x y ∨ lt y x
theorem Ord.of_not {lt : Int → Int → Prop} (o : Ord lt) {x y : Int} (h : ¬ lt x y) (hn : x ≠ y) : lt y x := (o.to x y hn).resolve_left h
theorem Ord.asym {lt : Int → Int → Prop} (o : Ord lt) {x y : Int} (h : lt x y) : ¬ lt y x := fun h' => o.ir _ (o.tr _ _ _ h h')
def Sorted (lt : Int → Int → Prop) (F : Nat → Int) (a b : Nat) : Prop := ∀ i j, a ≤ i → i < j → j < b → lt (F i) (F j)
def From (F' F : Nat → Int) (a b : Nat) : Prop := ∀ k, a ≤ k → k < b → ∃ k', a ≤ k' ∧ k' < b ∧ F' k = F k'
def Same (F' F : Nat → Int) (a b : Nat) : Prop := From F' F a b ∧ From F F' a b
def Off (F' F : Nat → Int) (a b : Nat) : Prop := ∀ k, k < a ∨ b ≤ k → F' k = F k
/-- what lies left is elder than what lies right -/
def Lr (F : Nat → Int) (a m b : Nat) : Prop := ∀ i j, a ≤ i → i < m → m ≤ j → j < b → F i < F j
def Merged (lt : Int → Int → Prop) (F' F : Nat → Int) (a b : Nat) : Prop := Sorted lt F' a b ∧ Same F' F a b ∧ Off F' F a b
theorem From.refl (F : Nat → Int) (a b : Nat) : From F F a b := fun k h1 h2 => ⟨k, h1, h2, rfl⟩
theorem Same.refl (F : Nat → Int) (a b : Nat) : Same F F a b := ⟨From.refl F a b, From.refl F a b⟩
theorem From.trans {F G H : Nat → Int} {a b : Nat} (h : From F G a b) (k : From G H a b) : From F H a b := fun i h1 h2 => by
  obtain ⟨j, a1, a2, a3⟩ := h i h1 h2
  obtain ⟨l, b1, b2, b3⟩ := k j a1 a2
  exact ⟨l, b1, b2, a3.trans b3⟩
theorem Same.trans {F G H : Nat → Int} {a b : Nat} (h : Same F G a b) (k : Same G H a b) : Same F H a b := ⟨h.1.trans k.1, k.2.trans h.2⟩
theorem Off.trans {F G H : Nat → Int} {a b : Nat} (h : Off F G a b) (k : Off G H a b) : Off F H a b := fun i hi => (h i hi).trans (k i hi)
theorem Off.wide {F G : Nat → Int} {a b a' b' : Nat} (h : Off F G a b) (ha : a' ≤ a) (hb : b ≤ b') : Off F G a' b' := fun i hi => h i (by omega)
theorem Off.refl (F : Nat → Int) (a b : Nat) : Off F F a b := fun _ _ => rfl
theorem From.wide {F G : Nat → Int} {a b a' b' : Nat} (h : From F G a b) (ho : Off F G a b) (ha : a' ≤ a) (hb : b ≤ b') : From F G a' b' := fun k h1 h2 => by
  by_cases hk : a ≤ k ∧ k < b
  · obtain ⟨j, a1, a2, a3⟩ := h k hk.1 hk.2
    exact ⟨j, by omega, by omega, a3⟩
  · exact ⟨k, h1, h2, ho k (by omega)⟩
theorem Same.wide {F G : Nat → Int} {a b a' b' : Nat} (h : Same F G a b) (ho : Off F G a b) (ha : a' ≤ a) (hb : b ≤ b') : Same F G a' b' :=
  ⟨h.1.wide ho ha hb, h.2.wide (fun i hi => (ho i hi).symm) ha hb⟩
/-- an exchange of two -/
def swp (F : Nat → Int) (i j : Nat) : Nat → Int := fun k => if k = i then F j else if k = j then F i else F k
/-- an exchange of two stretches -/
def swr (F : Nat → Int) (a b n : Nat) : Nat → Int := fun k => if a ≤ k ∧ k < a + n then F (b + (k - a)) else if b ≤ k ∧ k < b + n then F (a + (k - b)) else F k
/-- two neighbouring stretches change places -/
def rot (F : Nat → Int) (a m b : Nat) : Nat → Int := fun k => if k < a then F k else if k < a + (b - m) then F (m + (k - a)) else if k < b then F (a + (k - (a + (b - m)))) else F k
theorem swr_zero (F : Nat → Int) (a b : Nat) (k : Nat) : swr F a b 0 k = F k := by
  unfold swr
  rw [if_neg (by omega), if_neg (by omega)]
theorem swr_succ (F : Nat → Int) (a b n : Nat) (h : a + (n + 1) ≤ b) (k : Nat) : swp (swr F a b n) (a + n) (b + n) k = swr F a b (n + 1) k := by
  unfold swp swr
  by_cases h1 : k = a + n
  · subst h1
    rw [if_pos rfl, if_neg (by omega), if_neg (by omega), if_pos (by omega)]
    congr 1; omega
  rw [if_neg h1]
  by_cases h2 : k = b + n
  · subst h2
    rw [if_pos rfl, if_neg (by omega), if_neg (by omega), if_neg (by omega), if_pos (by omega)]
    congr 1; omega
  rw [if_neg h2]
  by_cases h3 : a ≤ k ∧ k < a + n
  · rw [if_pos h3, if_pos (by omega)]
  rw [if_neg h3, if_neg (show ¬ (a ≤ k ∧ k < a + (n + 1)) by omega)]
  by_cases h4 : b ≤ k ∧ k < b + n
  · rw [if_pos h4, if_pos (by omega)]
  rw [if_neg h4, if_neg (show ¬ (b ≤ k ∧ k < b + (n + 1)) by omega)]
theorem rot_more (F : Nat → Int) (m i j : Nat) (hi : i ≤ m) (hj : 0 < j) (h : j < i) (k : Nat) : rot (swr F (m - i) m j) (m - (i - j)) m (m + j) k = rot F (m - i) m (m + j) k := by
  have e1 : m + j - m = j := by omega
  unfold rot swr
  rw [e1]
  repeat' split
  all_goals first | rfl | (exfalso; omega) | (congr 1; omega)
theorem rot_less (F : Nat → Int) (m i j : Nat) (hi : i ≤ m) (hj : 0 < i) (h : i < j) (k : Nat) : rot (swr F (m - i) (m + j - i) i) (m - i) m (m + (j - i)) k = rot F (m - i) m (m + j) k := by
  have e1 : m + j - m = j := by omega
  have e2 : m + (j - i) - m = j - i := by omega
  unfold rot swr
  rw [e1, e2]
  repeat' split
  all_goals first | rfl | (exfalso; omega) | (congr 1; omega)
theorem rot_even (F : Nat → Int) (m i : Nat) (hi : i ≤ m) (k : Nat) : swr F (m - i) m i k = rot F (m - i) m (m + i) k := by
  unfold rot swr
  have e1 : m + i - m = i := by omega
  rw [e1]
  by_cases c1 : k < m - i
  · rw [if_pos c1, if_neg (by omega), if_neg (by omega)]
  rw [if_neg c1]
  by_cases c2 : k < m - i + i
  · rw [if_pos c2, if_pos (by omega)]
  rw [if_neg c2, if_neg (by omega)]
  by_cases c3 : k < m + i
  · rw [if_pos c3, if_pos (by omega)]
    congr 1; omega
  rw [if_neg c3, if_neg (by omega)]
theorem rot_none1 (F : Nat → Int) (m b : Nat) (h : m ≤ b) (k : Nat) : rot F m m b k = F k := by
  unfold rot
  by_cases c1 : k < m
  · rw [if_pos c1]
  rw [if_neg c1]
  by_cases c2 : k < m + (b - m)
  · rw [if_pos c2]; congr 1; omega
  rw [if_neg c2, if_neg (by omega)]
theorem rot_none2 (F : Nat → Int) (a m : Nat) (k : Nat) : rot F a m m k = F k := by
  unfold rot
  by_cases c1 : k < a
  · rw [if_pos c1]
  rw [if_neg c1, if_neg (by omega)]
  by_cases c2 : k < m
  · rw [if_pos c2]; congr 1; omega
  rw [if_neg c2]
theorem rot_off (F : Nat → Int) (a m b : Nat) (h1 : a ≤ m) (h2 : m ≤ b) : Off (rot F a m b) F a b := fun k hk => by
  unfold rot
  rcases hk with hk | hk
  · rw [if_pos hk]
  · rw [if_neg (by omega), if_neg (by omega), if_neg (by omega)]
theorem rot_left (F : Nat → Int) (a m b k : Nat) (h1 : a ≤ k) (h2 : k < a + (b - m)) : rot F a m b k = F (m + (k - a)) := by
  unfold rot; rw [if_neg (by omega), if_pos h2]
theorem rot_right (F : Nat → Int) (a m b k : Nat) (h1 : a + (b - m) ≤ k) (h2 : k < b) : rot F a m b k = F (a + (k - (a + (b - m)))) := by
  unfold rot; rw [if_neg (by omega), if_neg (by omega), if_pos h2]
theorem rot_same (F : Nat → Int) (a m b : Nat) (h1 : a ≤ m) (h2 : m ≤ b) : Same (rot F a m b) F a b := by
  refine ⟨fun k ha hb => ?_, fun k ha hb => ?_⟩
  · by_cases c : k < a + (b - m)
    · exact ⟨_, by omega, by omega, rot_left F a m b k ha c⟩
    · exact ⟨_, by omega, by omega, rot_right F a m b k (by omega) hb⟩
  · by_cases c : k < m
    · refine ⟨k + (b - m), by omega, by omega, ?_⟩
      rw [rot_right F a m b _ (by omega) (by omega)]
      congr 1; omega
    · refine ⟨a + (k - m), by omega, by omega, ?_⟩
      rw [rot_left F a m b _ (by omega) (by omega)]
      congr 1; omega
end Srt
end Go.Proofs.YtehopfpcikbaiaaDoor
