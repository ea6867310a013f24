/- What the words of persons answer, of day numbers: relations, each with one answer. -/
import Derived.Test.YtfncfbbkkpdhkaaDoorPrs
namespace Go.Proofs.YtfncfbbkkpdhkaaDoor
namespace Prs
abbrev bad (s : Int) : Prop := s < 1 ∨ 3652059 < s
theorem date_of {s : Int} (h : ¬ bad s) : ∃ y m d, Cal.vld y m d ∧ Cal.num y m d = s := Cal.ex_date s (by unfold bad at h; omega) (by unfold bad at h; omega)
theorem not_bad {y m d s : Int} (h : Cal.vld y m d) (e : Cal.num y m d = s) : ¬ bad s := by
  have := Cal.num_in y m d h
  unfold bad; omega
/-! The date of a day number, looked for. -/
def down : Nat → List Int
  | 0 => []
  | n + 1 => ((n + 1 : Nat) : Int) :: down n
theorem mem_down (x : Int) : ∀ n : Nat, 1 ≤ x → x ≤ n → x ∈ down n
  | 0, h1, h2 => by omega
  | n + 1, h1, h2 => by
    by_cases h : x = ((n + 1 : Nat) : Int)
    · subst h; exact .head _
    · exact .tail _ (mem_down x n h1 (by omega))
def vb (y m d : Int) : Bool := decide (1 ≤ y) && (decide (y ≤ 9999) && (decide (1 ≤ m) && (decide (m ≤ 12) && (decide (1 ≤ d) && decide (d ≤ Cal.mlen y m)))))
theorem vb_iff (y m d : Int) : vb y m d = true ↔ Cal.vld y m d := by unfold vb Cal.vld; simp
def cands : List (Int × Int × Int) := (down 9999).flatMap fun y => (down 12).flatMap fun m => (down 31).map fun d => (y, m, d)
def dt (s : Int) : Option (Int × Int × Int) := cands.find? fun t => vb t.1 t.2.1 t.2.2 && decide (Cal.num t.1 t.2.1 t.2.2 = s)
theorem mem_cands {y m d : Int} (h : Cal.vld y m d) : (y, m, d) ∈ cands := by
  have hm := Cal.mlen_bd y m
  obtain ⟨h1, h2, h3, h4, h5, h6⟩ := h
  unfold cands
  rw [List.mem_flatMap]
  refine ⟨y, mem_down y _ h1 h2, ?_⟩
  rw [List.mem_flatMap]
  refine ⟨m, mem_down m _ h3 h4, ?_⟩
  rw [List.mem_map]
  exact ⟨d, mem_down d _ h5 (by omega), rfl⟩
theorem dt_is {y m d s : Int} (h : Cal.vld y m d) (e : Cal.num y m d = s) : dt s = some (y, m, d) := by
  cases hq : dt s with
  | none =>
    unfold dt at hq
    have := List.find?_eq_none.1 hq _ (mem_cands h)
    simp only [(vb_iff y m d).2 h, e, decide_true, Bool.and_self, not_true_eq_false] at this
  | some t =>
    obtain ⟨y', m', d'⟩ := t
    unfold dt at hq
    have hp := List.find?_some hq
    simp only [Bool.and_eq_true, decide_eq_true_eq] at hp
    obtain ⟨rfl, rfl, rfl⟩ := Cal.num_inj _ _ _ _ _ _ ((vb_iff _ _ _).1 hp.1) h (hp.2.trans e.symm)
    rfl
/-- the day on which somebody born on day s turns a -/
def tns (s a : Int) : Int := match dt s with
  | some t => tn t.1 t.2.1 t.2.2 a
  | none => 0
theorem tns_is {y m d s : Int} (h : Cal.vld y m d) (e : Cal.num y m d = s) (a : Int) : tns s a = tn y m d a := by
  unfold tns
  rw [dt_is h e]
def turnsE (s a : Int) : Int := if bad s ∨ a < 0 ∨ 150 < a then 3 else if tns s a = 0 then 8 else 0
def turnsV (s a : Int) : Int := if bad s ∨ a < 0 ∨ 150 < a then 0 else tns s a
/-- the age on a day, if it is told -/
def AgeAns (s n X E : Int) : Prop := ((bad s ∨ bad n) ∧ X = 0 ∧ E = 3) ∨ (¬ bad s ∧ ¬ bad n ∧ n < s ∧ X = 0 ∧ E = 4) ∨
  (¬ bad s ∧ ¬ bad n ∧ s ≤ n ∧ ∃ y m d a, Cal.vld y m d ∧ Cal.num y m d = s ∧ Age y m d n a ∧ ((150 < a ∧ X = 0 ∧ E = 2) ∨ (a ≤ 150 ∧ X = a ∧ E = 0)))
theorem age_ex (s n : Int) : ∃ X E, AgeAns s n X E := by
  by_cases h1 : bad s
  · exact ⟨0, 3, .inl ⟨.inl h1, rfl, rfl⟩⟩
  by_cases h2 : bad n
  · exact ⟨0, 3, .inl ⟨.inr h2, rfl, rfl⟩⟩
  by_cases h3 : n < s
  · exact ⟨0, 4, .inr (.inl ⟨h1, h2, h3, rfl, rfl⟩)⟩
  obtain ⟨y, m, d, v, e⟩ := date_of h1
  obtain ⟨yn, mn, dn, vn, en⟩ := date_of h2
  have := age_is y m d yn mn dn v vn (by omega)
  rw [en] at this
  by_cases h4 : 150 < byDate y m d yn n
  · exact ⟨0, 2, .inr (.inr ⟨h1, h2, by omega, y, m, d, _, v, e, this, .inl ⟨h4, rfl, rfl⟩⟩)⟩
  · exact ⟨_, 0, .inr (.inr ⟨h1, h2, by omega, y, m, d, _, v, e, this, .inr ⟨by omega, rfl, rfl⟩⟩)⟩
/-- of a day that is no earlier: the age by the dates -/
theorem age_one {s n X E y m d yn mn dn : Int} (h : AgeAns s n X E) (v : Cal.vld y m d) (e : Cal.num y m d = s) (vn : Cal.vld yn mn dn) (en : Cal.num yn mn dn = n) (hle : s ≤ n) :
    (150 < byDate y m d yn n ∧ X = 0 ∧ E = 2) ∨ (byDate y m d yn n ≤ 150 ∧ X = byDate y m d yn n ∧ E = 0) := by
  have ha := age_is y m d yn mn dn v vn (by omega)
  rw [en] at ha
  rcases h with ⟨h1 | h1, _⟩ | ⟨_, _, h1, _⟩ | ⟨_, _, _, y', m', d', a, v', e', ha', h2⟩
  · exact absurd h1 (not_bad v e)
  · exact absurd h1 (not_bad vn en)
  · omega
  · obtain ⟨rfl, rfl, rfl⟩ := Cal.num_inj _ _ _ _ _ _ v' v (e'.trans e.symm)
    rw [ha.uniq v ha']
    exact h2
/-- a class: from, to, percent -/
structure Kl where
  f : Int
  t : Int
  p : Int
abbrev Kl.bad (c : Kl) : Prop := c.f < 0 ∨ c.t < c.f ∨ 149 < c.t ∨ c.p < 0 ∨ 100 < c.p
def winE (s : Int) (c : Kl) : Int := if bad s ∨ c.bad then 3 else if tns s (c.t + 1) = 0 then 8 else 0
def winF (s : Int) (c : Kl) : Int := if winE s c = 0 then tns s c.f else 0
def winT (s : Int) (c : Kl) : Int := if winE s c = 0 then tns s (c.t + 1) else 0
theorem winE_zero {s : Int} {c : Kl} (h : winE s c = 0) : ¬ bad s ∧ ¬ c.bad ∧ tns s (c.t + 1) ≠ 0 := by
  unfold winE at h
  by_cases h1 : bad s ∨ c.bad
  · rw [if_pos h1] at h; exact absurd h (by decide)
  · rw [if_neg h1] at h
    by_cases h2 : tns s (c.t + 1) = 0
    · rw [if_pos h2] at h; exact absurd h (by decide)
    · exact ⟨fun e => h1 (.inl e), fun e => h1 (.inr e), h2⟩
/-- the first class whose window isn't told -/
def winsE (s : Int) : List Kl → Int
  | [] => 0
  | c :: r => if winE s c = 0 then winsE s r else winE s c
/-- the greatest percent of the classes of an age -/
def best (a : Int) (b : Int) : List Kl → Int
  | [] => b
  | c :: r => best a (if c.f ≤ a ∧ a ≤ c.t ∧ b < c.p then c.p else b) r
def pctE (s : Int) (l : List Kl) (n : Int) : Int := if 8 < l.length then 2 else if winsE s l = 0 then (if bad n then 3 else 0) else winsE s l
/-- what is off -/
def PctAns (s : Int) (l : List Kl) (n X E : Int) : Prop := E = pctE s l n ∧ ((E ≠ 0 ∧ X = 0) ∨ (E = 0 ∧ ∃ a e, AgeAns s n a e ∧ ((e = 0 ∧ X = best a 0 l) ∨ (e ≠ 0 ∧ X = 0))))
theorem pct_ex (s : Int) (l : List Kl) (n : Int) : ∃ X E, PctAns s l n X E := by
  by_cases h : pctE s l n = 0
  · obtain ⟨a, e, ha⟩ := age_ex s n
    by_cases he : e = 0
    · exact ⟨_, 0, h.symm, .inr ⟨rfl, a, e, ha, .inl ⟨he, rfl⟩⟩⟩
    · exact ⟨0, 0, h.symm, .inr ⟨rfl, a, e, ha, .inr ⟨he, rfl⟩⟩⟩
  · exact ⟨0, _, rfl, .inl ⟨h, rfl⟩⟩
theorem AgeAns.uniq {s n X E X' E' : Int} (h : AgeAns s n X E) (h' : AgeAns s n X' E') : X = X' ∧ E = E' := by
  by_cases hb : bad s ∨ bad n
  · have k : ∀ X E, AgeAns s n X E → X = 0 ∧ E = 3 := by
      intro X E h
      rcases h with h | h | h
      · exact h.2
      · rcases hb with hb | hb
        · exact absurd hb h.1
        · exact absurd hb h.2.1
      · rcases hb with hb | hb
        · exact absurd hb h.1
        · exact absurd hb h.2.1
    obtain ⟨h1, h2⟩ := k _ _ h
    obtain ⟨h3, h4⟩ := k _ _ h'
    exact ⟨h1.trans h3.symm, h2.trans h4.symm⟩
  by_cases hc : n < s
  · have k : ∀ X E, AgeAns s n X E → X = 0 ∧ E = 4 := by
      intro X E h
      rcases h with h | h | h
      · exact absurd h.1 hb
      · exact ⟨h.2.2.2.1, h.2.2.2.2⟩
      · have := h.2.2.1; omega
    obtain ⟨h1, h2⟩ := k _ _ h
    obtain ⟨h3, h4⟩ := k _ _ h'
    exact ⟨h1.trans h3.symm, h2.trans h4.symm⟩
  obtain ⟨y, m, d, v, e⟩ := date_of (fun q => hb (.inl q))
  obtain ⟨yn, mn, dn, vn, en⟩ := date_of (fun q => hb (.inr q))
  rcases age_one h v e vn en (by omega) with h1 | h1 <;> rcases age_one h' v e vn en (by omega) with h2 | h2 <;> omega
theorem PctAns.uniq {s : Int} {l : List Kl} {n X E X' E' : Int} (h : PctAns s l n X E) (h' : PctAns s l n X' E') : X = X' ∧ E = E' := by
  obtain ⟨e1, h⟩ := h
  obtain ⟨e2, h'⟩ := h'
  have he : E = E' := e1.trans e2.symm
  refine ⟨?_, he⟩
  rcases h with ⟨a1, a2⟩ | ⟨a1, a, e, ha, h⟩ <;> rcases h' with ⟨b1, b2⟩ | ⟨b1, a', e', ha', h'⟩
  · omega
  · omega
  · omega
  · obtain ⟨rfl, rfl⟩ := ha.uniq ha'
    rcases h with ⟨c1, c2⟩ | ⟨c1, c2⟩ <;> rcases h' with ⟨d1, d2⟩ | ⟨d1, d2⟩ <;> omega
end Prs
end Go.Proofs.YtfncfbbkkpdhkaaDoor
