/- Plain mathematics of passes: what is right, a new one, one renewed, cut, replaced; what the laws say. -/
import Derived.Test.YtandlmnbnjkklaaGreatDoorSpnLawsToLeaf
import Derived.Test.YtandlmnbnjkklaaGreatDoorTFstToDtC
namespace Go.Proofs.YtandlmnbnjkklaaGreatDoor
namespace Pz
/-- a pass -/
structure Pq where
  id : Int
  born : Int
  a : Int
  b : Int
  ser : Int
  days : List Spn.Sp
def zero : Pq := ⟨0, 0, 0, 0, 0, []⟩
def same (p q : Pq) : Bool := decide (p.id = q.id) && (decide (p.born = q.born) && (decide (p.a = q.a) && (decide (p.b = q.b) && (decide (p.ser = q.ser) && decide (p.days = q.days)))))
theorem same_self (p : Pq) : same p p = true := by unfold same; simp
abbrev nb (p : Pq) : Prop := p.id < 1 ∨ 999999 < p.id ∨ p.born < 1 ∨ 3652059 < p.born ∨ p.a < 0 ∨ p.b < p.a ∨ 5 < p.b ∨ p.ser < 1 ∨ 999 < p.ser
def outB (l : List Spn.Sp) : Bool := l.any fun s => decide (s.1 < 1) || decide (3652059 < s.2)
def chk (p : Pq) : Int := if nb p then 3 else if Spn.chk p.days = 0 then (if outB p.days = true then 3 else 0) else Spn.chk p.days
structure Ok (p : Pq) : Prop where
  nums : ¬ nb p
  sp : Spn.chk p.days = 0
  ins : ∀ s ∈ p.days, 1 ≤ s.1 ∧ s.2 ≤ 3652059
theorem outB_no (l : List Spn.Sp) : outB l = false ↔ ∀ s ∈ l, 1 ≤ s.1 ∧ s.2 ≤ 3652059 := by
  unfold outB
  rw [List.any_eq_false]
  constructor
  · intro h s hs
    have := h s hs
    simp at this; omega
  · intro h s hs
    have := h s hs
    simp; omega
theorem chk_ok (p : Pq) : chk p = 0 ↔ Ok p := by
  unfold chk
  by_cases h1 : nb p
  · rw [if_pos h1]; exact ⟨fun e => absurd e (by decide), fun e => absurd h1 e.nums⟩
  · rw [if_neg h1]
    by_cases h2 : Spn.chk p.days = 0
    · rw [if_pos h2]
      cases h3 : outB p.days with
      | true =>
        rw [if_pos rfl]
        refine ⟨fun e => absurd e (by decide), fun e => ?_⟩
        have := (outB_no p.days).2 e.ins
        rw [h3] at this; cases this
      | false => rw [if_neg (by decide)]; exact ⟨fun _ => ⟨h1, h2, (outB_no _).1 h3⟩, fun _ => rfl⟩
    · rw [if_neg h2]; exact ⟨fun e => absurd e h2, fun e => absurd e.sp h2⟩
/-- the end of the first k spans, 0: there is none -/
def lastTo (l : List Spn.Sp) (k : Nat) : Int := if k = 0 then 0 else (l.getD (k - 1) (0, 0)).2
theorem lastTo_succ (l : List Spn.Sp) (k : Nat) (s : Spn.Sp) (h : l[k]? = some s) : lastTo l (k + 1) = s.2 := by
  unfold lastTo
  rw [if_neg (by omega), Nat.add_sub_cancel, List.getD_eq_getElem?_getD, h]; rfl
def pend (l : List Spn.Sp) : Int := lastTo l l.length
/-- no span ends behind the last one -/
theorem le_pend (l : List Spn.Sp) (h : Spn.canon l) : ∀ s ∈ l, s.2 ≤ pend l := by
  intro s hs
  obtain ⟨i, hi, rfl⟩ := List.mem_iff_getElem.1 hs
  have hp := (Spn.canon_iff_pair l).1 h
  obtain ⟨n, hn⟩ : ∃ n, l.length = n + 1 := ⟨l.length - 1, by omega⟩
  have hl : l[n]? = some l[n] := List.getElem?_eq_getElem (by omega)
  have e : pend l = (l[n]'(by omega)).2 := by
    have h9 := lastTo_succ l n _ hl
    unfold pend
    exact (congrArg (lastTo l) hn).trans h9
  rw [e]
  rcases Nat.lt_or_ge i n with c | c
  · have h1 := (List.pairwise_iff_getElem.1 hp.2) i n hi (by omega) c
    have h2 := hp.1 _ (List.getElem_mem (show n < l.length by omega))
    omega
  · have : i = n := by omega
    subst this
    exact Int.le_refl _
theorem pend_in {p : Pq} (h : Ok p) : 0 ≤ pend p.days ∧ pend p.days ≤ 3652059 := by
  unfold pend lastTo
  by_cases c : p.days.length = 0
  · rw [if_pos c]; omega
  · rw [if_neg c]
    have hl : p.days.length - 1 < p.days.length := by omega
    have hm := List.getElem_mem hl
    have h1 := h.ins _ hm
    have h2 := ((Spn.canon_iff_pair _).1 ((Spn.chk_zero _).1 h.sp).2.2).1 _ hm
    rw [List.getD_eq_getElem?_getD, List.getElem?_eq_getElem hl]
    show 0 ≤ (p.days[p.days.length - 1]).2 ∧ (p.days[p.days.length - 1]).2 ≤ 3652059
    omega
abbrev noD (n : Int) : Prop := n < 1 ∨ 3652059 < n
def new (id born a b s u n : Int) : Pq × Int :=
  if (Trm.nthF s u n 1).2 = 0 then (if chk ⟨id, born, a, b, 1, [(s, (Trm.nthF s u n 1).1)]⟩ = 0 then (⟨id, born, a, b, 1, [(s, (Trm.nthF s u n 1).1)]⟩, 0) else (zero, chk ⟨id, born, a, b, 1, [(s, (Trm.nthF s u n 1).1)]⟩)) else (zero, (Trm.nthF s u n 1).2)
/-- from where on a renewal counts -/
def from' (p : Pq) (n : Int) : Int := if pend p.days < n then n else pend p.days
def renewed (p : Pq) (x y : Int) : Pq := { p with days := Spn.ans 0 p.days [(x, y)] }
def renew (p : Pq) (n u t : Int) : Pq × Int × Int :=
  if chk p = 0 then (if noD n then (zero, 0, 3) else
    if (Trm.nthF (from' p n) u t 1).2 = 0 then
      (if Spn.code 0 p.days [(from' p n, (Trm.nthF (from' p n) u t 1).1)] = 0 then
        (if chk (renewed p (from' p n) (Trm.nthF (from' p n) u t 1).1) = 0 then (renewed p (from' p n) (Trm.nthF (from' p n) u t 1).1, (Trm.nthF (from' p n) u t 1).1 - from' p n, 0)
          else (zero, 0, chk (renewed p (from' p n) (Trm.nthF (from' p n) u t 1).1)))
      else (zero, 0, Spn.code 0 p.days [(from' p n, (Trm.nthF (from' p n) u t 1).1)]))
    else (zero, 0, (Trm.nthF (from' p n) u t 1).2)) else (zero, 0, chk p)
def cutS (n : Int) (s : Spn.Sp) : List Spn.Sp := if s.1 < (if n < s.2 then n else s.2) then [(s.1, if n < s.2 then n else s.2)] else []
def cutL (l : List Spn.Sp) (n : Int) : List Spn.Sp := l.flatMap (cutS n)
theorem cutL_take (l : List Spn.Sp) (k : Nat) (s : Spn.Sp) (h : l[k]? = some s) (n : Int) : cutL (l.take (k + 1)) n = cutL (l.take k) n ++ cutS n s := by
  have : l.take (k + 1) = l.take k ++ [s] := by rw [List.take_add_one, h]; rfl
  rw [this]; unfold cutL; rw [List.flatMap_append]; simp
def cutP (p : Pq) (n : Int) : Pq := { p with days := cutL p.days n }
def cut (p : Pq) (n : Int) : Pq × Int × Int := if chk p = 0 then (if noD n then (zero, 0, 3) else (cutP p n, Spn.size p.days - Spn.size (cutL p.days n), 0)) else (zero, 0, chk p)
def repl (p : Pq) : Pq × Int := if chk p = 0 then (if p.ser = 999 then (zero, 2) else ({ p with ser := p.ser + 1 }, 0)) else (zero, chk p)
def hasB (p : Pq) (n z : Int) : Bool := decide (chk p = 0) && (decide (p.a ≤ z ∧ z ≤ p.b) && Spn.memB p.days n)

/-! What a cut does. -/
theorem cut_mem (l : List Spn.Sp) (n k : Int) : Spn.memB (cutL l n) k = (Spn.memB l k && decide (k < n)) := by
  induction l with
  | nil => rfl
  | cons s l ih =>
    have e : cutL (s :: l) n = cutS n s ++ cutL l n := by unfold cutL; rw [List.flatMap_cons]
    have e2 : Spn.memB (cutS n s ++ cutL l n) k = (Spn.memB (cutS n s) k || Spn.memB (cutL l n) k) := by unfold Spn.memB; rw [List.any_append]
    rw [e, e2, ih, Spn.memB_cons, Bool.and_or_distrib_right]
    congr 1
    unfold cutS
    by_cases c : n < s.2
    · simp only [c, if_true]
      by_cases c2 : s.1 < n
      · simp only [c2, if_true]
        show ((decide (s.1 ≤ k) && decide (k < n)) || false) = _
        rw [Bool.or_false, Bool.eq_iff_iff]; simp; omega
      · simp only [c2, if_false]
        show false = _
        symm
        rw [Bool.eq_false_iff]; simp; omega
    · simp only [c, if_false]
      by_cases c2 : s.1 < s.2
      · simp only [c2, if_true]
        show ((decide (s.1 ≤ k) && decide (k < s.2)) || false) = _
        rw [Bool.or_false, Bool.eq_iff_iff]; simp; omega
      · simp only [c2, if_false]
        show false = _
        symm
        rw [Bool.eq_false_iff]; simp; omega
theorem cutS_len (n : Int) (s : Spn.Sp) : (cutS n s).length ≤ 1 := by
  unfold cutS
  by_cases c : s.1 < (if n < s.2 then n else s.2)
  · rw [if_pos c]; exact Nat.le_refl _
  · rw [if_neg c]; exact Nat.zero_le _
theorem cut_len (n : Int) : ∀ l : List Spn.Sp, (cutL l n).length ≤ l.length
  | [] => Nat.le_refl _
  | s :: l => by
    have h1 := cut_len n l
    have h2 := cutS_len n s
    have e : cutL (s :: l) n = cutS n s ++ cutL l n := by unfold cutL; rw [List.flatMap_cons]
    rw [e, List.length_append, List.length_cons]; omega
theorem cut_from (n : Int) : ∀ (l : List Spn.Sp) (lo : Int), Spn.canonFrom lo l → Spn.canonFrom lo (cutL l n)
  | [], _, _ => trivial
  | s :: l, lo, h => by
    obtain ⟨h1, h2, h3⟩ := h
    have e : cutL (s :: l) n = cutS n s ++ cutL l n := by unfold cutL; rw [List.flatMap_cons]
    have ih := cut_from n l s.2 h3
    rw [e]
    unfold cutS
    by_cases c : n < s.2
    · simp only [c, if_true]
      by_cases c2 : s.1 < n
      · simp only [c2, if_true]
        exact ⟨h1, c2, Spn.canonFrom_mono _ _ _ (by omega) ih⟩
      · simp only [c2, if_false]
        exact Spn.canonFrom_mono _ _ _ (by omega) ih
    · simp only [c, if_false, h2, if_true]
      exact ⟨h1, h2, ih⟩
theorem cut_canon (l : List Spn.Sp) (n : Int) (h : Spn.canon l) : Spn.canon (cutL l n) := by
  obtain ⟨lo, h⟩ := (Spn.canon_iff l).1 h
  exact (Spn.canon_iff _).2 ⟨lo, cut_from n l lo h⟩
theorem cut_in {l : List Spn.Sp} {n : Int} {s : Spn.Sp} (h : s ∈ cutL l n) : ∃ t ∈ l, s.1 = t.1 ∧ s.1 < s.2 ∧ s.2 ≤ t.2 := by
  unfold cutL at h
  rw [List.mem_flatMap] at h
  obtain ⟨t, ht, hs⟩ := h
  refine ⟨t, ht, ?_⟩
  unfold cutS at hs
  by_cases c : t.1 < (if n < t.2 then n else t.2)
  · rw [if_pos c] at hs
    rw [List.mem_singleton] at hs
    subst hs
    refine ⟨rfl, c, ?_⟩
    show (if n < t.2 then n else t.2) ≤ t.2
    split <;> omega
  · rw [if_neg c] at hs; cases hs
theorem far_no (n : Int) (h1 : -1099511627776 ≤ n) (h2 : n ≤ 1099511627776) : Spn.far n = false := by unfold Spn.far; simp; omega
theorem cut_ok {p : Pq} (h : Ok p) (n : Int) : Ok (cutP p n) := by
  obtain ⟨h1, _, h3⟩ := (Spn.chk_zero _).1 h.sp
  have hin : ∀ s ∈ cutL p.days n, 1 ≤ s.1 ∧ s.2 ≤ 3652059 ∧ s.1 < s.2 := fun s hs => by
    obtain ⟨t, ht, e, hlt, hle⟩ := cut_in hs
    have := h.ins t ht
    omega
  refine ⟨h.nums, (Spn.chk_zero _).2 ⟨Nat.le_trans (cut_len n _) h1, fun s hs => ?_, cut_canon _ n h3⟩, fun s hs => ⟨(hin s hs).1, (hin s hs).2.1⟩⟩
  have := hin s hs
  exact ⟨far_no _ (by omega) (by omega), far_no _ (by omega) (by omega)⟩
theorem cut_again {p : Pq} (h : Ok p) (n : Int) : cutL (cutL p.days n) n = cutL p.days n := by
  refine Spn.ext_chk _ _ (cut_ok (cut_ok h n) n).sp (cut_ok h n).sp fun k => ?_
  rw [cut_mem, cut_mem, Bool.and_assoc, Bool.and_self]

/-! What a renewal does. -/
structure Rn (p : Pq) (n u t x y : Int) : Prop where
  ex : from' p n = x
  ey : (Trm.nthF x u t 1).1 = y
  ok : Ok p
  up : x < y
  n1 : 1 ≤ n
  nx : n ≤ x
  px : pend p.days ≤ x
  top : y ≤ 3652059
  eq : renew p n u t = (renewed p x y, y - x, 0)
  new : Ok (renewed p x y)
  mem : ∀ k, Spn.memB (renewed p x y).days k = (Spn.memB p.days k || (decide (x ≤ k) && decide (k < y)))
theorem renew_is {p q : Pq} {n u t m : Int} (h : renew p n u t = (q, m, 0)) : ∃ x y, Rn p n u t x y ∧ q = renewed p x y ∧ m = y - x := by
  have h0 := h
  unfold renew at h
  by_cases c1 : chk p = 0
  · rw [if_pos c1] at h
    by_cases c2 : noD n
    · rw [if_pos c2] at h; exact absurd (congrArg (fun z => z.2.2) h) (show ¬ (3 : Int) = 0 by decide)
    · rw [if_neg c2] at h
      by_cases c3 : (Trm.nthF (from' p n) u t 1).2 = 0
      · rw [if_pos c3] at h
        by_cases c4 : Spn.code 0 p.days [(from' p n, (Trm.nthF (from' p n) u t 1).1)] = 0
        · rw [if_pos c4] at h
          by_cases c5 : chk (renewed p (from' p n) (Trm.nthF (from' p n) u t 1).1) = 0
          · rw [if_pos c5] at h
            have hok := (chk_ok p).1 c1
            have hpn := pend_in hok
            have hup : from' p n < (Trm.nthF (from' p n) u t 1).1 ∧ (Trm.nthF (from' p n) u t 1).1 ≤ 3652059 := by
              rcases Trm.nthF_is (from' p n) u t 1 with ⟨h3, h4⟩ | ⟨y, m', d, hv, hn, _, _, n1, _, _, _, h4⟩
              · rw [h4] at c3; exact absurd c3 h3
              · rw [h4] at c3 ⊢
                have hne : Trm.day y m' d u t 1 ≠ 0 := by
                  intro e
                  rw [e] at c3
                  exact absurd c3 (by decide)
                have h6 := (Trm.day_mono y m' d y m' d u t 0 1 hv hv n1 (Int.le_refl _) (by omega) (Int.le_refl _) hne).2.2 (by omega)
                rw [Trm.day_zero y m' d u t hv, hn] at h6
                have h7 := Trm.day_in y m' d u t 1 hv (by omega) n1
                exact ⟨h6, by rcases h7 with h7 | h7; exact absurd h7 hne; exact h7.2⟩
            have hfr : n ≤ from' p n ∧ pend p.days ≤ from' p n := by unfold from'; split <;> omega
            have hm := (Spn.ans_chk 0 _ _ c4).2
            refine ⟨_, _, ⟨rfl, rfl, hok, hup.1, by omega, hfr.1, hfr.2, hup.2, ?_, (chk_ok _).1 c5, fun k => ?_⟩, (congrArg Prod.fst h).symm, (congrArg (fun z => z.2.1) h).symm⟩
            · exact h0.trans h.symm
            · show Spn.memB (Spn.ans 0 p.days _) k = _
              rw [hm]
              unfold Spn.opB
              simp [Spn.memB]
          · rw [if_neg c5] at h; exact absurd (congrArg (fun z => z.2.2) h) c5
        · rw [if_neg c4] at h; exact absurd (congrArg (fun z => z.2.2) h) c4
      · rw [if_neg c3] at h; exact absurd (congrArg (fun z => z.2.2) h) c3
  · rw [if_neg c1] at h; exact absurd (congrArg (fun z => z.2.2) h) c1
theorem mem_below {p : Pq} (h : Ok p) {k : Int} (hk : Spn.memB p.days k = true) : k < pend p.days := by
  obtain ⟨s, hs, h1, h2⟩ := (Spn.memB_iff _ _).1 hk
  have := le_pend p.days ((Spn.chk_zero _).1 h.sp).2.2 s hs
  omega
theorem one_chk {x y : Int} (h : x < y) (h1 : 0 ≤ x) (h2 : y ≤ 3652059) : Spn.chk [(x, y)] = 0 :=
  (Spn.chk_zero _).2 ⟨by simp, fun s hs => by rw [List.mem_singleton] at hs; subst hs; exact ⟨far_no _ (by simp only; omega) (by simp only; omega), far_no _ (by simp only; omega) (by simp only; omega)⟩, h, trivial⟩
theorem Rn.size {p : Pq} {n u t x y : Int} (h : Rn p n u t x y) : Spn.size (renewed p x y).days = Spn.size p.days + (y - x) := by
  have h1 := h.up
  have h2 := h.n1
  have h3 := h.nx
  have := Spn.size_pair (renewed p x y).days [] p.days [(x, y)] h.new.sp (by decide) h.ok.sp (one_chk h1 (by omega) h.top) (fun k => by
    rw [h.mem k]
    have e : Spn.memB [(x, y)] k = (decide (x ≤ k) && decide (k < y)) := by unfold Spn.memB; simp
    rw [e]
    have e0 : Spn.memB [] k = false := rfl
    rw [e0]
    cases hm : Spn.memB p.days k with
    | false => cases (decide (x ≤ k) && decide (k < y)) <;> rfl
    | true =>
      have := mem_below h.ok hm
      have hpx := h.px
      have e2 : (decide (x ≤ k) && decide (k < y)) = false := by rw [Bool.eq_false_iff]; simp; omega
      rw [e2]; rfl)
  have e1 : Spn.size [] = 0 := rfl
  have e2 : Spn.size [(x, y)] = y - x := by unfold Spn.size; unfold Spn.size; omega
  rw [e1, e2] at this
  omega
theorem Rn.cut {p : Pq} {n u t x y : Int} (h : Rn p n u t x y) : cutL (renewed p x y).days x = p.days := by
  refine Spn.ext_chk _ _ (cut_ok h.new x).sp h.ok.sp fun k => ?_
  rw [cut_mem, h.mem k]
  cases hm : Spn.memB p.days k with
  | false =>
    rw [Bool.false_or, Bool.eq_false_iff]; simp; omega
  | true =>
    have := mem_below h.ok hm
    have hpx := h.px
    rw [Bool.true_or, Bool.true_and]; simp; omega
end Pz
end Go.Proofs.YtandlmnbnjkklaaGreatDoor
