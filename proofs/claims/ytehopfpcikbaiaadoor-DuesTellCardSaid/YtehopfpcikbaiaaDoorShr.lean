/- Plain mathematics of what is shared out: even parts, parts by weights by the greatest rests, and one by one. No program is named here. -/
import Derived.Test.YtehopfpcikbaiaaDoorSrt2
namespace Go.Proofs.YtehopfpcikbaiaaDoor
namespace Shr
/-- a sum over places -/
def sm (n : Nat) (f : Nat → Int) : Int := ((List.range n).map f).sum
theorem sm_zero (f : Nat → Int) : sm 0 f = 0 := rfl
theorem sm_succ (n : Nat) (f : Nat → Int) : sm (n + 1) f = sm n f + f n := by
  unfold sm; rw [List.range_succ, List.map_append, List.sum_append]; simp
theorem sm_congr (n : Nat) (f g : Nat → Int) (h : ∀ i, i < n → f i = g i) : sm n f = sm n g := by
  induction n with
  | zero => rfl
  | succ n ih => rw [sm_succ, sm_succ, ih (fun i hi => h i (by omega)), h n (by omega)]
theorem sm_add (n : Nat) (f g : Nat → Int) : sm n (fun i => f i + g i) = sm n f + sm n g := by
  induction n with
  | zero => rfl
  | succ n ih => rw [sm_succ, sm_succ, sm_succ, ih]; omega
theorem sm_mul (n : Nat) (c : Int) (f : Nat → Int) : sm n (fun i => c * f i) = c * sm n f := by
  induction n with
  | zero => rw [sm_zero, sm_zero, Int.mul_zero]
  | succ n ih => rw [sm_succ, sm_succ, ih, Int.mul_add]
theorem sm_le (n : Nat) (f g : Nat → Int) (h : ∀ i, i < n → f i ≤ g i) : sm n f ≤ sm n g := by
  induction n with
  | zero => exact Int.le_refl _
  | succ n ih =>
    rw [sm_succ, sm_succ]
    have := ih (fun i hi => h i (by omega))
    have := h n (by omega)
    omega
theorem sm_nonneg (n : Nat) (f : Nat → Int) (h : ∀ i, i < n → 0 ≤ f i) : 0 ≤ sm n f := by
  induction n with
  | zero => exact Int.le_refl _
  | succ n ih =>
    rw [sm_succ]
    have := ih (fun i hi => h i (by omega))
    have := h n (by omega)
    omega
theorem sm_at_le (n : Nat) (f : Nat → Int) (h : ∀ i, i < n → 0 ≤ f i) (i : Nat) (hi : i < n) : f i ≤ sm n f := by
  induction n with
  | zero => omega
  | succ n ih =>
    rw [sm_succ]
    have h0 := sm_nonneg n f (fun j hj => h j (by omega))
    by_cases e : i = n
    · subst e; omega
    · have := ih (fun j hj => h j (by omega)) (by omega)
      have := h n (by omega)
      omega
theorem sm_const (n : Nat) (c : Int) : sm n (fun _ => c) = n * c := by
  induction n with
  | zero => rw [sm_zero]; simp
  | succ n ih => rw [sm_succ, ih]; rw [Int.natCast_succ, Int.add_mul]; omega
def at' (l : List Int) (i : Nat) : Int := l.getD i 0
theorem map_at (l : List Int) : (List.range l.length).map (at' l) = l := by
  apply List.ext_getElem
  · simp
  · intro i h1 h2
    simp [at', h2]
theorem sum_at (l : List Int) : l.sum = sm l.length (at' l) := by unfold sm; rw [map_at]
theorem at_map (n : Nat) (f : Nat → Int) (i : Nat) (h : i < n) : at' ((List.range n).map f) i = f i := by
  unfold at'
  simp [h]
theorem take_sum (l : List Int) (k : Nat) (h : k ≤ l.length) : (l.take k).sum = sm k (at' l) := by
  induction k with
  | zero => simp [sm_zero]
  | succ k ih =>
    have hk : k < l.length := by omega
    have e : l.take (k + 1) = l.take k ++ [at' l k] := by
      rw [List.take_add_one, List.getElem?_eq_getElem hk]
      unfold at'
      rw [List.getD_eq_getElem?_getD, List.getElem?_eq_getElem hk]
      rfl
    rw [sm_succ, ← ih (by omega), e, List.sum_append]
    simp
/-- how many places -/
def cnt (n : Nat) (p : Nat → Bool) : Nat := (List.range n).countP p
theorem cnt_zero (p : Nat → Bool) : cnt 0 p = 0 := rfl
theorem cnt_succ (n : Nat) (p : Nat → Bool) : cnt (n + 1) p = cnt n p + if p n = true then 1 else 0 := by
  unfold cnt; rw [List.range_succ, List.countP_append]; simp [List.countP_cons]
theorem cnt_le (n : Nat) (p : Nat → Bool) : cnt n p ≤ n := by
  induction n with
  | zero => exact Nat.le_refl _
  | succ n ih => rw [cnt_succ]; split <;> omega
theorem cnt_mono (n : Nat) (p q : Nat → Bool) (h : ∀ i, i < n → p i = true → q i = true) : cnt n p ≤ cnt n q := by
  induction n with
  | zero => exact Nat.le_refl _
  | succ n ih =>
    rw [cnt_succ, cnt_succ]
    have := ih (fun i hi => h i (by omega))
    by_cases e : p n = true
    · rw [if_pos e, if_pos (h n (by omega) e)]; omega
    · rw [if_neg e]; omega
theorem cnt_congr (n : Nat) (p q : Nat → Bool) (h : ∀ i, i < n → p i = q i) : cnt n p = cnt n q := by
  induction n with
  | zero => rfl
  | succ n ih => rw [cnt_succ, cnt_succ, ih (fun i hi => h i (by omega)), h n (by omega)]
theorem cnt_lt (n j : Nat) (h : j ≤ n) : cnt n (fun k => decide (k < j)) = j := by
  induction n with
  | zero => rw [cnt_zero]; omega
  | succ n ih =>
    rw [cnt_succ]
    by_cases e : j ≤ n
    · rw [ih e, if_neg (by simp; omega)]
      omega
    · obtain rfl : j = n + 1 := by omega
      have : cnt n (fun k => decide (k < n + 1)) = n := by
        rw [cnt_congr n _ (fun k => decide (k < n)) (fun i hi => by simp; omega)]
        exact (show ∀ m, cnt m (fun k => decide (k < m)) = m by
          intro m
          have key : ∀ a, a ≤ m → cnt a (fun k => decide (k < m)) = a := by
            intro a
            induction a with
            | zero => intro _; rfl
            | succ a iha => intro ha; rw [cnt_succ, iha (by omega), if_pos (by simp; omega)]
          exact key m (Nat.le_refl _)) n
      rw [this, if_pos (by simp)]
theorem sm_cnt (n : Nat) (p : Nat → Bool) : sm n (fun i => if p i = true then 1 else 0) = cnt n p := by
  induction n with
  | zero => rfl
  | succ n ih => rw [sm_succ, cnt_succ, ih]; split <;> simp
/-- one strictly more -/
theorem cnt_strict (n : Nat) (p q : Nat → Bool) (h : ∀ i, i < n → p i = true → q i = true) (j : Nat) (hj : j < n) (hp : p j = false) (hq : q j = true) : cnt n p < cnt n q := by
  induction n with
  | zero => omega
  | succ n ih =>
    rw [cnt_succ, cnt_succ]
    by_cases e : j = n
    · subst e
      have := cnt_mono j p q (fun i hi => h i (by omega))
      rw [if_neg (by simp [hp]), if_pos hq]; omega
    · have := ih (fun i hi => h i (by omega)) (by omega)
      by_cases e2 : p n = true
      · rw [if_pos e2, if_pos (h n (by omega) e2)]; omega
      · rw [if_neg e2]; omega
/-- the places of a sorted row: each stands behind just as many as its place says -/
theorem perm_of {lt : Int → Int → Prop} (o : Srt.Ord lt) (G : Nat → Int) (n : Nat) (hs : Srt.Sorted lt G 0 n) (hm : Srt.Same G (fun k => (k : Int)) 0 n) : ((List.range n).map (fun k : Nat => (k : Int))).Perm ((List.range n).map G) := by
  have nd1 : ((List.range n).map (fun k : Nat => (k : Int))).Nodup := by
    unfold List.Nodup
    rw [List.pairwise_map]
    exact List.Pairwise.imp (fun h => by omega) (List.pairwise_lt_range (n := n))
  have nd2 : ((List.range n).map G).Nodup := by
    unfold List.Nodup
    rw [List.pairwise_map]
    refine List.Pairwise.imp_of_mem ?_ (List.pairwise_lt_range (n := n))
    intro a b ha hb hab e
    have := hs a b (Nat.zero_le _) hab (by simpa using hb)
    rw [e] at this
    exact o.ir _ this
  rw [List.perm_iff_count]
  intro a
  rw [nd1.count, nd2.count]
  have : a ∈ (List.range n).map (fun k : Nat => (k : Int)) ↔ a ∈ (List.range n).map G := by
    simp only [List.mem_map, List.mem_range]
    constructor
    · rintro ⟨k, hk, rfl⟩
      obtain ⟨k', _, h2, h3⟩ := hm.2 k (Nat.zero_le _) hk
      exact ⟨k', h2, h3.symm⟩
    · rintro ⟨k, hk, rfl⟩
      obtain ⟨k', _, h2, h3⟩ := hm.1 k (Nat.zero_le _) hk
      exact ⟨k', h2, h3.symm⟩
  simp [this]
theorem cnt_perm {lt : Int → Int → Prop} (o : Srt.Ord lt) (G : Nat → Int) (n : Nat) (hs : Srt.Sorted lt G 0 n) (hm : Srt.Same G (fun k => (k : Int)) 0 n) (p : Int → Bool) : cnt n (fun k => p (k : Int)) = cnt n (fun k => p (G k)) := by
  have h := (perm_of o G n hs hm).countP_eq p
  rw [List.countP_map, List.countP_map] at h
  exact h
theorem rank {ltb : Int → Int → Bool} (o : Srt.Ord (fun x y => ltb x y = true)) (G : Nat → Int) (n : Nat) (hs : Srt.Sorted (fun x y => ltb x y = true) G 0 n) (hm : Srt.Same G (fun k => (k : Int)) 0 n) (j : Nat) (hj : j < n) : cnt n (fun k => ltb (k : Int) (G j)) = j := by
  rw [cnt_perm o G n hs hm (fun x => ltb x (G j))]
  rw [cnt_congr n _ (fun k => decide (k < j)) (fun i hi => ?_), cnt_lt n j (by omega)]
  rw [Bool.eq_iff_iff, decide_eq_true_iff]
  constructor
  · intro h
    rcases Nat.lt_trichotomy i j with c | c | c
    · exact c
    · subst c; exact absurd h (o.ir _)
    · exact absurd h (o.asym (hs j i (Nat.zero_le _) c hi))
  · intro h; exact hs i j (Nat.zero_le _) h hj
theorem rank_cnt {ltb : Int → Int → Bool} (o : Srt.Ord (fun x y => ltb x y = true)) (G : Nat → Int) (n : Nat) (hs : Srt.Sorted (fun x y => ltb x y = true) G 0 n) (hm : Srt.Same G (fun k => (k : Int)) 0 n) (m : Nat) (hn : m ≤ n) :
    cnt n (fun i => decide (cnt n (fun k => ltb (k : Int) (i : Int)) < m)) = m := by
  rw [cnt_perm o G n hs hm (fun x => decide (cnt n (fun k => ltb (k : Int) x) < m))]
  rw [cnt_congr n _ (fun k => decide (k < m)) (fun i hi => by rw [rank o G n hs hm i hi]), cnt_lt n m hn]
/-- there is such a row -/
theorem sorted_ex {ltb : Int → Int → Bool} (o : Srt.Ord (fun x y => ltb x y = true)) (n : Nat) : ∃ G : Nat → Int, Srt.Sorted (fun x y => ltb x y = true) G 0 n ∧ Srt.Same G (fun k => (k : Int)) 0 n := by
  let le : Int → Int → Bool := fun x y => !ltb y x
  have htr : ∀ a b c, le a b = true → le b c = true → le a c = true := by
    intro a b c h1 h2
    simp only [le, Bool.not_eq_true'] at h1 h2 ⊢
    rw [← Bool.not_eq_true] at h1 h2 ⊢
    intro h
    by_cases e : a = b
    · subst e; exact h2 h
    · have h3 := o.of_not h1 (fun e' => e e'.symm)
      exact h2 (o.tr _ _ _ h h3)
  have hto : ∀ a b, (le a b || le b a) = true := by
    intro a b
    simp only [le]
    by_cases h : ltb b a = true
    · have h2 : ¬ ltb a b = true := o.asym h
      simp [h2]
    · simp [h]
  have hp := List.mergeSort_perm ((List.range n).map (fun k : Nat => (k : Int))) le
  have hpw := List.pairwise_mergeSort htr hto ((List.range n).map (fun k : Nat => (k : Int)))
  generalize ((List.range n).map (fun k : Nat => (k : Int))).mergeSort le = L at hp hpw
  have hlen : L.length = n := by simpa using hp.length_eq
  have nd : L.Nodup := by
    refine hp.nodup_iff.2 ?_
    unfold List.Nodup
    rw [List.pairwise_map]
    exact List.Pairwise.imp (fun h => by omega) (List.pairwise_lt_range (n := n))
  refine ⟨fun k => L.getD k 0, ?_, ?_, ?_⟩
  · intro i j _ hij hj
    have hi' : i < L.length := by omega
    have hj' : j < L.length := by omega
    have h1 := (List.pairwise_iff_getElem.1 hpw) i j hi' hj' hij
    have h2 := (List.pairwise_iff_getElem.1 nd) i j hi' hj' hij
    simp only [List.getD_eq_getElem?_getD, List.getElem?_eq_getElem hi', List.getElem?_eq_getElem hj', Option.getD_some]
    simp only [le, Bool.not_eq_true'] at h1
    rw [← Bool.not_eq_true] at h1
    exact o.of_not h1 (fun e => h2 e.symm)
  · intro k _ hk
    have hk' : k < L.length := by omega
    have : L[k] ∈ L := List.getElem_mem hk'
    rw [hp.mem_iff] at this
    simp only [List.mem_map, List.mem_range] at this
    obtain ⟨k', h1, h2⟩ := this
    exact ⟨k', Nat.zero_le _, h1, by simp [List.getElem?_eq_getElem hk', h2]⟩
  · intro k _ hk
    have : (k : Int) ∈ L := by
      rw [hp.mem_iff]
      simp only [List.mem_map, List.mem_range]
      exact ⟨k, hk, rfl⟩
    obtain ⟨k', h1, h2⟩ := List.getElem_of_mem this
    exact ⟨k', Nat.zero_le _, by omega, by simp [List.getElem?_eq_getElem h1, h2]⟩
end Shr
end Go.Proofs.YtehopfpcikbaiaaDoor
