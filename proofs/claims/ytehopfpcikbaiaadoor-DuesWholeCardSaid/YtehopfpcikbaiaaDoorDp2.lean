/- Plain mathematics of a plan: all is due, on days of work that do not fall. -/
import Derived.Test.YtehopfpcikbaiaaDoorDuPl
import Derived.Test.YtehopfpcikbaiaaDoorWk3
namespace Go.Proofs.YtehopfpcikbaiaaDoor
namespace Dp
variable {R : Wk.Rst} {L : List Wk.Rl} {s u n : Int}
/-- of an instalment that has a day: it is a day of work, no earlier than the term's first day, and none of work lies between -/
theorem fk_is {k : Nat} (h : (fk R L s u n k).2 = 0) : ∃ y m d x, Cal.vld y m d ∧ Cal.num y m d = s ∧ 1 ≤ n ∧ Trm.day y m d u n k = x ∧ x ≠ 0 ∧ 1 ≤ x ∧ x ≤ (fk R L s u n k).1 ∧ (fk R L s u n k).1 ≤ 3651693 ∧ Wk.isB R L (fk R L s u n k).1 = true ∧ Wk.isC R L (fk R L s u n k).1 = 0 ∧
    ∀ j, x ≤ j → j < (fk R L s u n k).1 → Wk.isB R L j = false := by
  unfold fk at h ⊢
  by_cases h2 : (Trm.nthF s u n k).2 = 0
  · rw [if_pos h2] at h ⊢
    rcases Trm.nthF_is s u n k with ⟨h3, h4⟩ | ⟨y, m, d, hv, hn, _, _, n1, _, _, _, h4⟩
    · rw [h4] at h2; exact absurd h2 h3
    · rw [h4] at h2 h ⊢
      simp only at h2 h ⊢
      rcases Wk.told_next R L (Trm.day y m d u n k) with ⟨h5, _⟩ | ⟨x, hx, x1, x2, x3, x4, x5, x6⟩
      · exact absurd h h5
      · rw [hx]
        refine ⟨y, m, d, _, hv, hn, n1, rfl, ?_, x1, x2, x3, x4, x5, fun j a b => (x6 j a b).1⟩
        omega
  · rw [if_neg h2] at h
    exact absurd h h2
theorem fk_start {k : Nat} (h : (fk R L s u n k).2 = 0) : s ≤ (fk R L s u n k).1 := by
  obtain ⟨y, m, d, x, hv, hn, n1, hx, hx0, _, h1, _⟩ := fk_is h
  have := Trm.day_mono y m d y m d u n 0 k hv hv n1 (Int.le_refl _) (by omega) (Int.le_refl _) (by rw [hx]; exact hx0)
  rw [Trm.day_zero y m d u n hv, hn, hx] at this
  omega
theorem fk_rises {k : Nat} (h : (fk R L s u n k).2 = 0) (h' : (fk R L s u n (k + 1)).2 = 0) : (fk R L s u n k).1 ≤ (fk R L s u n (k + 1)).1 := by
  obtain ⟨y, m, d, x, hv, hn, n1, hx, hx0, _, h1, _, _, _, hno⟩ := fk_is h
  obtain ⟨y', m', d', x', hv', hn', _, hx', hx0', _, h1', _, hw, _, _⟩ := fk_is h'
  obtain ⟨rfl, rfl, rfl⟩ := Cal.num_inj _ _ _ _ _ _ hv' hv (hn'.trans hn.symm)
  have := (Trm.day_mono y' m' d' y' m' d' u n k (k + 1 : Nat) hv hv n1 (by omega) (by omega) (Int.le_refl _) (by rw [hx']; exact hx0')).2.1
  rw [hx, hx'] at this
  rcases Int.lt_or_le (fk R L s u n (k + 1)).1 (fk R L s u n k).1 with q | q
  · have := hno _ (by omega) q
    rw [hw] at this; cases this
  · exact q
theorem pL_at (f : Nat → Int × Int) (xs : List Int) (k i : Nat) (hi : i < k) : (pL f xs k)[i]? = some ((f i).1, xs.getD i 0) := by
  unfold pL; simp [hi]
theorem pL_all (f : Nat → Int × Int) (xs : List Int) (k : Nat) : all (pL f xs k) = Shr.sm k (fun j => xs.getD j 0) := by
  unfold all pL Shr.sm
  rw [List.map_map]
  rfl
theorem le_all : ∀ (l : List Du), (∀ x ∈ l, 0 ≤ x.2) → (∀ x ∈ l, x.2 ≤ all l) ∧ 0 ≤ all l
  | [], _ => ⟨fun x hx => (by cases hx), by unfold all; simp⟩
  | y :: l, h => by
    obtain ⟨h1, h2⟩ := le_all l (fun x hx => h x (.tail _ hx))
    have h3 := h y (.head _)
    have e : all (y :: l) = y.2 + all l := by unfold all; rw [List.map_cons, List.sum_cons]
    refine ⟨fun x hx => ?_, by omega⟩
    rcases List.mem_cons.1 hx with rfl | hx
    · omega
    · have := h1 x hx; omega
/-- a plan that is told -/
structure Whole (R : Wk.Rst) (L : List Wk.Rl) (s T m : Int) (l : List Du) : Prop where
  len : (l.length : Int) = m
  pos : 0 < l.length
  few : l.length ≤ 32
  each : ∀ (i : Nat) (x p : Du), l[i]? = some x → l[0]? = some p → Wk.isB R L x.1 = true ∧ Wk.isC R L x.1 = 0 ∧ s ≤ x.1 ∧ x.2 ≤ p.2 ∧ p.2 - 1 ≤ x.2 ∧ 0 ≤ x.2 ∧ x.2 ≤ 1099511627776
  rises : ∀ (i : Nat) (x y : Du), l[i]? = some x → l[i + 1]? = some y → x.1 ≤ y.1
  all : all l = T
  ok : chk l = 0
theorem whole {T m : Int} {l : List Du} (h : plan (fk R L s u n) (Shr.evn T m) (Shr.ecode T m) = (l, 0)) : Whole R L s T m l := by
  have hc : Shr.ecode T m = 0 := by
    unfold plan at h
    by_cases c : Shr.ecode T m = 0
    · exact c
    · rw [if_neg c] at h; exact absurd (congrArg Prod.snd h) c
  obtain ⟨t0, t1, m0, m1⟩ := (Shr.ecode_zero T m).1 hc
  obtain ⟨M, rfl⟩ := Int.eq_ofNat_of_zero_le (show 0 ≤ m by omega)
  have hxs : Shr.evn T (M : Int) = (List.range M).map (Shr.evnAt T M) := by unfold Shr.evn; rw [if_pos hc]; rfl
  have hlen : (Shr.evn T (M : Int)).length = M := by rw [hxs]; simp
  have hget : ∀ i, i < M → (Shr.evn T (M : Int)).getD i 0 = Shr.evnAt T M i := fun i hi => by rw [hxs]; simp [hi]
  unfold plan at h
  rw [if_pos hc, hlen] at h
  have hp : pE (fk R L s u n) 0 M = 0 := by
    by_cases c : pE (fk R L s u n) 0 M = 0
    · exact c
    · rw [if_neg c] at h; exact absurd (congrArg Prod.snd h) c
  rw [if_pos hp] at h
  have hl : pL (fk R L s u n) (Shr.evn T (M : Int)) M = l := congrArg Prod.fst h
  have hf : ∀ i, i < M → (fk R L s u n i).2 = 0 := fun i hi => pE_zero _ M 0 hp i (by omega) (by omega)
  have hll : l.length = M := by rw [← hl, pL_len]
  have hat : ∀ i, i < M → l[i]? = some ((fk R L s u n i).1, Shr.evnAt T M i) := fun i hi => by rw [← hl, pL_at _ _ _ _ hi, hget i hi]
  have hlt : ∀ (i : Nat) (x : Du), l[i]? = some x → i < M := fun i x hx => by
    rcases Nat.lt_or_ge i l.length with c | c
    · omega
    · rw [List.getElem?_eq_none c] at hx; cases hx
  have hall : all l = T := by
    rw [← hl, pL_all, Shr.sm_congr M _ (Shr.evnAt T M) (fun i hi => hget i hi)]
    exact Shr.evn_sum T M (by omega)
  have hnn : ∀ x ∈ l, 0 ≤ x.2 := fun x hx => by
    obtain ⟨i, hi, rfl⟩ := List.mem_iff_getElem.1 hx
    have := hat i (by omega)
    rw [List.getElem?_eq_getElem hi] at this
    rw [Option.some.inj this]
    exact (Shr.evn_bd T M t0 i).1
  have hle := (le_all l hnn).1
  rw [hall] at hle
  have heach : ∀ (i : Nat) (x p : Du), l[i]? = some x → l[0]? = some p → Wk.isB R L x.1 = true ∧ Wk.isC R L x.1 = 0 ∧ s ≤ x.1 ∧ x.2 ≤ p.2 ∧ p.2 - 1 ≤ x.2 ∧ 0 ≤ x.2 ∧ x.2 ≤ 1099511627776 := by
    intro i x p hx hp0
    have hi := hlt i x hx
    have hxm := hle x (List.mem_of_getElem? hx)
    have e1 := (hat i hi).symm.trans hx
    have e2 := (hat 0 (by omega)).symm.trans hp0
    obtain rfl := Option.some.inj e1
    obtain rfl := Option.some.inj e2
    obtain ⟨_, _, _, _, _, _, _, _, _, _, _, _, hB, hC, _⟩ := fk_is (hf i hi)
    have hb := Shr.evn_bd T M t0 i
    exact ⟨hB, hC, fk_start (hf i hi), hb.2.1, hb.2.2, hb.1, by simp only at hxm ⊢; omega⟩
  have hrise : ∀ (i : Nat) (x y : Du), l[i]? = some x → l[i + 1]? = some y → x.1 ≤ y.1 := by
    intro i x y hx hy
    have hi := hlt (i + 1) y hy
    obtain rfl := Option.some.inj ((hat i (by omega)).symm.trans hx)
    obtain rfl := Option.some.inj ((hat (i + 1) hi).symm.trans hy)
    exact fk_rises (hf i (by omega)) (hf (i + 1) hi)
  refine ⟨by omega, by omega, by omega, heach, hrise, hall, (chk_ok l).2 ⟨by omega, fun x hx => ?_, hrise⟩⟩
  obtain ⟨i, hi, rfl⟩ := List.mem_iff_getElem.1 hx
  have hx := List.getElem?_eq_getElem hi
  have h0 := hat 0 (by omega)
  have he := heach i _ _ hx h0
  obtain e1 := Option.some.inj ((hat i (by omega)).symm.trans hx)
  obtain ⟨_, _, _, x0, _, _, _, _, _, hx1, hx2, hx3, _⟩ := fk_is (hf i (by omega))
  rw [← e1] at he ⊢
  simp only at he ⊢
  omega
end Dp
end Go.Proofs.YtehopfpcikbaiaaDoor
