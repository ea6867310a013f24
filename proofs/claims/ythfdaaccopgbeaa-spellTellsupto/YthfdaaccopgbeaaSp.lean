/- Bytes that are spelled, in plain mathematics: bits, numbers of so many bits, letters; what is written is read as it was. -/
import Derived.Test.YthfdaaccopgbeaaBase
namespace Go.Proofs.Ythfdaaccopgbeaa
namespace Sp

/-- the lowest k bits of a number, the highest of them first -/
def bt : Nat → Nat → List Bool
  | 0, _ => []
  | k + 1, n => n.testBit k :: bt k n
/-- the bits of numbers of k bits each -/
def flat (k : Nat) : List Nat → List Bool
  | [] => []
  | n :: ns => bt k n ++ flat k ns
/-- the number that bits are -/
def vl (a : Nat) : List Bool → Nat
  | [] => a
  | b :: l => vl (2 * a + b.toNat) l
/-- m numbers of k bits each, off the front -/
def chunk (k : Nat) : Nat → List Bool → List Nat
  | 0, _ => []
  | m + 1, l => vl 0 (l.take k) :: chunk k m (l.drop k)

theorem bt_length (k n : Nat) : (bt k n).length = k := by
  induction k with
  | zero => rfl
  | succ k ih => simp [bt, ih]
theorem bt_split (a b n : Nat) : bt (a + b) n = bt a (n / 2 ^ b) ++ bt b n := by
  induction a with
  | zero => simp [bt]
  | succ a ih =>
    rw [show a + 1 + b = (a + b) + 1 by omega]
    simp only [bt, List.cons_append]
    rw [ih, Nat.testBit_div_two_pow]
theorem bt_mod (k m n : Nat) (h : k ≤ m) : bt k (n % 2 ^ m) = bt k n := by
  induction k with
  | zero => rfl
  | succ k ih =>
    simp only [bt]
    rw [ih (by omega), Nat.testBit_mod_two_pow]
    simp; omega
theorem bt_zero (k : Nat) : bt k 0 = List.replicate k false := by
  induction k with
  | zero => rfl
  | succ k ih => simp [bt, ih, List.replicate_succ]
theorem vl_add (a : Nat) (l : List Bool) : vl a l = a * 2 ^ l.length + vl 0 l := by
  induction l generalizing a with
  | nil => simp [vl]
  | cons b l ih =>
    simp only [vl, List.length_cons]
    rw [ih (2 * a + b.toNat), ih (2 * 0 + b.toNat), Nat.pow_succ]
    generalize 2 ^ l.length = P
    rw [Nat.add_mul, Nat.mul_comm 2 a, Nat.mul_assoc a 2 P, Nat.mul_comm 2 P]
    simp; omega
theorem vl_lt (l : List Bool) : vl 0 l < 2 ^ l.length := by
  induction l with
  | nil => simp [vl]
  | cons b l ih =>
    simp only [vl, List.length_cons]
    rw [vl_add, Nat.pow_succ]
    generalize 2 ^ l.length = P at ih ⊢
    cases b <;> simp <;> omega
theorem vl_bt (a k n : Nat) : vl a (bt k n) = a * 2 ^ k + n % 2 ^ k := by
  induction k generalizing a with
  | zero => simp [vl, bt, Nat.mod_one]
  | succ k ih =>
    simp only [vl, bt]
    rw [ih, Nat.mod_pow_succ, Nat.pow_succ, Nat.toNat_testBit]
    generalize 2 ^ k = P
    rw [Nat.add_mul, Nat.mul_comm 2 a, Nat.mul_assoc a 2 P, Nat.mul_comm 2 P, Nat.mul_comm P (n / P % 2)]
    omega
theorem bt_vl (a : Nat) (l : List Bool) : bt l.length (vl a l) = l := by
  induction l generalizing a with
  | nil => rfl
  | cons b l ih =>
    simp only [vl, List.length_cons, bt]
    rw [ih]
    congr 1
    rw [Nat.testBit_eq_decide_div_mod_eq, vl_add]
    have h := vl_lt l
    rw [Nat.add_comm, Nat.add_mul_div_right _ _ (Nat.pow_pos (by decide)), Nat.div_eq_of_lt h]
    cases b <;> simp <;> omega
theorem flat_append (k : Nat) (a b : List Nat) : flat k (a ++ b) = flat k a ++ flat k b := by
  induction a with
  | nil => rfl
  | cons n a ih => simp [flat, ih]
theorem flat_length (k : Nat) (a : List Nat) : (flat k a).length = k * a.length := by
  induction a with
  | nil => rfl
  | cons n a ih => simp [flat, ih, bt_length, Nat.mul_add]; omega
theorem chunk_length (k m : Nat) (l : List Bool) : (chunk k m l).length = m := by
  induction m generalizing l with
  | zero => rfl
  | succ m ih => simp [chunk, ih]
theorem chunk_flat (k : Nat) (ns : List Nat) (r : List Bool) (h : ∀ n ∈ ns, n < 2 ^ k) : chunk k ns.length (flat k ns ++ r) = ns := by
  induction ns with
  | nil => rfl
  | cons n ns ih =>
    simp only [chunk, flat, List.length_cons, List.append_assoc]
    have e := bt_length k n
    rw [List.take_append_of_le_length (by omega), List.take_of_length_le (by omega), List.drop_append_of_le_length (by omega), List.drop_of_length_le (by omega), List.nil_append, ih (fun x hx => h x (by simp [hx])), vl_bt, Nat.mod_eq_of_lt (h n (by simp))]
    simp
theorem flat_chunk (k m : Nat) (l : List Bool) (h : k * m ≤ l.length) : flat k (chunk k m l) = l.take (k * m) := by
  induction m generalizing l with
  | zero => simp [chunk, flat]
  | succ m ih =>
    simp only [chunk, flat]
    have hk : k ≤ l.length := by rw [Nat.mul_add] at h; omega
    have e : (l.take k).length = k := by simp; omega
    have hb := bt_vl 0 (l.take k)
    rw [e] at hb
    rw [hb, ih _ (by simp; rw [Nat.mul_add] at h; omega), Nat.mul_add, Nat.mul_one, Nat.add_comm, List.take_add]
theorem chunk_lt (k m : Nat) (l : List Bool) : ∀ n ∈ chunk k m l, n < 2 ^ k := by
  induction m generalizing l with
  | zero => simp [chunk]
  | succ m ih =>
    intro n hn
    simp only [chunk, List.mem_cons] at hn
    rcases hn with rfl | hn
    · refine Nat.lt_of_lt_of_le (vl_lt _) (Nat.pow_le_pow_right (by decide) ?_)
      simp; omega
    · exact ih _ n hn

/-- numbers of 'a' bits each, put together anew as numbers of 'b' bits each; what is left are m bits, x -/
structure Grp (a b : Nat) (l fs : List Nat) (x m : Nat) : Prop where
  eq : flat a l = flat b fs ++ bt m x
  lt : x < 2 ^ m
  all : ∀ n ∈ fs, n < 2 ^ b
theorem Grp.len {a b : Nat} {l fs : List Nat} {x m : Nat} (h : Grp a b l fs x m) : a * l.length = b * fs.length + m := by
  have := congrArg List.length h.eq
  rw [List.length_append, flat_length, flat_length, bt_length] at this
  exact this
theorem Grp.nil (a b : Nat) : Grp a b [] [] 0 0 := ⟨rfl, by decide, by simp⟩
theorem Grp.more {a b : Nat} {l fs : List Nat} {x m : Nat} (h : Grp a b l fs x m) (n : Nat) (hn : n < 2 ^ a) : Grp a b (l ++ [n]) fs (x * 2 ^ a + n) (m + a) := by
  refine ⟨?_, ?_, h.all⟩
  · have hP : 0 < 2 ^ a := Nat.pow_pos (by decide)
    rw [flat_append, h.eq, bt_split, List.append_assoc]
    have e1 : (x * 2 ^ a + n) / 2 ^ a = x := by rw [Nat.add_comm, Nat.add_mul_div_right _ _ hP, Nat.div_eq_of_lt hn, Nat.zero_add]
    have e2 : bt a (x * 2 ^ a + n) = bt a n := by rw [← bt_mod a a _ (Nat.le_refl _), Nat.mul_add_mod_self_right, bt_mod _ _ _ (Nat.le_refl _)]
    rw [e1, e2]
    simp [flat]
  · have h1 := h.lt
    rw [Nat.pow_add]
    calc x * 2 ^ a + n < x * 2 ^ a + 2 ^ a := by omega
      _ = (x + 1) * 2 ^ a := by rw [Nat.add_mul, Nat.one_mul]
      _ ≤ 2 ^ m * 2 ^ a := Nat.mul_le_mul_right _ h1
theorem Grp.take {a b : Nat} {l fs : List Nat} {x k : Nat} (h : Grp a b l fs x (b + k)) : Grp a b l (fs ++ [x / 2 ^ k]) (x % 2 ^ k) k := by
  have h1 := h.lt
  have h2 : x / 2 ^ k < 2 ^ b := by rw [Nat.div_lt_iff_lt_mul (Nat.pow_pos (by decide)), ← Nat.pow_add]; exact h1
  refine ⟨?_, Nat.mod_lt _ (Nat.pow_pos (by decide)), ?_⟩
  · rw [h.eq, bt_split, flat_append, bt_mod _ _ _ (Nat.le_refl _)]
    simp [flat]
  · intro n hn
    rw [List.mem_append] at hn
    rcases hn with hn | hn
    · exact h.all n hn
    · rw [List.mem_singleton] at hn; subst hn; exact h2

/-- a text's bytes as numbers -/
def nat (l : List UInt8) : List Nat := l.map UInt8.toNat
theorem nat_lt (l : List UInt8) : ∀ n ∈ nat l, n < 256 := by
  intro n hn
  unfold nat at hn
  rw [List.mem_map] at hn
  obtain ⟨c, _, rfl⟩ := hn
  exact c.toNat_lt
theorem nat_length (l : List UInt8) : (nat l).length = l.length := by simp [nat]
theorem nat_back (l : List UInt8) : (nat l).map UInt8.ofNat = l := by
  unfold nat
  rw [List.map_map]
  conv => rhs; rw [← List.map_id l]
  apply List.map_congr_left
  intro c _
  simp
/-- so many letters spell n bytes -/
def cnt (n : Nat) : Nat := (8 * n + 4) / 5
def fv (l : List UInt8) : List Nat := chunk 5 (cnt l.length) (flat 8 (nat l) ++ List.replicate 4 false)
def LET : List UInt8 := [48, 49, 50, 51, 52, 53, 54, 55, 56, 57, 65, 66, 67, 68, 69, 70, 71, 72, 74, 75, 77, 78, 80, 81, 82, 83, 84, 86, 87, 88, 89, 90]
def letter (n : Nat) : UInt8 := LET.getD n 0
def wrl (l : List UInt8) : List UInt8 := if l.length ≤ 120 then (fv l).map letter else []
def wrc (l : List UInt8) : Int := if l.length ≤ 120 then 0 else 2
/-- a letter that is written otherwise: the one that it stands for -/
def fair (c : UInt8) : UInt8 :=
  let d := if 97 ≤ c.toNat ∧ c.toNat ≤ 122 then UInt8.ofNat (c.toNat - 32) else c
  if d.toNat = 79 then 48 else if d.toNat = 73 ∨ d.toNat = 76 then 49 else d
/-- a letter's number; 32: it says nothing; 33: it is none -/
def lt (c : UInt8) : Nat := if c.toNat = 45 then 32 else if LET.idxOf (fair c) < 32 then LET.idxOf (fair c) else 33
def keep (l : List UInt8) : List Nat := (l.map lt).filter (fun n => decide (n < 32))
def bad (l : List UInt8) : Bool := l.any (fun c => lt c == 33)
def sz (l : List UInt8) : Nat := 5 * (keep l).length / 8
def odd (n : Nat) : Bool := n % 8 == 1 || n % 8 == 3 || n % 8 == 6
def rdc (l : List UInt8) : Int :=
  if bad l = true then 1 else if odd (keep l).length = true then 1 else if 120 < sz l then 2
  else if ((flat 5 (keep l)).drop (8 * sz l)).any id = true then 1 else 0
def rdl (l : List UInt8) : List UInt8 := if rdc l = 0 then (chunk 8 (sz l) (flat 5 (keep l))).map UInt8.ofNat else []

theorem fv_length (l : List UInt8) : (fv l).length = cnt l.length := chunk_length _ _ _
theorem fv_lt (l : List UInt8) : ∀ n ∈ fv l, n < 32 := chunk_lt 5 _ _
theorem fv_flat (l : List UInt8) : ∃ p, p < 5 ∧ flat 5 (fv l) = flat 8 (nat l) ++ List.replicate p false := by
  have hc : cnt l.length = (8 * l.length + 4) / 5 := rfl
  refine ⟨5 * cnt l.length - 8 * l.length, by omega, ?_⟩
  unfold fv
  rw [flat_chunk _ _ _ (by rw [List.length_append, flat_length, nat_length, List.length_replicate]; omega)]
  rw [List.take_append, flat_length, nat_length, List.take_of_length_le (by rw [flat_length, nat_length]; omega), List.take_replicate]
  congr 2
  omega
/-- what is left is filled up with noughts -/
theorem fv_of (l : List UInt8) (fs : List Nat) (x m : Nat) (h : Grp 8 5 (nat l) fs x m) (hm : m < 5) :
    fv l = if m = 0 then fs else fs ++ [x * 2 ^ (5 - m)] := by
  have hlen := h.len
  rw [nat_length] at hlen
  have hc : cnt l.length = (8 * l.length + 4) / 5 := rfl
  have hall := h.all
  have hx := h.lt
  unfold fv
  rw [h.eq]
  by_cases h0 : m = 0
  · subst h0
    rw [if_pos rfl, show cnt l.length = fs.length by omega, List.append_assoc]
    exact chunk_flat 5 fs _ hall
  · rw [if_neg h0]
    have hp : bt m x ++ List.replicate 4 false = bt 5 (x * 2 ^ (5 - m)) ++ List.replicate (m - 1) false := by
      rw [show bt 5 (x * 2 ^ (5 - m)) = bt (m + (5 - m)) (x * 2 ^ (5 - m)) by rw [show m + (5 - m) = 5 by omega], bt_split]
      rw [Nat.mul_div_cancel _ (Nat.pow_pos (by decide))]
      rw [← bt_mod (5 - m) (5 - m) (x * 2 ^ (5 - m)) (Nat.le_refl _), Nat.mul_mod_left, bt_zero, List.append_assoc, List.replicate_append_replicate]
      rw [show 5 - m + (m - 1) = 4 by omega]
    rw [List.append_assoc, hp, ← List.append_assoc]
    have hf : flat 5 fs ++ bt 5 (x * 2 ^ (5 - m)) = flat 5 (fs ++ [x * 2 ^ (5 - m)]) := by rw [flat_append]; simp [flat]
    rw [hf, show cnt l.length = (fs ++ [x * 2 ^ (5 - m)]).length by simp; omega]
    apply chunk_flat
    intro n hn
    rw [List.mem_append, List.mem_singleton] at hn
    rcases hn with hn | rfl
    · exact hall n hn
    · calc x * 2 ^ (5 - m) < 2 ^ m * 2 ^ (5 - m) := Nat.mul_lt_mul_of_pos_right hx (Nat.pow_pos (by decide))
        _ = 2 ^ 5 := by rw [← Nat.pow_add, show m + (5 - m) = 5 by omega]
theorem lt_letter : ∀ n, n < 32 → lt (letter n) = n := by decide
theorem keep_letters (fs : List Nat) (h : ∀ n ∈ fs, n < 32) : keep (fs.map letter) = fs ∧ bad (fs.map letter) = false := by
  induction fs with
  | nil => exact ⟨rfl, rfl⟩
  | cons n fs ih =>
    have hn := h n (by simp)
    obtain ⟨i1, i2⟩ := ih (fun x hx => h x (by simp [hx]))
    unfold keep bad at *
    rw [List.map_cons, List.map_cons, lt_letter n hn, List.filter_cons, if_pos (by simpa using hn), i1, List.any_cons, i2, lt_letter n hn]
    refine ⟨rfl, ?_⟩
    simp; omega
theorem rd_congr {l l' : List UInt8} (h1 : bad l = bad l') (h2 : keep l = keep l') : rdc l = rdc l' ∧ rdl l = rdl l' := by
  have h3 : sz l = sz l' := by unfold sz; rw [h2]
  have h4 : rdc l = rdc l' := by unfold rdc; rw [h1, h2, h3]
  exact ⟨h4, by unfold rdl; rw [h4, h2, h3]⟩
theorem rd_of {l fs : List Nat} {t : List UInt8} {x m : Nat} (hk : keep t = fs) (hb : bad t = false) (ho : odd fs.length = false) (h120 : ¬ 120 < sz t) (h : Grp 5 8 fs l x m) (hm : m < 8) :
    (x ≠ 0 → rdc t = 1) ∧ (x = 0 → rdc t = 0 ∧ rdl t = l.map UInt8.ofNat) := by
  subst hk
  have hlen := h.len
  have hs : sz t = l.length := by unfold sz; omega
  have hd : (flat 5 (keep t)).drop (8 * sz t) = bt m x := by
    rw [hs, h.eq, List.drop_append_of_le_length (by rw [flat_length]; omega), List.drop_of_length_le (by rw [flat_length]; omega), List.nil_append]
  have hr : rdc t = if (bt m x).any id = true then 1 else 0 := by
    unfold rdc
    rw [hb, if_neg (by simp), ho, if_neg (by simp), if_neg h120, hd]
  have hx := h.lt
  constructor
  · intro h0
    rw [hr, if_pos]
    cases hany : (bt m x).any id with
    | true => rfl
    | false =>
      exfalso
      apply h0
      have e : bt m x = List.replicate m false := by
        apply List.eq_replicate_iff.2
        refine ⟨bt_length _ _, fun b hb => ?_⟩
        have := List.any_eq_false.1 hany b hb
        simpa using this
      have v := vl_bt 0 m x
      rw [e, ← bt_zero, vl_bt, Nat.mod_eq_of_lt hx] at v
      simpa using v.symm
  · intro h0
    subst h0
    rw [bt_zero] at hr
    have hz : rdc t = 0 := by rw [hr]; simp
    refine ⟨hz, ?_⟩
    unfold rdl
    rw [if_pos hz, hs, h.eq, chunk_flat 8 l _ h.all]
theorem cnt_odd (n : Nat) : odd (cnt n) = false := by
  unfold odd cnt
  have h : (8 * n + 4) / 5 % 8 ≠ 1 ∧ (8 * n + 4) / 5 % 8 ≠ 3 ∧ (8 * n + 4) / 5 % 8 ≠ 6 := by omega
  simp [h.1, h.2.1, h.2.2]
/-- what is written is read as it was -/
theorem back (l : List UInt8) (h : l.length ≤ 120) : rdc (wrl l) = 0 ∧ rdl (wrl l) = l := by
  obtain ⟨k1, k2⟩ := keep_letters (fv l) (fv_lt l)
  have e : wrl l = (fv l).map letter := if_pos h
  rw [← e] at k1 k2
  obtain ⟨p, hp, hf⟩ := fv_flat l
  have hc : cnt l.length = (8 * l.length + 4) / 5 := rfl
  have hs : sz (wrl l) = l.length := by unfold sz; rw [k1, fv_length]; omega
  have G : Grp 5 8 (fv l) (nat l) 0 p := ⟨by rw [hf, bt_zero], Nat.pow_pos (by decide), nat_lt l⟩
  have R := (rd_of k1 k2 (by rw [fv_length]; exact cnt_odd _) (by omega) G (by omega)).2 rfl
  rw [nat_back] at R
  exact R
theorem wrl_length (l : List UInt8) (h : l.length ≤ 120) : (wrl l).length = cnt l.length := by
  rw [show wrl l = (fv l).map letter from if_pos h, List.length_map, fv_length]
theorem rdc_zero {l : List UInt8} (h : rdc l = 0) : (rdl l).length = sz l ∧ sz l ≤ 120 := by
  refine ⟨by unfold rdl; rw [if_pos h, List.length_map, chunk_length], ?_⟩
  unfold rdc at h
  split at h
  · simp at h
  · split at h
    · simp at h
    · split at h
      · simp at h
      · omega
theorem rdl_err {l : List UInt8} (h : rdc l ≠ 0) : rdl l = [] := if_neg h
theorem wrl_err {l : List UInt8} (h : wrc l ≠ 0) : wrl l = [] := by
  unfold wrc at h
  split at h
  · simp at h
  · rename_i h1; exact if_neg h1
theorem wrc_zero {l : List UInt8} : wrc l = 0 ↔ l.length ≤ 120 := by
  unfold wrc
  split <;> simp <;> omega
theorem keep_length (l : List UInt8) : (keep l).length ≤ l.length := by
  unfold keep
  exact Nat.le_trans (List.length_filter_le _ _) (by simp)
/-- the fair spelling -/
theorem fairly {l : List UInt8} (h : rdc l = 0) : wrc (rdl l) = 0 ∧ rdc (wrl (rdl l)) = 0 ∧ rdl (wrl (rdl l)) = rdl l ∧ (wrl (rdl l)).length ≤ l.length := by
  obtain ⟨h1, h2⟩ := rdc_zero h
  have h3 : (rdl l).length ≤ 120 := by omega
  obtain ⟨b1, b2⟩ := back (rdl l) h3
  refine ⟨wrc_zero.2 h3, b1, b2, ?_⟩
  rw [wrl_length _ h3]
  have h4 := keep_length l
  have h5 : sz l = 5 * (keep l).length / 8 := rfl
  have h6 : cnt (rdl l).length = (8 * (rdl l).length + 4) / 5 := rfl
  omega
theorem dash (a b : List UInt8) : rdc (a ++ [45] ++ b) = rdc (a ++ b) ∧ rdl (a ++ [45] ++ b) = rdl (a ++ b) := by
  apply rd_congr
  · unfold bad; simp only [List.any_append]; rw [show ([45] : List UInt8).any (fun c => lt c == 33) = false by decide]; simp
  · unfold keep; simp only [List.map_append, List.filter_append]; rw [show (([45] : List UInt8).map lt).filter (fun n => decide (n < 32)) = [] by decide]; simp
def small (c : UInt8) : UInt8 := if 65 ≤ c.toNat ∧ c.toNat ≤ 90 then UInt8.ofNat (c.toNat + 32) else c
theorem all_bytes (p : UInt8 → Prop) (h : ∀ n, n < 256 → p (UInt8.ofNat n)) (c : UInt8) : p c := by
  have := h c.toNat c.toNat_lt
  simpa using this
set_option maxRecDepth 100000 in
theorem lt_small (c : UInt8) : lt (small c) = lt c := by
  apply all_bytes (fun c => lt (small c) = lt c)
  decide +kernel
theorem smaller (l : List UInt8) : rdc (l.map small) = rdc l ∧ rdl (l.map small) = rdl l := by
  have e : (l.map small).map lt = l.map lt := by rw [List.map_map]; apply List.map_congr_left; intro c _; exact lt_small c
  apply rd_congr
  · unfold bad; rw [List.any_map]; congr 1; funext c; simp [lt_small]
  · unfold keep; rw [e]
end Sp
end Go.Proofs.Ythfdaaccopgbeaa
