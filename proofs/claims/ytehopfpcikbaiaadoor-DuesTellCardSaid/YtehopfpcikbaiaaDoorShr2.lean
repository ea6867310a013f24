/- Plain mathematics of what is shared out, the second part: what each call answers, and what the document promises of it. No program is named here. -/
import Derived.Test.YtehopfpcikbaiaaDoorShr
namespace Go.Proofs.YtehopfpcikbaiaaDoor
namespace Shr
def wok (w : Int) : Bool := decide (0 ≤ w) && decide (w ≤ 100000)
theorem wok_yes (w : Int) (h : wok w = true) : 0 ≤ w ∧ w ≤ 100000 := by simpa [wok] using h
theorem wok_no (w : Int) (h : wok w = false) : w < 0 ∨ 100000 < w := by simp [wok] at h; omega
def bad (l : List Int) : Bool := l.any fun w => !wok w
theorem bad_take_succ (l : List Int) (k : Nat) (x : Int) (h : l[k]? = some x) (h0 : bad (l.take k) = false) (hx : wok x = true) : bad (l.take (k + 1)) = false := by
  rw [List.take_add_one, h]
  show bad (l.take k ++ [x]) = false
  unfold bad at *
  rw [List.any_append, h0]; simp [hx]
theorem bad_at (l : List Int) (k : Nat) (x : Int) (h : l[k]? = some x) (hx : wok x = false) : bad l = true := by
  unfold bad; rw [List.any_eq_true]; exact ⟨x, List.mem_of_getElem? h, by simp [hx]⟩
theorem bad_get (l : List Int) (h : bad l = false) (i : Nat) : 0 ≤ at' l i ∧ at' l i ≤ 100000 := by
  unfold at'
  by_cases hi : i < l.length
  · unfold bad at h
    rw [List.any_eq_false] at h
    have := h l[i] (List.getElem_mem hi)
    rw [List.getD_eq_getElem?_getD, List.getElem?_eq_getElem hi]
    exact wok_yes _ (by simpa using this)
  · rw [List.getD_eq_getElem?_getD, List.getElem?_eq_none (by omega)]; decide
theorem bad_sum (l : List Int) (h : bad l = false) (k : Nat) : 0 ≤ sm k (at' l) ∧ sm k (at' l) ≤ k * 100000 := by
  refine ⟨sm_nonneg k _ (fun i _ => (bad_get l h i).1), ?_⟩
  rw [← sm_const k 100000]
  exact sm_le k _ _ (fun i _ => (bad_get l h i).2)
theorem bad_take (l : List Int) (h : bad l = false) (k : Nat) : bad (l.take k) = false := by
  unfold bad at *
  rw [List.any_eq_false] at *
  exact fun x hx => h x (List.mem_of_mem_take hx)
/-- the error of a call by weights -/
def code (T : Int) (l : List Int) : Int := if 32 < l.length then 2 else if T < 0 ∨ 100000 < T then 3 else if bad l = true then 3 else if l.sum = 0 then 5 else 0
structure Ok (T : Int) (l : List Int) : Prop where
  len : l.length ≤ 32
  t0 : 0 ≤ T
  t1 : T ≤ 100000
  bad : bad l = false
  sum : 0 < l.sum
theorem ok_of (T : Int) (l : List Int) (h : code T l = 0) : Ok T l := by
  unfold code at h
  by_cases h1 : 32 < l.length
  · rw [if_pos h1] at h; exact absurd h (by decide)
  rw [if_neg h1] at h
  by_cases h2 : T < 0 ∨ 100000 < T
  · rw [if_pos h2] at h; exact absurd h (by decide)
  rw [if_neg h2] at h
  by_cases h3 : bad l = true
  · rw [if_pos h3] at h; exact absurd h (by decide)
  rw [if_neg h3] at h
  by_cases h4 : l.sum = 0
  · rw [if_pos h4] at h; exact absurd h (by decide)
  have hb : bad l = false := by simpa using h3
  exact ⟨by omega, by omega, by omega, hb, by have := (bad_sum l hb l.length).1; rw [← sum_at] at this; omega⟩
theorem code_bd (T : Int) (l : List Int) : 0 ≤ code T l ∧ code T l ≤ 5 := by
  unfold code
  repeat' split
  all_goals decide
theorem Ok.n0 {T : Int} {l : List Int} (h : Ok T l) : 0 < l.length := by
  have := h.sum
  cases l with
  | nil => simp at this
  | cons => simp
theorem Ok.sum1 {T : Int} {l : List Int} (h : Ok T l) : l.sum ≤ 3200000 := by
  have := (bad_sum l h.bad l.length).2
  rw [← sum_at] at this
  have := h.len
  omega
theorem Ok.get {T : Int} {l : List Int} (h : Ok T l) (i : Nat) : 0 ≤ at' l i ∧ at' l i ≤ 100000 := bad_get l h.bad i
theorem mul_bd (a b A B : Int) (a0 : 0 ≤ a) (a1 : a ≤ A) (b0 : 0 ≤ b) (b1 : b ≤ B) : 0 ≤ a * b ∧ a * b ≤ A * B :=
  ⟨Int.mul_nonneg a0 b0, Int.le_trans (Int.mul_le_mul_of_nonneg_left b1 a0) (Int.mul_le_mul_of_nonneg_right a1 (by omega))⟩
theorem Ok.prod {T : Int} {l : List Int} (h : Ok T l) (i : Nat) : 0 ≤ T * at' l i ∧ T * at' l i ≤ 10000000000 :=
  mul_bd T (at' l i) 100000 100000 h.t0 h.t1 (h.get i).1 (h.get i).2
/-- quota downward, rest -/
def q (T : Int) (l : List Int) (i : Nat) : Int := T * at' l i / l.sum
def rs (T : Int) (l : List Int) (i : Nat) : Int := T * at' l i % l.sum
theorem Ok.qr {T : Int} {l : List Int} (h : Ok T l) (i : Nat) : T * at' l i = l.sum * q T l i + rs T l i ∧ 0 ≤ rs T l i ∧ rs T l i < l.sum ∧ 0 ≤ q T l i := by
  unfold q rs
  have hs := h.sum
  have hp := (h.prod i).1
  refine ⟨(Int.mul_ediv_add_emod _ _).symm, Int.emod_nonneg _ (by omega), Int.emod_lt_of_pos _ hs, Int.ediv_nonneg hp (by omega)⟩
theorem Ok.q_le {T : Int} {l : List Int} (h : Ok T l) (i : Nat) : q T l i ≤ 10000000000 := by
  obtain ⟨h1, h2, h3, h4⟩ := h.qr i
  have hs := h.sum
  have hp := (h.prod i).2
  have h5 : 1 * q T l i ≤ l.sum * q T l i := Int.mul_le_mul_of_nonneg_right (by omega) h4
  omega
def left (T : Int) (l : List Int) : Int := T - sm l.length (q T l)
theorem Ok.rests {T : Int} {l : List Int} (h : Ok T l) : l.sum * left T l = sm l.length (rs T l) := by
  have e : T * l.sum = l.sum * sm l.length (q T l) + sm l.length (rs T l) := by
    rw [← sm_mul, ← sm_add]
    conv => lhs; rw [sum_at]
    rw [← sm_mul]
    exact sm_congr _ _ _ (fun i _ => (h.qr i).1)
  unfold left
  rw [Int.mul_sub, Int.mul_comm l.sum T]
  omega
theorem rests_le (n : Nat) (f : Nat → Int) (S : Int) (hf : ∀ i, i < n → 0 ≤ f i ∧ f i < S) : sm n f ≤ (S - 1) * (cnt n (fun i => decide (0 < f i)) : Nat) := by
  induction n with
  | zero => rw [sm_zero, cnt_zero]; simp
  | succ n ih =>
    rw [sm_succ, cnt_succ]
    have h1 := ih (fun i hi => hf i (by omega))
    have h2 := hf n (by omega)
    by_cases e : 0 < f n
    · rw [if_pos (by simpa using e), Int.natCast_add, Int.mul_add]
      simp
      omega
    · rw [if_neg (by simpa using e)]
      simp
      omega
def pos (T : Int) (l : List Int) : Nat := cnt l.length (fun i => decide (0 < rs T l i))
theorem Ok.left_pos {T : Int} {l : List Int} (h : Ok T l) : 0 ≤ left T l ∧ (left T l = 0 ∨ left T l < (pos T l : Nat)) := by
  have hs := h.sum
  have hr := h.rests
  have h0 : 0 ≤ sm l.length (rs T l) := sm_nonneg _ _ (fun i _ => (h.qr i).2.1)
  have h1 : sm l.length (rs T l) ≤ (l.sum - 1) * (pos T l : Nat) := rests_le _ _ _ (fun i _ => ⟨(h.qr i).2.1, (h.qr i).2.2.1⟩)
  have hl : 0 ≤ left T l := by
    by_cases c : 0 ≤ left T l
    · exact c
    · exfalso
      have : l.sum * left T l < l.sum * 0 := Int.mul_lt_mul_of_pos_left (by omega) hs
      omega
  refine ⟨hl, ?_⟩
  by_cases c : left T l < (pos T l : Nat)
  · exact .inr c
  · left
    have h2 : (l.sum - 1) * (pos T l : Nat) ≤ (l.sum - 1) * left T l := Int.mul_le_mul_of_nonneg_left (by omega) (by omega)
    have e2 : (l.sum - 1) * left T l = l.sum * left T l - left T l := by rw [Int.sub_mul, Int.one_mul]
    omega
theorem Ok.left_n {T : Int} {l : List Int} (h : Ok T l) : left T l ≤ l.length := by
  have h1 := h.left_pos
  have h2 : pos T l ≤ l.length := cnt_le _ _
  omega
/-- who stands ahead of whom -/
def ltb (T : Int) (l : List Int) (x y : Int) : Bool := decide (rs T l y.toNat < rs T l x.toNat) || (decide (rs T l x.toNat = rs T l y.toNat) && decide (x < y))
theorem ltb_iff (T : Int) (l : List Int) (x y : Int) : ltb T l x y = true ↔ (rs T l y.toNat < rs T l x.toNat ∨ (rs T l x.toNat = rs T l y.toNat ∧ x < y)) := by simp [ltb]
theorem ord (T : Int) (l : List Int) : Srt.Ord (fun x y => ltb T l x y = true) := by
  refine ⟨fun x y z h1 h2 => ?_, fun x h => ?_, fun x y h => ?_⟩
  · rw [ltb_iff] at *; omega
  · rw [ltb_iff] at h; omega
  · rw [ltb_iff, ltb_iff]; omega
def ahead (T : Int) (l : List Int) (i : Nat) : Nat := cnt l.length (fun k => ltb T l (k : Int) (i : Int))
def hamAt (T : Int) (l : List Int) (i : Nat) : Int := q T l i + if (ahead T l i : Int) < left T l then 1 else 0
def ham (T : Int) (l : List Int) : List Int := if code T l = 0 then (List.range l.length).map (hamAt T l) else []
theorem Ok.rest_pos {T : Int} {l : List Int} (h : Ok T l) (i : Nat) (hi : (ahead T l i : Int) < left T l) : 0 < rs T l i := by
  have h0 := (h.qr i).2.1
  have h1 := h.left_pos
  by_cases c : 0 < rs T l i
  · exact c
  · exfalso
    have : pos T l ≤ ahead T l i := cnt_mono _ _ _ (fun k _ hk => by
      rw [ltb_iff]
      simp only [decide_eq_true_eq] at hk
      left
      simp only [Int.toNat_natCast]
      omega)
    omega
theorem Ok.ham_sum {T : Int} {l : List Int} (h : Ok T l) : sm l.length (hamAt T l) = T := by
  obtain ⟨G, hs, hm⟩ := sorted_ex (ord T l) l.length
  have h1 := rank_cnt (ord T l) G l.length hs hm (left T l).toNat (by have := h.left_n; have := h.left_pos; omega)
  have e : sm l.length (hamAt T l) = sm l.length (q T l) + sm l.length (fun i => if (decide (cnt l.length (fun k => ltb T l (k : Int) (i : Int)) < (left T l).toNat)) = true then 1 else 0) := by
    rw [← sm_add]
    refine sm_congr _ _ _ (fun i _ => ?_)
    unfold hamAt ahead
    have := h.left_pos
    by_cases c : (cnt l.length (fun k => ltb T l (k : Int) (i : Int)) : Int) < left T l
    · rw [if_pos c, if_pos (by simp; omega)]
    · rw [if_neg c, if_neg (by simp; omega)]
  rw [e, sm_cnt, h1]
  have := h.left_pos
  unfold left at *
  omega
theorem Ok.ham_bd {T : Int} {l : List Int} (h : Ok T l) (i : Nat) (hi : i < l.length) : 0 ≤ hamAt T l i ∧ hamAt T l i ≤ T := by
  have h0 : ∀ j, 0 ≤ hamAt T l j := fun j => by
    unfold hamAt
    have := (h.qr j).2.2.2
    split <;> omega
  refine ⟨h0 i, ?_⟩
  have := sm_at_le l.length (hamAt T l) (fun j _ => h0 j) i hi
  rw [h.ham_sum] at this
  exact this
/-- each one's part is its quota, downward or upward -/
theorem Ok.quota {T : Int} {l : List Int} (h : Ok T l) (i : Nat) : T * at' l i - l.sum < hamAt T l i * l.sum ∧ hamAt T l i * l.sum < T * at' l i + l.sum ∧ (at' l i = 0 → hamAt T l i = 0) := by
  obtain ⟨h1, h2, h3, h4⟩ := h.qr i
  have hs := h.sum
  unfold hamAt
  by_cases c : (ahead T l i : Int) < left T l
  · have hp := h.rest_pos i c
    rw [if_pos c, Int.add_mul, Int.mul_comm (q T l i), Int.one_mul]
    refine ⟨by omega, by omega, fun e => ?_⟩
    exfalso
    unfold rs at hp
    rw [e, Int.mul_zero, Int.zero_emod] at hp
    omega
  · rw [if_neg c, Int.add_zero, Int.mul_comm (q T l i)]
    refine ⟨by omega, by omega, fun e => ?_⟩
    unfold q
    rw [e, Int.mul_zero, Int.zero_ediv]
theorem ahead_lt (T : Int) (l : List Int) (i k : Nat) (hi : i < l.length) (h : ltb T l (i : Int) (k : Int) = true) : ahead T l i < ahead T l k := by
  refine cnt_strict _ _ _ (fun j _ hj => (ord T l).tr _ _ _ hj h) i hi ?_ h
  have := (ord T l).ir (i : Int)
  simpa using this
/-- who weighs as much: the first one has at most one more -/
theorem ham_alike (T : Int) (l : List Int) (i k : Nat) (hi : i < l.length) (e : at' l i = at' l k) (hik : i < k) : hamAt T l i = hamAt T l k ∨ hamAt T l i = hamAt T l k + 1 := by
  have eq : q T l i = q T l k := by unfold q; rw [e]
  have er : rs T l i = rs T l k := by unfold rs; rw [e]
  have := ahead_lt T l i k hi (by rw [ltb_iff]; right; simp only [Int.toNat_natCast]; exact ⟨er, by omega⟩)
  unfold hamAt
  rw [eq]
  repeat' split
  all_goals omega
/-- who weighs more has no less -/
theorem Ok.ham_more {T : Int} {l : List Int} (h : Ok T l) (i k : Nat) (hi : i < l.length) (e : at' l k < at' l i) : hamAt T l k ≤ hamAt T l i := by
  obtain ⟨h1, h2, h3, h4⟩ := h.qr i
  obtain ⟨k1, k2, k3, k4⟩ := h.qr k
  have hs := h.sum
  have hm : T * at' l k ≤ T * at' l i := Int.mul_le_mul_of_nonneg_left (by omega) h.t0
  have hq : q T l k ≤ q T l i := by
    unfold q
    exact Int.ediv_le_ediv hs hm
  have fin : hamAt T l k ≤ q T l k + 1 ∧ q T l i ≤ hamAt T l i := by
    unfold hamAt
    refine ⟨by split <;> omega, by split <;> omega⟩
  by_cases c : q T l k < q T l i
  · omega
  have eq : q T l k = q T l i := by omega
  rw [eq] at k1
  by_cases ck : (ahead T l k : Int) < left T l
  · have hp := h.rest_pos k ck
    have hT : 0 < T := by
      by_cases c0 : 0 < T
      · exact c0
      · exfalso
        have : T = 0 := by have := h.t0; omega
        subst this
        unfold rs at hp
        simp at hp
    have hm2 : T * at' l k < T * at' l i := Int.mul_lt_mul_of_pos_left e hT
    have := ahead_lt T l i k hi (by rw [ltb_iff]; left; simp only [Int.toNat_natCast]; omega)
    unfold hamAt
    rw [if_pos ck, if_pos (by omega), eq]
    omega
  · have : hamAt T l k = q T l k := by unfold hamAt; rw [if_neg ck, Int.add_zero]
    omega
/-- even parts -/
def evnAt (T m : Int) (i : Nat) : Int := T / m + if (i : Int) < T % m then 1 else 0
def ecode (T m : Int) : Int := if (decide (0 ≤ T) && decide (T ≤ 1099511627776) && (decide (1 ≤ m) && decide (m ≤ 32))) = true then 0 else 3
def evn (T m : Int) : List Int := if ecode T m = 0 then (List.range m.toNat).map (evnAt T m) else []
theorem ecode_zero (T m : Int) : ecode T m = 0 ↔ 0 ≤ T ∧ T ≤ 1099511627776 ∧ 1 ≤ m ∧ m ≤ 32 := by
  unfold ecode
  by_cases h : 0 ≤ T ∧ T ≤ 1099511627776 ∧ 1 ≤ m ∧ m ≤ 32
  · rw [if_pos (by simp; omega)]; simp [h]
  · rw [if_neg (by simp; omega)]; simp [h]
theorem ecode_three (T m : Int) (h : ¬ (0 ≤ T ∧ T ≤ 1099511627776 ∧ 1 ≤ m ∧ m ≤ 32)) : ecode T m = 3 := by
  unfold ecode
  rw [if_neg (by simp; omega)]
theorem evn_sum (T : Int) (m : Nat) (hm : 0 < m) : sm m (evnAt T m) = T := by
  have h0 : 0 ≤ T % (m : Int) := Int.emod_nonneg _ (by omega)
  have h1 : T % (m : Int) < m := Int.emod_lt_of_pos _ (by omega)
  have e : sm m (evnAt T m) = sm m (fun _ => T / (m : Int)) + sm m (fun i => if decide (i < (T % (m : Int)).toNat) = true then 1 else 0) := by
    rw [← sm_add]
    refine sm_congr _ _ _ (fun i _ => ?_)
    unfold evnAt
    by_cases c : (i : Int) < T % (m : Int)
    · rw [if_pos c, if_pos (by simp; omega)]
    · rw [if_neg c, if_neg (by simp; omega)]
  rw [e, sm_const, sm_cnt, cnt_lt m _ (by omega)]
  have := Int.mul_ediv_add_emod T (m : Int)
  omega
theorem evn_bd (T : Int) (m : Nat) (hT : 0 ≤ T) (i : Nat) : 0 ≤ evnAt T m i ∧ evnAt T m i ≤ evnAt T m 0 ∧ evnAt T m 0 - 1 ≤ evnAt T m i := by
  have h0 : 0 ≤ T / (m : Int) := Int.ediv_nonneg hT (by omega)
  unfold evnAt
  repeat' split
  all_goals omega
theorem evn_falls (T : Int) (m : Nat) (i : Nat) : evnAt T m (i + 1) ≤ evnAt T m i := by
  unfold evnAt
  repeat' split
  all_goals omega
theorem evn_le (T : Int) (m : Nat) (hT : 0 ≤ T) (i : Nat) : evnAt T m i ≤ T + 1 := by
  have h0 : T / (m : Int) ≤ T := Int.ediv_le_self _ hT
  unfold evnAt
  split <;> omega
end Shr
end Go.Proofs.YtehopfpcikbaiaaDoor
