/- Plain mathematics of rings of keys: what is right, one more, one less, sealed texts. No program is named here. -/
import Derived.Test.YtandlmnbnjkklaaGreatDoorTrmToTg
namespace Go.Proofs.YtandlmnbnjkklaaGreatDoor
namespace Rg
abbrev Ep := Int × Tg.W × Tg.W
def chkAt (last : Int) : List Ep → Int
  | [] => 0
  | e :: r => if e.1 < 1 ∨ 255 < e.1 then 3 else if e.1 ≤ last then 4 else chkAt e.1 r
def chk (l : List Ep) : Int := if 8 < l.length then 2 else chkAt 0 l
def Up (last : Int) : List Ep → Prop
  | [] => True
  | e :: r => last < e.1 ∧ 1 ≤ e.1 ∧ e.1 ≤ 255 ∧ Up e.1 r
theorem chkAt_iff : ∀ (l : List Ep) (last : Int), chkAt last l = 0 ↔ Up last l
  | [], last => by simp [chkAt, Up]
  | e :: r, last => by
    have ih := chkAt_iff r e.1
    unfold chkAt Up
    by_cases h : e.1 < 1 ∨ 255 < e.1
    · rw [if_pos h]
      constructor
      · intro h; cases h
      · intro h'; omega
    · rw [if_neg h]
      by_cases h2 : e.1 ≤ last
      · rw [if_pos h2]
        constructor
        · intro h; cases h
        · intro h'; omega
      · rw [if_neg h2, ih]
        constructor
        · intro u; exact ⟨by omega, by omega, by omega, u⟩
        · intro u; exact u.2.2.2
theorem chk_iff (l : List Ep) : chk l = 0 ↔ l.length ≤ 8 ∧ Up 0 l := by
  unfold chk
  by_cases h : 8 < l.length
  · rw [if_pos h]
    constructor
    · intro h; cases h
    · intro h'; omega
  · rw [if_neg h, chkAt_iff]
    constructor
    · intro u; exact ⟨by omega, u⟩
    · intro u; exact u.2
theorem chk_code (l : List Ep) : chk l = 0 ∨ chk l ≠ 0 := by omega
theorem up_mem : ∀ (l : List Ep) (last : Int), Up last l → ∀ e ∈ l, last < e.1 ∧ 1 ≤ e.1 ∧ e.1 ≤ 255
  | [], _, _, e, h => by cases h
  | x :: r, last, u, e, h => by
    obtain ⟨u1, u2, u3, u4⟩ := u
    rcases List.mem_cons.1 h with rfl | h
    · exact ⟨u1, u2, u3⟩
    · have := up_mem r x.1 u4 e h
      exact ⟨by omega, this.2⟩
theorem up_weak : ∀ (l : List Ep) (a b : Int), a ≤ b → Up b l → Up a l
  | [], _, _, _, _ => trivial
  | _ :: _, _, _, h, u => ⟨Int.lt_of_le_of_lt h u.1, u.2⟩
theorem up_filter (p : Ep → Bool) : ∀ (l : List Ep) (last : Int), Up last l → Up last (l.filter p)
  | [], _, _ => trivial
  | e :: r, last, u => by
    have ih := up_filter p r e.1 u.2.2.2
    rw [List.filter_cons]
    split
    · exact ⟨u.1, u.2.1, u.2.2.1, ih⟩
    · exact up_weak _ _ _ (Int.le_of_lt u.1) ih
theorem up_snoc : ∀ (l : List Ep) (last : Int) (x : Ep), Up last l → (∀ e ∈ l, e.1 < x.1) → last < x.1 → 1 ≤ x.1 → x.1 ≤ 255 → Up last (l ++ [x])
  | [], _, _, _, _, h1, h2, h3 => ⟨h1, h2, h3, trivial⟩
  | e :: r, _, x, u, h, _, h2, h3 => ⟨u.1, u.2.1, u.2.2.1, up_snoc r e.1 x u.2.2.2 (fun y hy => h y (List.mem_cons_of_mem _ hy)) (h e List.mem_cons_self) h2 h3⟩
/-- where an epoch's key lies, and the key -/
def find (no : Int) : List Ep → Option (Nat × Tg.W × Tg.W)
  | [] => none
  | e :: r => if e.1 = no then some (0, e.2) else (find no r).map fun p => (p.1 + 1, p.2)
theorem find_none : ∀ (l : List Ep) (no : Int), find no l = none ↔ ∀ e ∈ l, e.1 ≠ no
  | [], no => by simp [find]
  | e :: r, no => by
    have ih := find_none r no
    unfold find
    by_cases h : e.1 = no
    · rw [if_pos h]; simp [h]
    · rw [if_neg h]; simp [ih, h]
theorem find_some : ∀ (l : List Ep) (no : Int) (k : Nat) (K : Tg.W × Tg.W), find no l = some (k, K) → k < l.length ∧ l[k]? = some (no, K) ∧ ∀ j, j < k → ∀ e, l[j]? = some e → e.1 ≠ no
  | [], no, k, K, h => by simp [find] at h
  | e :: r, no, k, K, h => by
    unfold find at h
    by_cases c : e.1 = no
    · rw [if_pos c] at h
      injection h with h
      injection h with h1 h2
      subst h1 h2 c
      exact ⟨by simp, rfl, fun j hj => by omega⟩
    · rw [if_neg c] at h
      cases hr : find no r with
      | none => rw [hr] at h; cases h
      | some p =>
        rw [hr] at h
        simp at h
        obtain ⟨h1, h2⟩ := h
        subst h1 h2
        obtain ⟨i1, i2, i3⟩ := find_some r no p.1 p.2 hr
        refine ⟨by simp; omega, by simpa using i2, fun j hj e' he' => ?_⟩
        cases j with
        | zero => simp at he'; subst he'; exact c
        | succ j => exact i3 j (by omega) e' (by simpa using he')
theorem find_is : ∀ (l : List Ep) (no : Int) (k : Nat) (K : Tg.W × Tg.W), l[k]? = some (no, K) → (∀ j, j < k → ∀ e, l[j]? = some e → e.1 ≠ no) → find no l = some (k, K)
  | [], no, k, K, h, _ => by simp at h
  | e :: r, no, k, K, h, h2 => by
    unfold find
    cases k with
    | zero =>
      simp at h
      subst h
      rw [if_pos rfl]
    | succ k =>
      rw [if_neg (h2 0 (by omega) e rfl), find_is r no k K (by simpa using h) (fun j hj e' he' => h2 (j + 1) (by omega) e' (by simpa using he'))]
      rfl
theorem find_mem : ∀ (l : List Ep) (last no : Int) (K : Tg.W × Tg.W), Up last l → (no, K) ∈ l → ∃ k, find no l = some (k, K)
  | [], _, _, _, _, h => by cases h
  | e :: r, last, no, K, u, h => by
    unfold find
    rcases List.mem_cons.1 h with rfl | h
    · exact ⟨0, by rw [if_pos rfl]⟩
    · have := (up_mem r e.1 u.2.2.2 _ h).1
      obtain ⟨k, hk⟩ := find_mem r e.1 no K u.2.2.2 h
      exact ⟨k + 1, by rw [if_neg (by simp at this; omega), hk]; rfl⟩
theorem filter_is : ∀ (l : List Ep) (last no : Int) (k : Nat) (K : Tg.W × Tg.W), Up last l → find no l = some (k, K) → l.filter (fun e => !decide (e.1 = no)) = l.take k ++ l.drop (k + 1)
  | [], _, no, k, K, _, h => by simp [find] at h
  | e :: r, last, no, k, K, u, h => by
    unfold find at h
    by_cases c : e.1 = no
    · rw [if_pos c] at h
      injection h with h
      injection h with h1 h2
      subst h1
      rw [List.filter_cons, if_neg (by simp [c])]
      simp
      intro a b c2 hm
      have := (up_mem r e.1 u.2.2.2 _ hm).1
      simp at this
      omega
    · rw [if_neg c] at h
      cases hr : find no r with
      | none => rw [hr] at h; cases h
      | some p =>
        rw [hr] at h
        simp at h
        obtain ⟨h1, h2⟩ := h
        subst h1
        rw [List.filter_cons, if_pos (by simp [c]), filter_is r e.1 no p.1 p.2 u.2.2.2 hr]
        simp
def last (l : List Ep) : Int := (l.getLast?.map (·.1)).getD 0
def add (l : List Ep) (A B : Tg.W) : List Ep × Int := if chk l ≠ 0 then ([], chk l) else if l.length = 8 ∨ 255 < last l + 1 then ([], 2) else (l ++ [(last l + 1, A, B)], 0)
def drp (l : List Ep) (no : Int) : List Ep × Int := if chk l ≠ 0 then ([], chk l) else match find no l with
  | none => ([], 5)
  | some p => (l.take p.1 ++ l.drop (p.1 + 1), 0)
/-- eight bytes of a word, the least first -/
def leN (x : Tg.W) : Nat → List UInt8
  | 0 => []
  | n + 1 => leN x n ++ [UInt8.ofNat (x.toNat / 256 ^ n % 256)]
theorem leN_length (x : Tg.W) : ∀ n, (leN x n).length = n
  | 0 => rfl
  | n + 1 => by simp [leN, leN_length x n]
def sl (no : Nat) (A B : Tg.W) (s : List UInt8) : List UInt8 := (UInt8.ofNat no :: s) ++ leN (Tg.of A B (UInt8.ofNat no :: s)) 8
theorem sl_length (no : Nat) (A B : Tg.W) (s : List UInt8) : (sl no A B s).length = s.length + 9 := by unfold sl; rw [List.length_append, leN_length]; simp
def sea (l : List Ep) (s : List UInt8) : List UInt8 × Int := if chk l ≠ 0 then ([], chk l) else match l.getLast? with
  | none => ([], 5)
  | some e => if 111 < s.length then ([], 2) else (sl e.1.toNat e.2.1 e.2.2 s, 0)
def mid (t : List UInt8) : List UInt8 := (t.drop 1).take (t.length - 9)
def opn (l : List Ep) (t : List UInt8) : List UInt8 × Int × Int := if chk l ≠ 0 then ([], 0, chk l) else if t.length < 9 ∨ 120 < t.length then ([], 0, 1) else
  match find (((t.headD 0).toNat : Nat) : Int) l with
  | none => ([], 0, 5)
  | some p => if sl (t.headD 0).toNat p.2.1 p.2.2 (mid t) = t then (mid t, ((t.headD 0).toNat : Nat), 0) else ([], 0, 9)
theorem sl_head (no : Nat) (A B : Tg.W) (s : List UInt8) (h : no < 256) : ((sl no A B s).headD 0).toNat = no := by
  unfold sl
  simp
  omega
theorem sl_mid (no : Nat) (A B : Tg.W) (s : List UInt8) : mid (sl no A B s) = s := by
  unfold mid
  rw [sl_length]
  unfold sl
  simp
theorem opn_of (l : List Ep) (no : Nat) (A B : Tg.W) (s : List UInt8) (h : chk l = 0) (hm : (((no : Nat) : Int), A, B) ∈ l) (hs : s.length ≤ 111) : opn l (sl no A B s) = (s, ((no : Nat) : Int), 0) := by
  have u := (chk_iff l).1 h
  have hb := up_mem l 0 u.2 _ hm
  simp at hb
  have h1 := sl_head no A B s (by omega)
  obtain ⟨k, hk⟩ := find_mem l 0 no (A, B) u.2 hm
  unfold opn
  rw [if_neg (by omega), if_neg (by rw [sl_length]; omega), h1, hk]
  simp only [sl_mid, if_true]
theorem opn_no (l : List Ep) (no : Nat) (A B : Tg.W) (s : List UInt8) (h : chk l = 0) (hn : no < 256) (hm : ∀ e ∈ l, e.1 ≠ ((no : Nat) : Int)) (hs : s.length ≤ 111) : opn l (sl no A B s) = ([], 0, 5) := by
  have h1 := sl_head no A B s hn
  unfold opn
  rw [if_neg (by omega), if_neg (by rw [sl_length]; omega), h1, (find_none l no).2 hm]
theorem opn_only (l : List Ep) (t : List UInt8) (h : (opn l t).2.2 = 0) : ∃ k A B, find (opn l t).2.1 l = some (k, A, B) ∧ chk [((opn l t).2.1, A, B)] = 0 ∧ (opn l t).1.length ≤ 111 ∧ sl (opn l t).2.1.toNat A B (opn l t).1 = t := by
  unfold opn at h ⊢
  by_cases c : chk l ≠ 0
  · rw [if_pos c] at h; exact absurd h c
  · rw [if_neg c] at h ⊢
    by_cases c2 : t.length < 9 ∨ 120 < t.length
    · rw [if_pos c2] at h; cases h
    · rw [if_neg c2] at h ⊢
      cases hf : find (((t.headD 0).toNat : Nat) : Int) l with
      | none => rw [hf] at h; cases h
      | some p =>
        rw [hf] at h
        simp only at h ⊢
        by_cases c3 : sl (t.headD 0).toNat p.2.1 p.2.2 (mid t) = t
        · rw [if_pos c3]
          have hu := (chk_iff l).1 (by omega)
          have hfs := find_some l _ p.1 p.2 hf
          have hb := up_mem l 0 hu.2 _ (List.mem_of_getElem? hfs.2.1)
          refine ⟨p.1, p.2.1, p.2.2, hf, (chk_iff _).2 ⟨by simp, hb.1, hb.2.1, hb.2.2, trivial⟩, ?_, c3⟩
          show (mid t).length ≤ 111
          unfold mid
          rw [List.length_take]
          omega
        · rw [if_neg c3] at h; cases h
theorem opn_bad (l : List Ep) (t : List UInt8) (h : (opn l t).2.2 ≠ 0) : (opn l t).1 = [] ∧ (opn l t).2.1 = 0 := by
  unfold opn at h ⊢
  by_cases c : chk l ≠ 0
  · rw [if_pos c]; exact ⟨rfl, rfl⟩
  · rw [if_neg c] at h ⊢
    by_cases c2 : t.length < 9 ∨ 120 < t.length
    · rw [if_pos c2]; exact ⟨rfl, rfl⟩
    · rw [if_neg c2] at h ⊢
      cases hf : find (((t.headD 0).toNat : Nat) : Int) l with
      | none => exact ⟨rfl, rfl⟩
      | some p =>
        rw [hf] at h
        simp only at h ⊢
        by_cases c3 : sl (t.headD 0).toNat p.2.1 p.2.2 (mid t) = t
        · rw [if_pos c3] at h; exact absurd rfl h
        · rw [if_neg c3]; exact ⟨rfl, rfl⟩
theorem last_of (l : List Ep) (e : Ep) (h : l.getLast? = some e) : last l = e.1 := by unfold last; rw [h]; rfl
theorem last_mem (l : List Ep) (e : Ep) (h : l.getLast? = some e) : e ∈ l := List.mem_of_getLast? h
theorem up_last : ∀ (l : List Ep) (a : Int) (e : Ep), Up a l → l.getLast? = some e → ∀ x ∈ l, x.1 ≤ e.1
  | [], _, _, _, h, _, _ => by cases h
  | [y], _, e, _, h, x, hx => by
    simp at h hx
    subst h hx
    exact Int.le_refl _
  | y :: z :: r, a, e, u, h, x, hx => by
    have h' : (z :: r).getLast? = some e := by simpa using h
    have ih := up_last (z :: r) y.1 e u.2.2.2 h'
    rcases List.mem_cons.1 hx with rfl | hx
    · have h1 := ih z List.mem_cons_self
      have h2 := u.2.2.2.1
      omega
    · exact ih x hx
theorem last_pos (l : List Ep) (h : Up 0 l) : 0 ≤ last l := by
  cases hl : l.getLast? with
  | none => unfold last; rw [hl]; exact Int.le_refl _
  | some e => rw [last_of l e hl]; have := up_mem l 0 h e (last_mem l e hl); omega
theorem last_le (l : List Ep) (h : Up 0 l) : ∀ e ∈ l, e.1 ≤ last l := by
  intro e he
  cases hl : l.getLast? with
  | none => rw [List.getLast?_eq_none_iff] at hl; subst hl; cases he
  | some x => rw [last_of l x hl]; exact up_last l 0 x h hl e he
/-- one more: right, and dropped it is as it was -/
theorem add_ok (l : List Ep) (A B : Tg.W) (h : (add l A B).2 = 0) : (add l A B).1 = l ++ [(last l + 1, A, B)] ∧ chk l = 0 ∧ chk (l ++ [(last l + 1, A, B)]) = 0 := by
  unfold add at h ⊢
  by_cases c : chk l ≠ 0
  · rw [if_pos c] at h; exact absurd h c
  · rw [if_neg c] at h ⊢
    by_cases c2 : l.length = 8 ∨ 255 < last l + 1
    · rw [if_pos c2] at h; cases h
    · rw [if_neg c2]
      have c' : chk l = 0 := by omega
      obtain ⟨h8, u⟩ := (chk_iff l).1 c'
      have hp := last_pos l u
      refine ⟨rfl, c', (chk_iff _).2 ⟨by simp; omega, up_snoc l 0 _ u (fun e he => by have := last_le l u e he; simp; omega) (by simp; omega) (by simp; omega) (by simp; omega)⟩⟩
theorem add_bad (l : List Ep) (A B : Tg.W) (h : (add l A B).2 ≠ 0) : (add l A B).1 = [] := by
  unfold add at h ⊢
  by_cases c : chk l ≠ 0
  · rw [if_pos c]
  · rw [if_neg c] at h ⊢
    by_cases c2 : l.length = 8 ∨ 255 < last l + 1
    · rw [if_pos c2]
    · rw [if_neg c2] at h; exact absurd rfl h
theorem drp_ok (l : List Ep) (no : Int) (h : (drp l no).2 = 0) : (drp l no).1 = l.filter (fun e => !decide (e.1 = no)) ∧ chk l = 0 ∧ chk (drp l no).1 = 0 ∧ ∃ p, find no l = some p := by
  unfold drp at h ⊢
  by_cases c : chk l ≠ 0
  · rw [if_pos c] at h; exact absurd h c
  · rw [if_neg c] at h ⊢
    have c' : chk l = 0 := by omega
    obtain ⟨h8, u⟩ := (chk_iff l).1 c'
    cases hf : find no l with
    | none => rw [hf] at h; cases h
    | some p =>
      have e := filter_is l 0 no p.1 p.2 u hf
      refine ⟨e.symm, c', ?_, p, rfl⟩
      show chk (l.take p.1 ++ l.drop (p.1 + 1)) = 0
      rw [← e]
      exact (chk_iff _).2 ⟨Nat.le_trans (List.length_filter_le _ _) h8, up_filter _ l 0 u⟩
theorem drp_bad (l : List Ep) (no : Int) (h : (drp l no).2 ≠ 0) : (drp l no).1 = [] := by
  unfold drp at h ⊢
  by_cases c : chk l ≠ 0
  · rw [if_pos c]
  · rw [if_neg c] at h ⊢
    cases hf : find no l with
    | none => rfl
    | some p => rw [hf] at h; exact absurd rfl h
theorem sea_ok (l : List Ep) (s : List UInt8) (h : (sea l s).2 = 0) : ∃ no : Nat, ∃ A B, l.getLast? = some (((no : Nat) : Int), A, B) ∧ chk l = 0 ∧ s.length ≤ 111 ∧ (sea l s).1 = sl no A B s ∧ no < 256 := by
  unfold sea at h ⊢
  by_cases c : chk l ≠ 0
  · rw [if_pos c] at h; exact absurd h c
  · rw [if_neg c] at h ⊢
    cases hl : l.getLast? with
    | none => rw [hl] at h; cases h
    | some e =>
      rw [hl] at h
      simp only at h ⊢
      by_cases c2 : 111 < s.length
      · rw [if_pos c2] at h; cases h
      · rw [if_neg c2]
        have hb := up_mem l 0 ((chk_iff l).1 (by omega)).2 e (last_mem l e hl)
        exact ⟨e.1.toNat, e.2.1, e.2.2, by rw [Int.toNat_of_nonneg (by omega)], by omega, by omega, rfl, by omega⟩
theorem sea_bad (l : List Ep) (s : List UInt8) (h : (sea l s).2 ≠ 0) : (sea l s).1 = [] := by
  unfold sea at h ⊢
  by_cases c : chk l ≠ 0
  · rw [if_pos c]
  · rw [if_neg c] at h ⊢
    cases hl : l.getLast? with
    | none => rfl
    | some e =>
      rw [hl] at h
      simp only at h ⊢
      by_cases c2 : 111 < s.length
      · rw [if_pos c2]
      · rw [if_neg c2] at h; exact absurd rfl h
end Rg
end Go.Proofs.YtandlmnbnjkklaaGreatDoor
