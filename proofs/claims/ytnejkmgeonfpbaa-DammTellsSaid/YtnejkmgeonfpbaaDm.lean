/- Plain mathematics of numbers that are read aloud: where digits lead. No program is named here. -/
namespace Go.Proofs.Ytnejkmgeonfpbaa
namespace Dm
def tab : List UInt8 := [48, 51, 49, 55, 53, 57, 56, 54, 52, 50, 55, 48, 57, 50, 49, 53, 52, 56, 54, 51, 52, 50, 48, 54, 56, 55, 49, 51, 53, 57, 49, 55, 53, 48, 57, 56, 51, 52, 50, 54, 54, 49, 50, 51, 48, 52, 53, 57, 55, 56, 51, 54, 55, 52, 50, 48, 57, 53, 56, 49, 53, 56, 54, 57, 55, 50, 48, 49, 51, 52, 56, 57, 52, 53, 51, 54, 50, 48, 49, 55, 57, 52, 51, 56, 54, 49, 55, 50, 48, 53, 50, 53, 56, 49, 52, 51, 54, 55, 57, 48]
def byteAt (n : Nat) : UInt8 := tab.getD n 48
/-- from a row by a digit -/
def st (r d : Nat) : Nat := (byteAt (r * 10 + d)).toNat - 48
theorem byte_lo : ∀ n : Fin 100, 48 ≤ (byteAt n.1).toNat ∧ (byteAt n.1).toNat ≤ 57 := by decide
theorem st_byte (r d : Nat) (hr : r < 10) (hd : d < 10) : 48 ≤ (byteAt (r * 10 + d)).toNat ∧ (byteAt (r * 10 + d)).toNat ≤ 57 ∧ (byteAt (r * 10 + d)).toNat = 48 + st r d ∧ st r d < 10 := by
  have h := byte_lo ⟨r * 10 + d, by omega⟩
  dsimp at h
  unfold st
  omega
theorem st_lt (r d : Nat) (hr : r < 10) (hd : d < 10) : st r d < 10 := (st_byte r d hr hd).2.2.2
theorem latin0 : ∀ r d : Fin 10, (st r.1 d.1 = 0) = (r = d) := by decide
theorem latin1 : ∀ r a b : Fin 10, (st r.1 a.1 = st r.1 b.1) = (a = b) := by decide +kernel
theorem latin2 : ∀ r a b : Fin 10, (st a.1 r.1 = st b.1 r.1) = (a = b) := by decide +kernel
theorem latin3 : ∀ r a b : Fin 10, (st (st r.1 a.1) b.1 = st (st r.1 b.1) a.1) = (a = b) := by decide +kernel
theorem st_zero (r d : Nat) (hr : r < 10) (hd : d < 10) : st r d = 0 ↔ r = d := by
  have h := latin0 ⟨r, hr⟩ ⟨d, hd⟩
  simpa [Fin.ext_iff] using h
theorem st_digit (r a b : Nat) (hr : r < 10) (ha : a < 10) (hb : b < 10) : st r a = st r b ↔ a = b := by
  have h := latin1 ⟨r, hr⟩ ⟨a, ha⟩ ⟨b, hb⟩
  simpa [Fin.ext_iff] using h
theorem st_row (r a b : Nat) (hr : r < 10) (ha : a < 10) (hb : b < 10) : st a r = st b r ↔ a = b := by
  have h := latin2 ⟨r, hr⟩ ⟨a, ha⟩ ⟨b, hb⟩
  simpa [Fin.ext_iff] using h
theorem st_swap (r a b : Nat) (hr : r < 10) (ha : a < 10) (hb : b < 10) : st (st r a) b = st (st r b) a ↔ a = b := by
  have h := latin3 ⟨r, hr⟩ ⟨a, ha⟩ ⟨b, hb⟩
  simpa [Fin.ext_iff] using h
/-- a digit's byte -/
def dg (c : UInt8) : Bool := decide (48 ≤ c.toNat) && decide (c.toNat ≤ 57)
theorem dg_yes (c : UInt8) (h : dg c = true) : 48 ≤ c.toNat ∧ c.toNat ≤ 57 := by simpa [dg] using h
theorem dg_no (c : UInt8) (h : dg c = false) : c.toNat < 48 ∨ 57 < c.toNat := by simp [dg] at h; omega
def ok (l : List UInt8) : Bool := l.all dg
def dig (c : UInt8) : Nat := c.toNat - 48
theorem dig_lt (c : UInt8) (h : dg c = true) : dig c < 10 := by have := dg_yes c h; unfold dig; omega
theorem dig_inj (a b : UInt8) (ha : dg a = true) (hb : dg b = true) : dig a = dig b ↔ a = b := by
  have h1 := dg_yes a ha
  have h2 := dg_yes b hb
  unfold dig
  rw [← UInt8.toNat_inj]
  omega
def lead (r : Nat) (l : List UInt8) : Nat := l.foldl (fun r c => st r (dig c)) r
theorem lead_nil (r : Nat) : lead r [] = r := rfl
theorem lead_cons (r : Nat) (c : UInt8) (l : List UInt8) : lead r (c :: l) = lead (st r (dig c)) l := by unfold lead; rw [List.foldl_cons]
theorem lead_append (r : Nat) (a b : List UInt8) : lead r (a ++ b) = lead (lead r a) b := by unfold lead; rw [List.foldl_append]
theorem lead_lt (l : List UInt8) : ∀ (r : Nat), r < 10 → ok l = true → lead r l < 10 := by
  induction l with
  | nil => intro r hr _; rw [lead_nil]; exact hr
  | cons c l ih =>
    intro r hr h
    unfold ok at h
    rw [List.all_cons, Bool.and_eq_true] at h
    rw [lead_cons]
    exact ih _ (st_lt r _ hr (dig_lt c h.1)) h.2
theorem lead_inj (l : List UInt8) : ∀ (r s : Nat), r < 10 → s < 10 → ok l = true → (lead r l = lead s l ↔ r = s) := by
  induction l with
  | nil => intro r s _ _ _; rw [lead_nil, lead_nil]
  | cons c l ih =>
    intro r s hr hs h
    unfold ok at h
    rw [List.all_cons, Bool.and_eq_true] at h
    have hd := dig_lt c h.1
    rw [lead_cons, lead_cons, ih _ _ (st_lt r _ hr hd) (st_lt s _ hs hd) h.2, st_row _ _ _ hd hr hs]
/-- the error: another byte, too many -/
def code (l : List UInt8) : Int := if ok l = true then (if l.length ≤ 24 then 0 else 2) else 1
def row (l : List UInt8) : Nat := if code l = 0 then lead 0 l else 0
theorem code_ok (l : List UInt8) (h : code l = 0) : ok l = true ∧ l.length ≤ 24 := by
  unfold code at h
  by_cases h1 : ok l = true
  · rw [if_pos h1] at h
    by_cases h2 : l.length ≤ 24
    · exact ⟨h1, h2⟩
    · rw [if_neg h2] at h; exact absurd h (by decide)
  · rw [if_neg h1] at h; exact absurd h (by decide)
theorem code_mk (l : List UInt8) (h1 : ok l = true) (h2 : l.length ≤ 24) : code l = 0 := by unfold code; rw [if_pos h1, if_pos h2]
theorem code_many (l : List UInt8) (h1 : ok l = true) (h2 : 24 < l.length) : code l = 2 := by unfold code; rw [if_pos h1, if_neg (by omega)]
theorem code_form (l : List UInt8) (h1 : ok l = false) : code l = 1 := by unfold code; rw [if_neg (by simp [h1])]
theorem code_bd (l : List UInt8) : 0 ≤ code l ∧ code l ≤ 2 := by
  unfold code; split
  · split <;> decide
  · decide
theorem row_ok (l : List UInt8) (h : code l = 0) : row l = lead 0 l := by unfold row; rw [if_pos h]
theorem row_no (l : List UInt8) (h : code l ≠ 0) : row l = 0 := by unfold row; rw [if_neg h]
theorem row_lt (l : List UInt8) : row l < 10 := by
  by_cases h : code l = 0
  · rw [row_ok l h]; exact lead_lt l 0 (by decide) (code_ok l h).1
  · rw [row_no l h]; decide
theorem ok_append (a b : List UInt8) : ok (a ++ b) = (ok a && ok b) := by unfold ok; rw [List.all_append]
theorem ok_one (c : UInt8) : ok [c] = dg c := by unfold ok; simp
theorem ok_at (l : List UInt8) (k : Nat) (c : UInt8) (h : l[k]? = some c) (hc : dg c = false) : ok l = false := by
  unfold ok
  rw [List.all_eq_false]
  exact ⟨c, List.mem_of_getElem? h, by simp [hc]⟩
theorem ok_take_succ (l : List UInt8) (k : Nat) (c : UInt8) (h : l[k]? = some c) (h0 : ok (l.take k) = true) (hc : dg c = true) : ok (l.take (k + 1)) = true := by
  rw [List.take_add_one, h]
  show ok (l.take k ++ [c]) = true
  rw [ok_append, h0, ok_one, hc]; rfl
theorem lead_take_succ (r : Nat) (l : List UInt8) (k : Nat) (c : UInt8) (h : l[k]? = some c) : lead r (l.take (k + 1)) = st (lead r (l.take k)) (dig c) := by
  rw [List.take_add_one, h]
  show lead r (l.take k ++ [c]) = _
  rw [lead_append]; rfl
theorem ok_take (l : List UInt8) (k : Nat) (h : ok l = true) : ok (l.take k) = true := by
  have := ok_append (l.take k) (l.drop k)
  rw [List.take_append_drop, h] at this
  revert this
  cases ok (l.take k) <;> simp
theorem ok_drop (l : List UInt8) (k : Nat) (h : ok l = true) : ok (l.drop k) = true := by
  have := ok_append (l.take k) (l.drop k)
  rw [List.take_append_drop, h] at this
  revert this
  cases ok (l.drop k) <;> cases ok (l.take k) <;> simp
theorem ok_get (l : List UInt8) (k : Nat) (c : UInt8) (h : l[k]? = some c) (h0 : ok l = true) : dg c = true := by
  cases hc : dg c with
  | true => rfl
  | false => rw [ok_at l k c h hc] at h0; exact absurd h0 (by decide)
/-- behind its digit a number is right, and behind no other one -/
theorem tail (l : List UInt8) (b : UInt8) (hb : dg b = true) (h : code l = 0) (hn : l.length ≠ 24) : code (l ++ [b]) = 0 ∧ (row (l ++ [b]) = 0 ↔ dig b = row l) := by
  obtain ⟨h1, h2⟩ := code_ok l h
  have hc : code (l ++ [b]) = 0 := code_mk _ (by rw [ok_append, h1, ok_one, hb]; rfl) (by rw [List.length_append]; simp; omega)
  refine ⟨hc, ?_⟩
  rw [row_ok _ hc, row_ok _ h, lead_append]
  show st (lead 0 l) (dig b) = 0 ↔ _
  rw [st_zero _ _ (lead_lt l 0 (by decide) h1) (dig_lt b hb)]
  exact eq_comm
theorem split_at (l : List UInt8) (k : Nat) (c : UInt8) (h : l[k]? = some c) : l = l.take k ++ (c :: l.drop (k + 1)) := by
  have hk : k < l.length := by
    rcases Nat.lt_or_ge k l.length with h' | h'
    · exact h'
    · rw [List.getElem?_eq_none h'] at h; exact absurd h (by simp)
  have hg : l[k] = c := by rw [List.getElem?_eq_getElem hk] at h; exact Option.some.inj h
  rw [← hg, ← List.drop_eq_getElem_cons hk, List.take_append_drop]
/-- one digit misread -/
theorem one (l : List UInt8) (k : Nat) (c b : UInt8) (hk : l[k]? = some c) (hb : dg b = true) (h : code l = 0) (h0 : row l = 0) :
    code (l.take k ++ [b] ++ l.drop (k + 1)) = 0 ∧ (row (l.take k ++ [b] ++ l.drop (k + 1)) = 0 ↔ b = c) := by
  obtain ⟨h1, h2⟩ := code_ok l h
  have hs := split_at l k c hk
  have o1 := ok_take l k h1
  have o2 := ok_drop l (k + 1) h1
  have hcd := ok_get l k c hk h1
  have hlen : (l.take k ++ [b] ++ l.drop (k + 1)).length = l.length := by
    have := congrArg List.length hs
    simp only [List.length_append, List.length_cons, List.length_nil] at this ⊢
    omega
  have hc : code (l.take k ++ [b] ++ l.drop (k + 1)) = 0 := code_mk _ (by rw [ok_append, ok_append, o1, o2, ok_one, hb]; rfl) (by omega)
  refine ⟨hc, ?_⟩
  rw [row_ok _ h] at h0
  rw [row_ok _ hc, lead_append, lead_append]
  have e0 : lead (st (lead 0 (l.take k)) (dig c)) (l.drop (k + 1)) = 0 := by
    rw [← lead_cons, ← lead_append, ← hs]; exact h0
  have r1 := lead_lt (l.take k) 0 (by decide) o1
  show lead (st (lead 0 (l.take k)) (dig b)) (l.drop (k + 1)) = 0 ↔ _
  have hi := lead_inj _ _ _ (st_lt _ _ r1 (dig_lt b hb)) (st_lt _ _ r1 (dig_lt c hcd)) o2
  rw [e0] at hi
  rw [hi, st_digit _ _ _ r1 (dig_lt b hb) (dig_lt c hcd), dig_inj b c hb hcd]
/-- two neighbours changed about -/
theorem swap (l : List UInt8) (k : Nat) (c d : UInt8) (hk : l[k]? = some c) (hd : l[k + 1]? = some d) (h : code l = 0) (h0 : row l = 0) :
    code (l.take k ++ [d] ++ [c] ++ l.drop (k + 2)) = 0 ∧ (row (l.take k ++ [d] ++ [c] ++ l.drop (k + 2)) = 0 ↔ c = d) := by
  obtain ⟨h1, h2⟩ := code_ok l h
  have hs := split_at l k c hk
  have hs2 : l.drop (k + 1) = d :: l.drop (k + 2) := by
    have := split_at (l.drop (k + 1)) 0 d (by rw [List.getElem?_drop]; exact hd)
    rw [List.take_zero, List.drop_drop] at this
    exact this
  rw [hs2] at hs
  have o1 := ok_take l k h1
  have o2 := ok_drop l (k + 2) h1
  have hcd := ok_get l k c hk h1
  have hdd := ok_get l (k + 1) d hd h1
  have hlen : (l.take k ++ [d] ++ [c] ++ l.drop (k + 2)).length = l.length := by
    have := congrArg List.length hs
    simp only [List.length_append, List.length_cons, List.length_nil] at this ⊢
    omega
  have hc : code (l.take k ++ [d] ++ [c] ++ l.drop (k + 2)) = 0 := code_mk _ (by rw [ok_append, ok_append, ok_append, o1, o2, ok_one, ok_one, hcd, hdd]; rfl) (by omega)
  refine ⟨hc, ?_⟩
  rw [row_ok _ h] at h0
  rw [row_ok _ hc, lead_append, lead_append, lead_append]
  have e0 : lead (st (st (lead 0 (l.take k)) (dig c)) (dig d)) (l.drop (k + 2)) = 0 := by
    rw [← lead_cons, ← lead_cons, ← lead_append, ← hs]; exact h0
  have r1 := lead_lt (l.take k) 0 (by decide) o1
  have a1 := dig_lt c hcd
  have a2 := dig_lt d hdd
  show lead (st (st (lead 0 (l.take k)) (dig d)) (dig c)) (l.drop (k + 2)) = 0 ↔ _
  have hi := lead_inj _ _ _ (st_lt _ _ (st_lt _ _ r1 a2) a1) (st_lt _ _ (st_lt _ _ r1 a1) a2) o2
  rw [e0] at hi
  rw [hi, st_swap _ _ _ r1 a2 a1, dig_inj d c hdd hcd]
  exact eq_comm
end Dm
end Go.Proofs.Ytnejkmgeonfpbaa
