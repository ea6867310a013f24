/- Plain mathematics of tags: words of 64 bits, a round and its way back, a text's words. No program is named here. -/
namespace Go.Proofs.Ytcjpbmfdgheolaa
namespace Tg
abbrev W := BitVec 64
abbrev V := W × W × W × W
/-- a word turned -/
def rl (x : W) (r : Nat) : W := x.rotateLeft r
theorem rl_get (x : W) (r i : Nat) (hr : r < 64) (hi : i < 64) : (rl x r).getLsbD i = if i < r then x.getLsbD (64 - r + i) else x.getLsbD (i - r) := by
  unfold rl
  rw [BitVec.getLsbD_rotateLeft]
  simp only [Nat.mod_eq_of_lt hr]
  split
  · simp [*]
  · simp [*]
theorem rl_rl (x : W) (r s : Nat) (hr : r < 64) (hs : s < 64) (h : r + s < 64) : rl (rl x r) s = rl x (r + s) := by
  apply BitVec.eq_of_getLsbD_eq
  intro i hi
  rw [rl_get _ _ _ hs hi, rl_get _ _ _ h hi]
  by_cases c : i < s
  · rw [if_pos c, if_pos (by omega), rl_get _ _ _ hr (by omega), if_neg (by omega)]
    congr 1; omega
  · rw [if_neg c, rl_get _ _ _ hr (by omega)]
    by_cases d : i - s < r
    · rw [if_pos d, if_pos (by omega)]; congr 1; omega
    · rw [if_neg d, if_neg (by omega)]; congr 1; omega
theorem rl_back (x : W) (r s : Nat) (h : r + s = 64) (hr : 0 < r) (hs : 0 < s) : rl (rl x r) s = x := by
  apply BitVec.eq_of_getLsbD_eq
  intro i hi
  rw [rl_get _ _ _ (by omega) hi]
  by_cases c : i < s
  · rw [if_pos c, rl_get _ _ _ (by omega) (by omega), if_neg (by omega)]
    congr 1; omega
  · rw [if_neg c, rl_get _ _ _ (by omega) (by omega), if_pos (by omega)]
    congr 1; omega
theorem rl_zero (x : W) : rl x 0 = x := by
  apply BitVec.eq_of_getLsbD_eq
  intro i hi
  rw [rl_get _ _ _ (by omega) hi, if_neg (by omega)]
  rfl
def rnd (v : V) : V :=
  let a1 := v.1 + v.2.1
  let b1 := rl v.2.1 13 ^^^ a1
  let a2 := rl a1 32
  let c1 := v.2.2.1 + v.2.2.2
  let d1 := rl v.2.2.2 16 ^^^ c1
  let a3 := a2 + d1
  let d2 := rl d1 21 ^^^ a3
  let c2 := c1 + b1
  let b2 := rl b1 17 ^^^ c2
  let c3 := rl c2 32
  (a3, b2, c3, d2)
def bck (v : V) : V :=
  let c2 := rl v.2.2.1 32
  let b1 := rl (v.2.1 ^^^ c2) 47
  let c1 := c2 - b1
  let d1 := rl (v.2.2.2 ^^^ v.1) 43
  let a2 := v.1 - d1
  let d0 := rl (d1 ^^^ c1) 48
  let c0 := c1 - d0
  let a1 := rl a2 32
  let b0 := rl (b1 ^^^ a1) 51
  let a0 := a1 - b0
  (a0, b0, c0, d0)
theorem xx (a b : W) : a ^^^ b ^^^ b = a := by rw [BitVec.xor_assoc, BitVec.xor_self, BitVec.xor_zero]
theorem as (a b : W) : a + b - b = a := BitVec.add_sub_cancel a b
theorem sa (a b : W) : a - b + b = a := BitVec.sub_add_cancel a b
theorem bck_rnd (v : V) : bck (rnd v) = v := by
  obtain ⟨a, b, c, d⟩ := v
  simp only [bck, rnd, as, xx, rl_back _ 32 32 rfl (by decide) (by decide), rl_back _ 17 47 rfl (by decide) (by decide), rl_back _ 21 43 rfl (by decide) (by decide), rl_back _ 16 48 rfl (by decide) (by decide), rl_back _ 13 51 rfl (by decide) (by decide)]
theorem rnd_bck (v : V) : rnd (bck v) = v := by
  obtain ⟨a, b, c, d⟩ := v
  simp only [bck, rnd, sa, xx, rl_back _ 51 13 rfl (by decide) (by decide), rl_back _ 32 32 rfl (by decide) (by decide), rl_back _ 48 16 rfl (by decide) (by decide), rl_back _ 43 21 rfl (by decide) (by decide), rl_back _ 47 17 rfl (by decide) (by decide)]
def rnds : Nat → V → V
  | 0, v => v
  | n + 1, v => rnd (rnds n v)
def take (v : V) (m : W) : V :=
  let u := rnd (rnd (v.1, v.2.1, v.2.2.1, v.2.2.2 ^^^ m))
  (u.1 ^^^ m, u.2.1, u.2.2.1, u.2.2.2)
def untake (v : V) (m : W) : V :=
  let u := bck (bck (v.1 ^^^ m, v.2.1, v.2.2.1, v.2.2.2))
  (u.1, u.2.1, u.2.2.1, u.2.2.2 ^^^ m)
theorem untake_take (v : V) (m : W) : untake (take v m) m = v := by
  simp only [untake, take, xx]
  rw [show ∀ u : V, (u.1, u.2.1, u.2.2.1, u.2.2.2) = u from fun _ => rfl, bck_rnd, bck_rnd, xx]
theorem take_inj (v w : V) (m : W) : take v m = take w m ↔ v = w :=
  ⟨fun h => by rw [← untake_take v m, h, untake_take], fun h => by rw [h]⟩
def fin (v : V) : W :=
  let u := rnd (rnd (rnd (rnd (v.1, v.2.1, v.2.2.1 ^^^ 255, v.2.2.2))))
  u.1 ^^^ u.2.1 ^^^ u.2.2.1 ^^^ u.2.2.2
def start (a b : W) : V := (a ^^^ 0x736f6d6570736575, b ^^^ 0x646f72616e646f6d, a ^^^ 0x6c7967656e657261, b ^^^ 0x7465646279746573)
/-- of a text's bytes from 8 j on the first m, the first the least -/
def part (l : List UInt8) (j : Nat) : Nat → Nat
  | 0 => 0
  | m + 1 => part l j m + (l.getD (8 * j + m) 0).toNat * 256 ^ m
theorem part_lt (l : List UInt8) (j m : Nat) : part l j m < 256 ^ m := by
  induction m with
  | zero => simp [part]
  | succ m ih =>
    have h : (l.getD (8 * j + m) 0).toNat ≤ 255 := by have := (l.getD (8 * j + m) 0).toNat_lt; omega
    have h2 := Nat.mul_le_mul_right (256 ^ m) h
    show part l j m + _ < 256 ^ m * 256
    omega
theorem part_zero (l : List UInt8) (j m k : Nat) (hm : m ≤ k) (h : l.length ≤ 8 * j + m) : part l j k = part l j m := by
  induction k with
  | zero => rw [Nat.le_zero.1 hm]
  | succ k ih =>
    by_cases c : m = k + 1
    · rw [c]
    · show part l j k + _ = _
      rw [ih (by omega), List.getD_eq_getElem?_getD, List.getElem?_eq_none (by omega)]
      simp
theorem part_inj (l l' : List UInt8) (j m : Nat) (h : part l j m = part l' j m) : ∀ k, k < m → l.getD (8 * j + k) 0 = l'.getD (8 * j + k) 0 := by
  induction m with
  | zero => intro k hk; omega
  | succ m ih =>
    have e : part l j m + (l.getD (8 * j + m) 0).toNat * 256 ^ m = part l' j m + (l'.getD (8 * j + m) 0).toNat * 256 ^ m := h
    have p1 := part_lt l j m
    have p2 := part_lt l' j m
    have hm : part l j m = part l' j m := by
      have := congrArg (· % 256 ^ m) e
      simpa [Nat.add_mul_mod_self_right, Nat.mod_eq_of_lt p1, Nat.mod_eq_of_lt p2] using this
    have hb : (l.getD (8 * j + m) 0).toNat = (l'.getD (8 * j + m) 0).toNat := by
      have : (l.getD (8 * j + m) 0).toNat * 256 ^ m = (l'.getD (8 * j + m) 0).toNat * 256 ^ m := by omega
      exact Nat.eq_of_mul_eq_mul_right (Nat.pow_pos (by decide)) this
    intro k hk
    by_cases c : k = m
    · subst c; exact UInt8.toNat_inj.1 hb
    · exact ih hm k (by omega)
def lst (l : List UInt8) : Nat := part l (l.length / 8) 7 + l.length % 256 * 72057594037927936
theorem lst_lt (l : List UInt8) : lst l < 18446744073709551616 := by
  have h := part_lt l (l.length / 8) 7
  unfold lst
  omega
theorem part8_lt (l : List UInt8) (j : Nat) : part l j 8 < 18446744073709551616 := part_lt l j 8
/-- the jth of a text's words, as a number -/
def wn (l : List UInt8) (j : Nat) : Nat := if j < l.length / 8 then part l j 8 else lst l
theorem wn_lt (l : List UInt8) (j : Nat) : wn l j < 18446744073709551616 := by
  unfold wn; split
  · exact part8_lt l j
  · exact lst_lt l
def words (l : List UInt8) : List W := (List.range (l.length / 8 + 1)).map fun j => BitVec.ofNat 64 (wn l j)
theorem words_length (l : List UInt8) : (words l).length = l.length / 8 + 1 := by simp [words]
theorem words_get (l : List UInt8) (j : Nat) (h : j < l.length / 8 + 1) : (words l)[j]? = some (BitVec.ofNat 64 (wn l j)) := by
  simp [words, h]
theorem ofNat_inj (a b : Nat) (ha : a < 18446744073709551616) (hb : b < 18446744073709551616) (h : BitVec.ofNat 64 a = BitVec.ofNat 64 b) : a = b := by
  have := congrArg BitVec.toNat h
  rwa [BitVec.toNat_ofNat, BitVec.toNat_ofNat, Nat.mod_eq_of_lt ha, Nat.mod_eq_of_lt hb] at this
theorem words_inj (l l' : List UInt8) (h : words l = words l') : l = l' := by
  have hq : l.length / 8 = l'.length / 8 := by
    have := congrArg List.length h
    rw [words_length, words_length] at this
    omega
  have hw : ∀ j, j < l.length / 8 + 1 → wn l j = wn l' j := by
    intro j hj
    have := congrArg (·[j]?) h
    rw [words_get l j hj, words_get l' j (by omega)] at this
    exact ofNat_inj _ _ (wn_lt _ _) (wn_lt _ _) (Option.some.inj this)
  have hl := hw (l.length / 8) (by omega)
  unfold wn at hl
  rw [if_neg (by omega), if_neg (by omega)] at hl
  unfold lst at hl
  have p1 := part_lt l (l.length / 8) 7
  have p2 := part_lt l' (l'.length / 8) 7
  have hn : l.length = l'.length := by omega
  have hp : part l (l.length / 8) 7 = part l' (l.length / 8) 7 := by rw [← hn] at hl; omega
  apply List.ext_getElem hn
  intro i h1 h2
  have key : l.getD i 0 = l'.getD i 0 := by
    by_cases c : i / 8 < l.length / 8
    · have := hw (i / 8) (by omega)
      unfold wn at this
      rw [if_pos c, if_pos (by omega)] at this
      have := part_inj _ _ _ _ this (i % 8) (by omega)
      rwa [show 8 * (i / 8) + i % 8 = i by omega] at this
    · have := part_inj _ _ _ _ hp (i % 8) (by omega)
      rwa [show 8 * (l.length / 8) + i % 8 = i by omega] at this
  simpa [List.getD_eq_getElem?_getD, h1, h2] using key
/-- what comes of words, taken one by one -/
def takes (v : V) (ws : List W) : V := ws.foldl take v
theorem takes_snoc (v : V) (ws : List W) (k : Nat) (m : W) (h : ws[k]? = some m) : takes v (ws.take (k + 1)) = take (takes v (ws.take k)) m := by
  unfold takes
  have hk : k < ws.length := (List.getElem?_eq_some_iff.1 h).1
  rw [List.take_succ_eq_append_getElem hk, List.foldl_append]
  have : ws[k] = m := by have := List.getElem?_eq_getElem hk; rw [h] at this; exact (Option.some.inj this).symm
  rw [this]; rfl
def of (a b : W) (l : List UInt8) : W := fin (takes (start a b) (words l))
end Tg
end Go.Proofs.Ytcjpbmfdgheolaa
