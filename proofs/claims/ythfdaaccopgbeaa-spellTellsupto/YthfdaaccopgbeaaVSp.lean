/- The document's answer on spelling: a text's bits, a byte's letter, a text by its letters. -/
import Derived.Test.YthfdaaccopgbeaaSBeg
namespace Go.Proofs.Ythfdaaccopgbeaa
open Go.RowKit

namespace Sp
theorem bt_get (k n i : Nat) (h : i < k) : (bt k n)[i]? = some (n.testBit (k - 1 - i)) := by
  induction k generalizing i with
  | zero => omega
  | succ k ih =>
    cases i with
    | zero => simp [bt]
    | succ i =>
      simp only [bt, List.getElem?_cons_succ]
      rw [ih i (by omega)]
      congr 2
      omega
theorem flat_get (ns : List Nat) (i : Nat) (h : i < 8 * ns.length) : (flat 8 ns)[i]? = some ((ns.getD (i / 8) 0).testBit (7 - i % 8)) := by
  induction ns generalizing i with
  | nil => simp at h
  | cons n ns ih =>
    simp only [flat]
    have e := bt_length 8 n
    by_cases h8 : i < 8
    · rw [List.getElem?_append_left (by omega), bt_get 8 n i h8]
      rw [show i / 8 = 0 by omega, show i % 8 = i by omega]
      rfl
    · rw [List.getElem?_append_right (by omega), e, ih (i - 8) (by simp at h; omega)]
      rw [show i / 8 = (i - 8) / 8 + 1 by omega, show (i - 8) % 8 = i % 8 by omega]
      rfl
theorem chunk_succ (k m : Nat) (l : List Bool) : chunk k (m + 1) l = chunk k m l ++ [vl 0 ((l.drop (k * m)).take k)] := by
  induction m generalizing l with
  | zero => simp [chunk]
  | succ m ih =>
    rw [chunk, ih, chunk, List.cons_append, List.drop_drop]
    congr 6
    rw [Nat.mul_succ]; omega
theorem vl_snoc (a : Nat) (l : List Bool) (b : Bool) : vl a (l ++ [b]) = 2 * vl a l + b.toNat := by
  induction l generalizing a with
  | nil => simp [vl]
  | cons c l ih => simp [vl, ih]
theorem vl_step (B : List Bool) (p k : Nat) (b : Bool) (h : B[p + k]? = some b) : vl 0 ((B.drop p).take (k + 1)) = 2 * vl 0 ((B.drop p).take k) + b.toNat := by
  rw [List.take_add_one, List.getElem?_drop, h, ← vl_snoc]
  rfl
theorem vl_take_lt (B : List Bool) (p k : Nat) : vl 0 ((B.drop p).take k) < 2 ^ k := by
  refine Nat.lt_of_lt_of_le (vl_lt _) (Nat.pow_le_pow_right (by decide) ?_)
  simp; omega
/-- the bits of a text, and noughts behind them -/
def tb (s : ByteArray) : List Bool := flat 8 (nat s.data.toList) ++ List.replicate 4 false
theorem tb_in (s : ByteArray) (i : Nat) (h : i < 8 * s.size) (hq : i / 8 < s.size) : (tb s)[i]? = some ((s[i / 8]'hq).toNat.testBit (7 - i % 8)) := by
  unfold tb
  have hl : (flat 8 (nat s.data.toList)).length = 8 * s.size := by rw [flat_length, nat_length, list_len]
  rw [List.getElem?_append_left (by omega), flat_get _ _ (by rw [nat_length, list_len]; exact h)]
  congr 2
  unfold nat
  have h2 : i / 8 < s.data.toList.length := by rw [list_len]; exact hq
  simp [List.getD, List.getElem?_map]
  rw [Array.getElem?_eq_getElem (by simpa using h2)]
  rfl
theorem tb_out (s : ByteArray) (i : Nat) (h : ¬ i < 8 * s.size) (h4 : i < 8 * s.size + 4) : (tb s)[i]? = some false := by
  unfold tb
  have hl : (flat 8 (nat s.data.toList)).length = 8 * s.size := by rw [flat_length, nat_length, list_len]
  rw [List.getElem?_append_right (by omega), List.getElem?_replicate, if_pos (by omega)]
end Sp
set_option maxRecDepth 100000 in
set_option maxHeartbeats 4000000 in
theorem bitAt_any (s : ByteArray) (i : Nat) (z : Int) (hz : z = (i : Int)) (h : i < 8 * s.size) (hs : s.size ≤ 1048576) (b : Bool) (hb : (Sp.tb s)[i]? = some b) (w : World) :
    Calls Try.prog 21 #[.string s, .int .i64 z] w fun e w' => e = .returned (.int .i64 ((b.toNat : Nat) : Int)) ∧ w' = w := by
  obtain ⟨q, hq⟩ : ∃ q, i / 8 = q := ⟨_, rfl⟩
  obtain ⟨r, hr⟩ : ∃ r, i % 8 = r := ⟨_, rfl⟩
  have hqs : q < s.size := by omega
  have hbit := Sp.tb_in s i h (by omega)
  rw [hb] at hbit
  have hbit2 := Option.some.inj hbit
  clear hbit
  obtain ⟨e, he⟩ : ∃ e, 7 - i % 8 = e := ⟨_, rfl⟩
  have HB : Hid ((s[q]'hqs).toNat / 2 ^ e % 2 = b.toNat) := by
    show _ = _
    rw [hbit2, Nat.toNat_testBit]
    subst hq he
    rfl
  have z0 : (0 : Int) ≤ z := by omega
  have zb : z ≤ 10000000 := by omega
  have z1 : z / 8 = (q : Int) := by omega
  have z2 : z % 8 = (r : Int) := by omega
  have z3 : (7 : Int) - (r : Int) = (e : Int) := by omega
  have z4 : (e : Int) ≤ 7 := by omega
  have z5 : (q : Int) < (s.size : Int) := by omega
  have z6 : (s.size : Int) ≤ 1048576 := by omega
  clear hbit2 hb h hs hq hr he hz
  generalize b.toNat = bn at *
  have hc := (s[q]'hqs).toNat_lt
  generalize hC : (s[q]'hqs).toNat = C at *
  go_enter Try.func21, Try.ntmps21
  go_wp2
  go_loop [5, 6] (fun n k => ∃ K X : Nat, K ≤ e ∧ X < 256 ∧ Hid (C / 2 ^ K = X) ∧ n = .int .i64 (X : Int) ∧ k = .int .i64 (K : Int)) (fun _ k => e - (intOf k).toNat)
  case atStart => exact ⟨0, C, Nat.zero_le _, hc, by show C / 2 ^ 0 = C; simp, rfl, rfl⟩
  case round =>
    obtain ⟨K, X, hK, hX, HX, rfl, rfl⟩ := hrel
    by_cases hlt : K < e
    · have hz : (K : Int) < (e : Int) := by omega
      go_wp2
      go_round
      case rel => exact ⟨K + 1, X / 2, by omega, by omega, by show _ = _; rw [Nat.pow_succ, ← Nat.div_div_eq_div_mul, HX.out], rfl, by go_num⟩
      case measure => simp [intOf]; omega
    · have hz : ¬ (K : Int) < (e : Int) := by omega
      obtain rfl : K = e := by omega
      have hx : (X : Int) % 2 = (bn : Int) := by have e1 := HB.out; rw [HX.out] at e1; omega
      go_wp2
      go_ret
      exact ⟨rfl, rfl⟩
def smlB : ByteArray := ⟨#[48, 49, 50, 51, 52, 53, 54, 55, 56, 57, 97, 98, 99, 100, 101, 102, 103, 104, 106, 107, 109, 110, 112, 113, 114, 115, 116, 118, 119, 120, 121, 122]⟩
set_option maxRecDepth 100000 in
theorem lt_hit (c : UInt8) : ∀ k : Fin 32, (letB.data.toList.getD k 0 = c ∨ smlB.data.toList.getD k 0 = c) → Sp.lt c = k := by
  apply Sp.all_bytes (fun c => ∀ k : Fin 32, (letB.data.toList.getD k 0 = c ∨ smlB.data.toList.getD k 0 = c) → Sp.lt c = k)
  decide +kernel
set_option maxRecDepth 100000 in
theorem lt_miss (c : UInt8) : (∀ k : Fin 32, letB.data.toList.getD k 0 ≠ c ∧ smlB.data.toList.getD k 0 ≠ c) → Sp.lt c = if c = 111 ∨ c = 79 then 0 else if c = 105 ∨ c = 73 ∨ c = 108 ∨ c = 76 then 1 else if c = 45 then 32 else 33 := by
  apply Sp.all_bytes (fun c => (∀ k : Fin 32, letB.data.toList.getD k 0 ≠ c ∧ smlB.data.toList.getD k 0 ≠ c) → Sp.lt c = if c = 111 ∨ c = 79 then 0 else if c = 105 ∨ c = 73 ∨ c = 108 ∨ c = 76 then 1 else if c = 45 then 32 else 33)
  decide +kernel
theorem at_getD (F : ByteArray) (k : Nat) (h : k < F.size) : F.data.toList.getD k 0 = F[k]'h := by
  have h2 : k < F.data.toList.length := by rw [list_len]; exact h
  simp [List.getD, List.getElem?_eq_getElem h2]
  rfl
theorem u8_eq {a b : UInt8} : ((a.toNat : Nat) : Int) = ((b.toNat : Nat) : Int) ↔ a = b := by
  constructor
  · intro h
    have : a.toNat = b.toNat := by omega
    exact UInt8.toNat_inj.1 this
  · intro h; rw [h]
theorem u8_lit {a : UInt8} {n : Nat} (hn : n < 256) : ((a.toNat : Nat) : Int) = (n : Int) ↔ a = UInt8.ofNat n := by
  constructor
  · intro h
    have : a.toNat = n := by omega
    rw [← this]; simp
  · intro h; rw [h]; simp; omega
set_option maxRecDepth 100000 in
set_option maxHeartbeats 4000000 in
theorem ltail (c : UInt8) (C : Int) (hC : C = ((c.toNat : Nat) : Int)) (v : Nat) (hv : v = if c = 111 ∨ c = 79 then 0 else if c = 105 ∨ c = 73 ∨ c = 108 ∨ c = 76 then 1 else if c = 45 then 32 else 33) :
    (C = 111 ∧ v = 0) ∨ (C = 79 ∧ v = 0) ∨ (C = 105 ∧ v = 1) ∨ (C = 73 ∧ v = 1) ∨ (C = 108 ∧ v = 1) ∨ (C = 76 ∧ v = 1) ∨ (C = 45 ∧ v = 32) ∨ (C ≠ 111 ∧ C ≠ 79 ∧ C ≠ 105 ∧ C ≠ 73 ∧ C ≠ 108 ∧ C ≠ 76 ∧ C ≠ 45 ∧ v = 33) := by
  have k1 : C = 111 ↔ c = 111 := by rw [hC]; exact u8_lit (n := 111) (by decide)
  have k2 : C = 79 ↔ c = 79 := by rw [hC]; exact u8_lit (n := 79) (by decide)
  have k3 : C = 105 ↔ c = 105 := by rw [hC]; exact u8_lit (n := 105) (by decide)
  have k4 : C = 73 ↔ c = 73 := by rw [hC]; exact u8_lit (n := 73) (by decide)
  have k5 : C = 108 ↔ c = 108 := by rw [hC]; exact u8_lit (n := 108) (by decide)
  have k6 : C = 76 ↔ c = 76 := by rw [hC]; exact u8_lit (n := 76) (by decide)
  have k7 : C = 45 ↔ c = 45 := by rw [hC]; exact u8_lit (n := 45) (by decide)
  rw [k1, k2, k3, k4, k5, k6, k7]
  show _ ∨ _ ∨ _ ∨ _ ∨ _ ∨ _ ∨ _ ∨ (¬ C = 111 ∧ ¬ C = 79 ∧ ¬ C = 105 ∧ ¬ C = 73 ∧ ¬ C = 108 ∧ ¬ C = 76 ∧ ¬ C = 45 ∧ v = 33)
  rw [k1, k2, k3, k4, k5, k6, k7]
  clear k1 k2 k3 k4 k5 k6 k7 hC
  split at hv
  · rename_i h; rcases h with h | h
    · exact .inl ⟨h, hv⟩
    · exact .inr (.inl ⟨h, hv⟩)
  · split at hv
    · rename_i h; rcases h with h | h | h | h
      · exact .inr (.inr (.inl ⟨h, hv⟩))
      · exact .inr (.inr (.inr (.inl ⟨h, hv⟩)))
      · exact .inr (.inr (.inr (.inr (.inl ⟨h, hv⟩))))
      · exact .inr (.inr (.inr (.inr (.inr (.inl ⟨h, hv⟩)))))
    · split at hv
      · rename_i h; exact .inr (.inr (.inr (.inr (.inr (.inr (.inl ⟨h, hv⟩))))))
      · rename_i h1 h2 h3
        rw [not_or] at h1 h2
        rw [not_or, not_or] at h2
        exact .inr (.inr (.inr (.inr (.inr (.inr (.inr ⟨h1.1, h1.2, h2.1, h2.2.1, h2.2.2.1, h2.2.2.2, h3, hv⟩))))))
set_option maxRecDepth 100000 in
set_option maxHeartbeats 4000000 in
theorem rletter_any (c : UInt8) (w : World) :
    Calls Try.prog 22 #[.int .u8 ((c.toNat : Nat) : Int)] w fun e w' => e = .returned (.int .i64 ((Sp.lt c : Nat) : Int)) ∧ w' = w := by
  obtain ⟨F, hF⟩ : ∃ F, F = letB := ⟨_, rfl⟩
  obtain ⟨G, hG⟩ : ∃ G, G = smlB := ⟨_, rfl⟩
  have zF : F.size = 32 := by rw [hF]; rfl
  have zG : G.size = 32 := by rw [hG]; rfl
  have HH : Hid (∀ k, k < 32 → (F.data.toList.getD k 0 = c ∨ G.data.toList.getD k 0 = c) → Sp.lt c = k) := by intro k hk; rw [hF, hG]; exact lt_hit c ⟨k, hk⟩
  have HM : Hid ((∀ k, k < 32 → F.data.toList.getD k 0 ≠ c ∧ G.data.toList.getD k 0 ≠ c) → Sp.lt c = if c = 111 ∨ c = 79 then 0 else if c = 105 ∨ c = 73 ∨ c = 108 ∨ c = 76 then 1 else if c = 45 then 32 else 33) := by
    intro h; rw [hF, hG] at h; exact lt_miss c (fun k => h k.val k.isLt)
  have sF : Value.string ⟨#[48, 49, 50, 51, 52, 53, 54, 55, 56, 57, 65, 66, 67, 68, 69, 70, 71, 72, 74, 75, 77, 78, 80, 81, 82, 83, 84, 86, 87, 88, 89, 90]⟩ = .string F := by rw [hF]; rfl
  have sG : Value.string ⟨#[48, 49, 50, 51, 52, 53, 54, 55, 56, 57, 97, 98, 99, 100, 101, 102, 103, 104, 106, 107, 109, 110, 112, 113, 114, 115, 116, 118, 119, 120, 121, 122]⟩ = .string G := by rw [hG]; rfl
  have SF : Hid (Value.string ⟨#[48, 49, 50, 51, 52, 53, 54, 55, 56, 57, 65, 66, 67, 68, 69, 70, 71, 72, 74, 75, 77, 78, 80, 81, 82, 83, 84, 86, 87, 88, 89, 90]⟩ = .string F) := sF
  have SG : Hid (Value.string ⟨#[48, 49, 50, 51, 52, 53, 54, 55, 56, 57, 97, 98, 99, 100, 101, 102, 103, 104, 106, 107, 109, 110, 112, 113, 114, 115, 116, 118, 119, 120, 121, 122]⟩ = .string G) := sG
  clear sF sG hF hG
  generalize Sp.lt c = v at *
  obtain ⟨C, hC⟩ : ∃ C, ((c.toNat : Nat) : Int) = C := ⟨_, rfl⟩
  have HC : Hid (((c.toNat : Nat) : Int) = C) := hC
  rw [hC]
  clear hC
  go_enter Try.func22, Try.ntmps22
  go_wp2
  rw [SF.out, SG.out]
  go_loop [5] (fun i => ∃ k : Nat, k ≤ 32 ∧ i = .int .i64 (k : Int) ∧ Hid (∀ j, j < k → F.data.toList.getD j 0 ≠ c ∧ G.data.toList.getD j 0 ≠ c)) (fun i => 32 - (intOf i).toNat)
  case atStart => exact ⟨0, Nat.zero_le _, rfl, (fun j hj => by omega : ∀ j, j < 0 → F.data.toList.getD j 0 ≠ c ∧ G.data.toList.getD j 0 ≠ c)⟩
  case round =>
    obtain ⟨k, hk, rfl, HJ⟩ := hrel
    by_cases hlt : k < 32
    · have hkz : (k : Int) < 32 := by omega
      have hkF : k < F.size := by omega
      have hkG : k < G.size := by omega
      have eF := at_getD F k hkF
      have eG := at_getD G k hkG
      have h1 := HH.out k hlt
      have h2 : (F.data.toList.getD k 0 ≠ c ∧ G.data.toList.getD k 0 ≠ c) → ∀ j, j < k + 1 → F.data.toList.getD j 0 ≠ c ∧ G.data.toList.getD j 0 ≠ c := by
        intro hh j hj
        by_cases e : j = k
        · subst e; exact hh
        · exact HJ.out j (by omega)
      rw [eF, eG] at h1 h2
      have i1 : (0 : Int) ≤ (k : Int) := by omega
      have i2 : (k : Int) < (F.size : Int) := by omega
      have i3 : (k : Int) < (G.size : Int) := by omega
      by_cases hf : F[k]'hkF = c
      · have hv := h1 (Or.inl hf)
        have q : (((F[k]'hkF).toNat : Nat) : Int) = C := by rw [hf]; exact HC.out
        subst hv
        clear h1 h2 eF eG hf HJ
        go_wp2
        go_ret
        exact ⟨rfl, rfl⟩
      · have q : ¬ (((F[k]'hkF).toNat : Nat) : Int) = C := by rw [← HC.out]; intro e; exact hf (u8_eq.1 e)
        by_cases hg : G[k]'hkG = c
        · have hv := h1 (Or.inr hg)
          have q2 : (((G[k]'hkG).toNat : Nat) : Int) = C := by rw [hg]; exact HC.out
          subst hv
          clear h1 h2 eF eG hf hg HJ
          go_wp2
          go_ret
          exact ⟨rfl, rfl⟩
        · have q2 : ¬ (((G[k]'hkG).toNat : Nat) : Int) = C := by rw [← HC.out]; intro e; exact hg (u8_eq.1 e)
          have H2 : Hid (∀ j, j < k + 1 → F.data.toList.getD j 0 ≠ c ∧ G.data.toList.getD j 0 ≠ c) := h2 ⟨hf, hg⟩
          clear h1 h2 eF eG hf hg HJ
          have q3 : ((((F[k]'hkF).toNat : Nat) : Int) == C) = false := by simpa using q
          have q4 : ((((G[k]'hkG).toNat : Nat) : Int) == C) = false := by simpa using q2
          go_wp2
          go_round
          case rel => exact ⟨k + 1, by omega, by go_num, H2⟩
          case measure => simp [intOf]; omega
    · have hkz : ¬ (k : Int) < 32 := by omega
      have hv := HM.out (fun j hj => HJ.out j (by omega))
      have ht := ltail c C HC.out.symm v hv
      clear hv HJ HM HH
      rcases ht with ⟨rfl, rfl⟩ | ⟨rfl, rfl⟩ | ⟨rfl, rfl⟩ | ⟨rfl, rfl⟩ | ⟨rfl, rfl⟩ | ⟨rfl, rfl⟩ | ⟨rfl, rfl⟩ | ⟨n1, n2, n3, n4, n5, n6, n7, rfl⟩
      rotate_left 7
      · have m1 : (C == 111) = false := by simpa using n1
        have m2 : (C == 79) = false := by simpa using n2
        have m3 : (C == 105) = false := by simpa using n3
        have m4 : (C == 73) = false := by simpa using n4
        have m5 : (C == 108) = false := by simpa using n5
        have m6 : (C == 76) = false := by simpa using n6
        have m7 : (C == 45) = false := by simpa using n7
        go_wp2
        go_ret
        exact ⟨rfl, rfl⟩
      all_goals
        go_wp2
        go_ret
        exact ⟨rfl, rfl⟩
end Go.Proofs.Ythfdaaccopgbeaa
