/- The walks of DammLatin and DammTail: they answer true, whatever they are handed. -/
import Derived.Test.YtnejkmgeonfpbaaDLaw
import Derived.Laws.Concat
namespace Go.Proofs.Ytnejkmgeonfpbaa
open Go.RowKit

theorem latin_out (r a b : Int) (w : World) (h : r < 0 ∨ 9 < r ∨ a < 0 ∨ 9 < a ∨ b < 0 ∨ 9 < b) :
    Calls Try.prog 4 #[.int .i64 r, .int .i64 a, .int .i64 b] w fun e w' => e = .returned (.bool true) ∧ Below w.heap.size w w' := by
  by_cases h1 : r < 0
  · clear h
    go_enter Try.func4, Try.ntmps4
    go_wp2_with (go_at_call 13; refine (dbegun_any _).mono ?_; rintro e w3 ⟨rfl, rfl⟩)
    go_ret
    exact ⟨rfl, Below.refl _ _⟩
  by_cases h2 : 9 < r
  · clear h
    go_enter Try.func4, Try.ntmps4
    go_wp2_with (go_at_call 13; refine (dbegun_any _).mono ?_; rintro e w3 ⟨rfl, rfl⟩)
    go_ret
    exact ⟨rfl, Below.refl _ _⟩
  by_cases h3 : a < 0
  · clear h
    go_enter Try.func4, Try.ntmps4
    go_wp2_with (go_at_call 13; refine (dbegun_any _).mono ?_; rintro e w3 ⟨rfl, rfl⟩)
    go_ret
    exact ⟨rfl, Below.refl _ _⟩
  by_cases h4 : 9 < a
  · clear h
    go_enter Try.func4, Try.ntmps4
    go_wp2_with (go_at_call 13; refine (dbegun_any _).mono ?_; rintro e w3 ⟨rfl, rfl⟩)
    go_ret
    exact ⟨rfl, Below.refl _ _⟩
  by_cases h5 : b < 0
  · clear h
    go_enter Try.func4, Try.ntmps4
    go_wp2_with (go_at_call 13; refine (dbegun_any _).mono ?_; rintro e w3 ⟨rfl, rfl⟩)
    go_ret
    exact ⟨rfl, Below.refl _ _⟩
  have h6 : 9 < b := by omega
  clear h
  go_enter Try.func4, Try.ntmps4
  go_wp2_with (go_at_call 13; refine (dbegun_any _).mono ?_; rintro e w3 ⟨rfl, rfl⟩)
  go_ret
  exact ⟨rfl, Below.refl _ _⟩
theorem beq_iff_int (x y a b : Nat) (h : x = y ↔ a = b) : ((x : Int) == (y : Int)) = ((a : Int) == (b : Int)) := by
  rw [Bool.eq_iff_iff]
  simp only [beq_iff_eq]
  omega
set_option maxHeartbeats 1000000 in
theorem latin_in (r a b : Nat) (w : World) (hr : r < 10) (ha : a < 10) (hb : b < 10) :
    Calls Try.prog 4 #[.int .i64 r, .int .i64 a, .int .i64 b] w fun e w' => e = .returned (.bool true) ∧ Below w.heap.size w w' := by
  have l1 := Dm.st_lt r a hr ha
  have l2 := Dm.st_lt r b hr hb
  have hz : Dm.st a a = 0 := (Dm.st_zero a a ha ha).2 rfl
  have HZ : Hid (Dm.st a a = 0) := hz
  have q1 := beq_iff_int _ _ _ _ (Dm.st_digit r a b hr ha hb)
  have q2 := beq_iff_int _ _ _ _ (Dm.st_row r a b hr ha hb)
  have q3 := beq_iff_int _ _ _ _ (Dm.st_swap r a b hr ha hb)
  clear hz
  go_enter Try.func4, Try.ntmps4
  go_wp2_with (first
    | (go_at_call 13; refine (dbegun_any _).mono ?_; rintro e w3 ⟨rfl, rfl⟩)
    | (go_at_call 8; refine (pStep_yes _ _ _ (by omega) (by omega)).mono ?_; rintro e w3 ⟨rfl, rfl⟩))
  go_ret
  exact ⟨ret_bool (by rw [HZ.out]; rfl), Below.refl _ _⟩
theorem dammLatin_any (r a b : Int) (w : World) :
    Calls Try.prog 4 #[.int .i64 r, .int .i64 a, .int .i64 b] w fun e w' => e = .returned (.bool true) ∧ Below w.heap.size w w' := by
  by_cases h : r < 0 ∨ 9 < r ∨ a < 0 ∨ 9 < a ∨ b < 0 ∨ 9 < b
  · exact latin_out r a b w h
  · obtain ⟨r', rfl⟩ := Int.eq_ofNat_of_zero_le (show 0 ≤ r by omega)
    obtain ⟨a', rfl⟩ := Int.eq_ofNat_of_zero_le (show 0 ≤ a by omega)
    obtain ⟨b', rfl⟩ := Int.eq_ofNat_of_zero_le (show 0 ≤ b by omega)
    exact latin_in r' a' b' w (by omega) (by omega) (by omega)
theorem byte_of (b : Int) (h0 : 48 ≤ b) (h1 : b ≤ 57) : Dm.dg (UInt8.ofNat b.toNat) = true ∧ (Dm.dig (UInt8.ofNat b.toNat) : Int) = b - 48 ∧ ((UInt8.ofNat b.toNat).toNat : Int) = b := by
  have h : (UInt8.ofNat b.toNat).toNat = b.toNat := by rw [UInt8.toNat_ofNat']; omega
  unfold Dm.dg Dm.dig
  rw [h]
  refine ⟨by simp; omega, by omega, by omega⟩
theorem byteText_at (b : Int) (B : ByteArray) (w : World) (h : strOfNums [b] = B) :
    Calls Try.prog 14 #[.int .u8 b] w fun e w' => e = .returned (.string B) ∧ Below w.heap.size w w' := by
  subst h; exact byteText_any b w
theorem cat_ex (a b : ByteArray) (h : a.size + b.size ≤ 1000) : ∃ c : ByteArray, c.data.toList = a.data.toList ++ b.data.toList ∧ c.size = a.size + b.size ∧ ∀ wx, (Op.stringOp .add a b).run Try.prog wx = .ok (.string c) wx :=
  ⟨a ++ b, by simp [ByteArray.data_append], ByteArray.size_append, fun wx => run_string_add_sum wx a b (by omega)⟩
theorem isB_iff (r : Nat) (P : Prop) [Decidable P] (h : r = 0 ↔ P) : isB r 0 = decide P := by
  unfold isB
  simp [h]
set_option maxHeartbeats 1000000 in
theorem dammTail_any (s : ByteArray) (b : Int) (w : World) (hs : s.size ≤ maxLen) :
    Calls Try.prog 5 #[.string s, .int .u8 b] w fun e w' => e = .returned (.bool true) ∧ Below w.heap.size w w' := by
  by_cases h : Dm.code s.data.toList = 0
  · have hl := Dm.row_lt s.data.toList
    have hz : s.data.toList.length = s.size := by simp
    have h24 : s.size ≤ 24 := by have := (Dm.code_ok _ h).2; omega
    have ht := fun c hc hn => Dm.tail s.data.toList c hc h hn
    generalize hg : Dm.row s.data.toList = k at hl ht
    have HR : Hid (Dm.row s.data.toList = k) := hg
    have HC : Hid (Dm.code s.data.toList = 0) := h
    by_cases hn : s.size = 24
    · clear hg h ht hz
      go_enter Try.func5, Try.ntmps5
      go_wp2_with (first
        | (go_at_call 9; refine (pDigit_ok _ _ _ hs HR.out HC.out).mono ?_; rintro e w' ⟨rfl, rfl⟩)
        | (go_at_call 13; refine (dbegun_any _).mono ?_; rintro e w3 ⟨rfl, rfl⟩))
      go_ret
      exact ⟨rfl, Below.refl _ _⟩
    by_cases hb0 : b < 48
    · clear hg h ht hz
      have hn' : s.size < 24 := by omega
      go_enter Try.func5, Try.ntmps5
      go_wp2_with (first
        | (go_at_call 9; refine (pDigit_ok _ _ _ hs HR.out HC.out).mono ?_; rintro e w' ⟨rfl, rfl⟩)
        | (go_at_call 13; refine (dbegun_any _).mono ?_; rintro e w3 ⟨rfl, rfl⟩))
      all_goals first | omega | (go_ret; exact ⟨rfl, Below.refl _ _⟩)
    by_cases hb1 : 57 < b
    · clear hg h ht hz
      have hn' : s.size < 24 := by omega
      go_enter Try.func5, Try.ntmps5
      go_wp2_with (first
        | (go_at_call 9; refine (pDigit_ok _ _ _ hs HR.out HC.out).mono ?_; rintro e w' ⟨rfl, rfl⟩)
        | (go_at_call 13; refine (dbegun_any _).mono ?_; rintro e w3 ⟨rfl, rfl⟩))
      all_goals first | omega | (go_ret; exact ⟨rfl, Below.refl _ _⟩)
    · obtain ⟨g1, g2, _⟩ := byte_of b (by omega) (by omega)
      obtain ⟨t1, t2⟩ := ht _ g1 (by omega)
      obtain ⟨B, HB, hB1, hB2⟩ : ∃ B : ByteArray, Hid (strOfNums [b] = B) ∧ B.size = 1 ∧ B.data.toList = [UInt8.ofNat b.toNat] := ⟨_, rfl, rfl, rfl⟩
      obtain ⟨T, hT1, hT2, hT3⟩ := cat_ex s B (by omega)
      rw [← hB2, ← hT1] at t1 t2
      have hbk : isB (Dm.row T.data.toList) 0 = decide (b = 48 + (k : Int)) := isB_iff _ _ (by rw [t2]; omega)
      have hz2 : T.size ≤ maxLen := by unfold maxLen; omega
      have HT : Hid (Dm.code T.data.toList = 0 ∧ isB (Dm.row T.data.toList) 0 = decide (b = 48 + (k : Int))) := ⟨t1, hbk⟩
      have hn' : s.size < 24 := by omega
      have hq : ((s.size : Int) == 24) = false := by simp; omega
      clear hg h ht hz t1 t2 hbk g1 g2 hn hB1 hB2 hT1 hT2
      by_cases hbe : b = 48 + (k : Int)
      · subst hbe
        go_enter Try.func5, Try.ntmps5
        go_wp2_with (first
          | (go_at_call 9; refine (pDigit_ok _ _ _ hs HR.out HC.out).mono ?_; rintro e w' ⟨rfl, rfl⟩)
          | (go_at_call 13; refine (dbegun_any _).mono ?_; rintro e w3 ⟨rfl, rfl⟩)
          | (go_at_call 14; refine (byteText_at _ _ _ HB.out).mono ?_; rintro e w4 ⟨rfl, b4⟩)
          | (go_at_call 10; refine (pIs_is _ _ _ _ _ hz2 rfl HT.out.1 HT.out.2).mono ?_; rintro e w5 ⟨rfl, rfl⟩))
        all_goals first | omega | (go_ret; exact ⟨ret_bool (by simp <;> omega), b4⟩)
      ·
        go_enter Try.func5, Try.ntmps5
        go_wp2_with (first
          | (go_at_call 9; refine (pDigit_ok _ _ _ hs HR.out HC.out).mono ?_; rintro e w' ⟨rfl, rfl⟩)
          | (go_at_call 13; refine (dbegun_any _).mono ?_; rintro e w3 ⟨rfl, rfl⟩)
          | (go_at_call 14; refine (byteText_at _ _ _ HB.out).mono ?_; rintro e w4 ⟨rfl, b4⟩)
          | (go_at_call 10; refine (pIs_is _ _ _ _ _ hz2 rfl HT.out.1 HT.out.2).mono ?_; rintro e w5 ⟨rfl, rfl⟩))
        all_goals first | omega | (go_ret; exact ⟨ret_bool (by simp <;> omega), b4⟩)
  · have hb := Dm.code_bd s.data.toList
    generalize hg : Dm.code s.data.toList = k at hb h
    have HC : Hid (Dm.code s.data.toList = k) := hg
    have HN : Hid (k ≠ 0) := h
    have hk : 0 < k := by omega
    clear hg h
    go_enter Try.func5, Try.ntmps5
    go_wp2_with (first
      | (go_at_call 9; refine (pDigit_no _ _ _ hs HC.out HN.out).mono ?_; rintro e w' ⟨rfl, rfl⟩)
      | (go_at_call 13; refine (dbegun_any _).mono ?_; rintro e w3 ⟨rfl, rfl⟩))
    all_goals first | omega | (go_ret; exact ⟨ret_bool (by simp <;> omega), Below.refl _ _⟩)
end Go.Proofs.Ytnejkmgeonfpbaa
