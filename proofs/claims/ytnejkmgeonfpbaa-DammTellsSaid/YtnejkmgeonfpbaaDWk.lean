/- The walks of package damm: steps, digits, where a text leads. -/
import Derived.Test.YtnejkmgeonfpbaaBase
import Derived.Test.YtnejkmgeonfpbaaDm
namespace Go.Proofs.Ytnejkmgeonfpbaa
open Go.RowKit

theorem dwithin_any (n a b : Int) (w : World) :
    Calls Try.prog 15 #[.int .i64 n, .int .i64 a, .int .i64 b] w fun e w' => e = .returned (.bool (decide (a ≤ n) && decide (n ≤ b))) ∧ w' = w := by
  by_cases h1 : a ≤ n <;> by_cases h2 : n ≤ b
  all_goals
    simp [h1, h2]
    go_enter Try.func15, Try.ntmps15
    go_wp2
    go_ret
    exact ⟨rfl, rfl⟩
theorem dwithin_yes (n a b : Int) (w : World) (h1 : a ≤ n) (h2 : n ≤ b) :
    Calls Try.prog 15 #[.int .i64 n, .int .i64 a, .int .i64 b] w fun e w' => e = .returned (.bool true) ∧ w' = w :=
  (dwithin_any n a b w).mono fun _ _ h => ⟨h.1.trans (ret_bool (by simp [h1, h2])), h.2⟩
theorem dwithin_no (n a b : Int) (w : World) (h : n < a ∨ b < n) :
    Calls Try.prog 15 #[.int .i64 n, .int .i64 a, .int .i64 b] w fun e w' => e = .returned (.bool false) ∧ w' = w :=
  (dwithin_any n a b w).mono fun _ _ h' => ⟨h'.1.trans (ret_bool (by simp; omega)), h'.2⟩
theorem byte_get (n : Nat) (h : n < (ByteArray.mk Dm.tab.toArray).size) : (ByteArray.mk Dm.tab.toArray)[n] = Dm.byteAt n := by
  have h0 : n < Dm.tab.toArray.size := h
  have h' : n < Dm.tab.length := by simpa using h0
  show Dm.tab.toArray[n] = Dm.byteAt n
  unfold Dm.byteAt
  rw [List.getElem_toArray, List.getD_eq_getElem?_getD, List.getElem?_eq_getElem h']
  rfl
theorem step_num (c : UInt8) (n : Nat) (h : c.toNat = 48 + n) (hn : n < 10) : ((c.toNat : Int) - 48) % 256 = (n : Nat) := by omega
set_option maxHeartbeats 400000 in
theorem dstep_any (r d : Nat) (w : World) (hr : r < 10) (hd : d < 10) :
    Calls Try.prog 16 #[.int .i64 r, .int .i64 d] w fun e w' => e = .returned (.int .i64 (Dm.st r d : Nat)) ∧ w' = w := by
  have hb := Dm.st_byte r d hr hd
  have H : Hid ((Dm.byteAt (r * 10 + d)).toNat = 48 + Dm.st r d ∧ Dm.st r d < 10) := hb.2.2
  clear hb
  go_enter Try.func16, Try.ntmps16
  go_wp2
  go_ret
  refine ⟨ret_int (step_num _ _ ?_ H.out.2), rfl⟩
  exact (congrArg UInt8.toNat (byte_get _ (show r * 10 + d < 100 by omega))).trans H.out.1
theorem dstep_at (r : Nat) (x : Int) (d : Nat) (w : World) (hx : x = (d : Nat)) (hr : r < 10) (hd : d < 10) :
    Calls Try.prog 16 #[.int .i64 r, .int .i64 x] w fun e w' => e = .returned (.int .i64 (Dm.st r d : Nat)) ∧ w' = w := by
  subst hx; exact dstep_any r d w hr hd
theorem pStep_yes (r d : Nat) (w : World) (hr : r < 10) (hd : d < 10) :
    Calls Try.prog 8 #[.int .i64 r, .int .i64 d] w fun e w' => e = .returned (.tuple #[.int .i64 (Dm.st r d : Nat), .int .i64 0]) ∧ w' = w := by
  go_enter Try.func8, Try.ntmps8
  go_wp2_with (first
    | (go_at_call 15; refine (dwithin_yes _ _ _ _ (by omega) (by omega)).mono ?_; rintro e w' ⟨rfl, rfl⟩)
    | (go_at_call 16; refine (dstep_any r d _ hr hd).mono ?_; rintro e w' ⟨rfl, rfl⟩))
  go_ret2
  exact ⟨rfl, rfl⟩
theorem pStep_no (r d : Int) (w : World) (h : r < 0 ∨ 9 < r ∨ d < 0 ∨ 9 < d) :
    Calls Try.prog 8 #[.int .i64 r, .int .i64 d] w fun e w' => e = .returned (.tuple #[.int .i64 0, .int .i64 3]) ∧ w' = w := by
  by_cases h1 : decide (0 ≤ r) && decide (r ≤ 9)
  · have h2 : (decide (0 ≤ d) && decide (d ≤ 9)) = false := by simp at h1 ⊢; omega
    go_enter Try.func8, Try.ntmps8
    go_wp2_with (go_at_call 15; refine (dwithin_any _ _ _ _).mono ?_; rintro e w' ⟨rfl, rfl⟩; try rw [h1]; try rw [h2])
    go_ret2
    exact ⟨rfl, rfl⟩
  · have h1' : (decide (0 ≤ r) && decide (r ≤ 9)) = false := by simpa using h1
    clear h1
    go_enter Try.func8, Try.ntmps8
    go_wp2_with (go_at_call 15; refine (dwithin_any _ _ _ _).mono ?_; rintro e w' ⟨rfl, rfl⟩; rw [h1'])
    go_ret2
    exact ⟨rfl, rfl⟩
theorem at_byte (s : ByteArray) (k : Nat) (h : k < s.size) : s.data.toList[k]? = some s[k] := by
  rw [Array.getElem?_toList, Array.getElem?_eq_getElem (by simpa using h)]; rfl
set_option maxHeartbeats 400000 in
theorem digits_any (s : ByteArray) (w : World) (hs : s.size ≤ maxLen) :
    Calls Try.prog 19 #[.string s] w fun e w' => e = .returned (.bool (Dm.ok s.data.toList)) ∧ w' = w := by
  unfold maxLen at hs
  go_enter Try.func19, Try.ntmps19
  go_wp2
  go_loop [3, 6] (fun _ i => ∃ k : Nat, k ≤ s.size ∧ i = .int .i64 k ∧ Dm.ok (s.data.toList.take k) = true) (fun _ i => s.size - (intOf i).toNat)
  case atStart => exact ⟨0, Nat.zero_le _, rfl, rfl⟩
  case round =>
    obtain ⟨k, hk, rfl, hm⟩ := hrel
    have HM : Hid (Dm.ok (s.data.toList.take k) = true) := hm
    clear hm
    by_cases hlt : k < s.size
    · have HX : Hid (s.data.toList[k]? = some s[k]) := at_byte s k hlt
      cases hax : Dm.dg s[k] with
      | true =>
        have hd := Dm.dg_yes _ hax
        go_wp2
        go_round
        case rel => exact ⟨k + 1, by omega, by go_num, Dm.ok_take_succ _ k _ HX.out HM.out hax⟩
        case measure => simp [intOf]; omega
      | false =>
        have HB : Hid (Dm.ok s.data.toList = false) := Dm.ok_at _ k _ HX.out hax
        rcases Dm.dg_no _ hax with hd | hd
        · go_wp2
          go_ret
          exact ⟨ret_bool HB.out.symm, rfl⟩
        · go_wp2
          go_ret
          exact ⟨ret_bool HB.out.symm, rfl⟩
    · have HB : Hid (Dm.ok s.data.toList = true) := by have := HM.out; rwa [List.take_of_length_le (by simp; omega)] at this
      go_wp2
      go_ret
      exact ⟨ret_bool HB.out.symm, rfl⟩
set_option maxHeartbeats 400000 in
theorem lead_any (s : ByteArray) (w : World) (hs : s.size ≤ 24) (ho : Dm.ok s.data.toList = true) :
    Calls Try.prog 20 #[.int .i64 0, .string s, .func (.func 16) #[] #[]] w fun e w' => e = .returned (.int .i64 (Dm.lead 0 s.data.toList : Nat)) ∧ w' = w := by
  have HO : Hid (Dm.ok s.data.toList = true) := ho
  clear ho
  go_enter Try.func20, Try.ntmps20
  go_wp2
  go_loop [0, 7, 10] (fun r _ i => ∃ k : Nat, k ≤ s.size ∧ i = .int .i64 k ∧ r = .int .i64 (Dm.lead 0 (s.data.toList.take k) : Nat)) (fun _ _ i => s.size - (intOf i).toNat)
  case atStart => exact ⟨0, Nat.zero_le _, rfl, rfl⟩
  case round =>
    obtain ⟨k, hk, rfl, rfl⟩ := hrel
    by_cases hlt : k < s.size
    · have hx := at_byte s k hlt
      have hdg := Dm.ok_get _ k _ hx HO.out
      have hd := Dm.dg_yes _ hdg
      have HS : Hid (Dm.lead 0 (s.data.toList.take (k + 1)) = Dm.st (Dm.lead 0 (s.data.toList.take k)) (Dm.dig s[k])) := Dm.lead_take_succ 0 _ k _ hx
      have hr : Dm.lead 0 (s.data.toList.take k) < 10 := Dm.lead_lt _ 0 (by decide) (Dm.ok_take _ k HO.out)
      have hdl : Dm.dig s[k] < 10 := Dm.dig_lt _ hdg
      have hde : ((s[k].toNat : Int) - 48) = (Dm.dig s[k] : Nat) := by unfold Dm.dig; omega
      have HD : Hid (((s[k].toNat : Int) - 48) = (Dm.dig s[k] : Nat)) := hde
      clear hx hdg hde
      generalize Dm.lead 0 (s.data.toList.take k) = r at *
      generalize Dm.dig s[k] = d at *
      go_wp2_with (go_at_call 16; refine (dstep_at r _ d _ HD.out hr hdl).mono ?_; rintro e w' ⟨rfl, rfl⟩)
      go_round
      case rel => exact ⟨k + 1, by omega, by go_num, by rw [HS.out]⟩
      case measure => simp [intOf]; omega
    · have e1 : s.data.toList.take k = s.data.toList := List.take_of_length_le (by simp; omega)
      rw [e1]
      clear e1
      go_wp2
      go_ret
      exact ⟨rfl, rfl⟩
set_option maxHeartbeats 400000 in
theorem rowOf_any (s : ByteArray) (w : World) (hs : s.size ≤ maxLen) :
    Calls Try.prog 17 #[.string s] w fun e w' => e = .returned (.tuple #[.int .i64 (Dm.row s.data.toList : Nat), .int .i64 (Dm.code s.data.toList)]) ∧ w' = w := by
  have hz : s.data.toList.length = s.size := by simp
  have hm : s.size ≤ maxLen := hs
  unfold maxLen at hs
  cases ho : Dm.ok s.data.toList with
  | false =>
    have hc := Dm.code_form _ ho
    have H : Hid (Dm.row s.data.toList = 0 ∧ Dm.code s.data.toList = 1) := ⟨Dm.row_no _ (by rw [hc]; decide), hc⟩
    clear hc hz
    go_enter Try.func17, Try.ntmps17
    go_wp2_with (go_at_call 19; refine (digits_any _ _ hm).mono ?_; rintro e w' ⟨rfl, rfl⟩)
    go_ret2
    exact ⟨by rw [H.out.1, H.out.2]; rfl, rfl⟩
  | true =>
    by_cases hl : s.size ≤ 24
    · have hc := Dm.code_mk _ ho (by omega)
      have H : Hid (Dm.row s.data.toList = Dm.lead 0 s.data.toList ∧ Dm.code s.data.toList = 0) := ⟨Dm.row_ok _ hc, hc⟩
      have HO : Hid (Dm.ok s.data.toList = true) := ho
      clear hc hz
      go_enter Try.func17, Try.ntmps17
      go_wp2_with (first
        | (go_at_call 19; refine (digits_any _ _ hm).mono ?_; rintro e w' ⟨rfl, rfl⟩)
        | (go_at_call 20; refine (lead_any _ _ hl HO.out).mono ?_; rintro e w' ⟨rfl, rfl⟩))
      go_ret2
      exact ⟨by rw [H.out.1, H.out.2]; rfl, rfl⟩
    · have hc := Dm.code_many _ ho (by omega)
      have H : Hid (Dm.row s.data.toList = 0 ∧ Dm.code s.data.toList = 2) := ⟨Dm.row_no _ (by rw [hc]; decide), hc⟩
      clear hc hz
      go_enter Try.func17, Try.ntmps17
      go_wp2_with (go_at_call 19; refine (digits_any _ _ hm).mono ?_; rintro e w' ⟨rfl, rfl⟩)
      go_ret2
      exact ⟨by rw [H.out.1, H.out.2]; rfl, rfl⟩
theorem rowOf_at (s : ByteArray) (r : Nat) (c : Int) (w : World) (hs : s.size ≤ maxLen) (hr : Dm.row s.data.toList = r) (hc : Dm.code s.data.toList = c) :
    Calls Try.prog 17 #[.string s] w fun e w' => e = .returned (.tuple #[.int .i64 (r : Nat), .int .i64 c]) ∧ w' = w := by
  subst hr hc; exact rowOf_any s w hs
theorem pDigit_ok (s : ByteArray) (r : Nat) (w : World) (hs : s.size ≤ maxLen) (hr : Dm.row s.data.toList = r) (hc : Dm.code s.data.toList = 0) :
    Calls Try.prog 9 #[.string s] w fun e w' => e = .returned (.tuple #[.int .u8 (48 + (r : Nat)), .int .i64 0]) ∧ w' = w := by
  have hl : r < 10 := by have := Dm.row_lt s.data.toList; omega
  have HR : Hid (Dm.row s.data.toList = r) := hr
  have HC : Hid (Dm.code s.data.toList = 0) := hc
  clear hr hc
  go_enter Try.func9, Try.ntmps9
  go_wp2_with (go_at_call 17; refine (rowOf_at _ _ _ _ hs HR.out HC.out).mono ?_; rintro e w' ⟨rfl, rfl⟩)
  go_ret2
  exact ⟨rfl, rfl⟩
theorem pDigit_no (s : ByteArray) (c : Int) (w : World) (hs : s.size ≤ maxLen) (hc : Dm.code s.data.toList = c) (hn : c ≠ 0) :
    Calls Try.prog 9 #[.string s] w fun e w' => e = .returned (.tuple #[.int .u8 0, .int .i64 c]) ∧ w' = w := by
  have HR : Hid (Dm.row s.data.toList = 0) := Dm.row_no _ (by rw [hc]; exact hn)
  have HC : Hid (Dm.code s.data.toList = c) := hc
  clear hc
  go_enter Try.func9, Try.ntmps9
  go_wp2_with (go_at_call 17; refine (rowOf_at _ _ _ _ hs HR.out HC.out).mono ?_; rintro e w' ⟨rfl, rfl⟩)
  go_ret2
  exact ⟨rfl, rfl⟩
def isB (r : Nat) (c : Int) : Bool := decide (c = 0) && decide (r = 0)
theorem pIs_at (s : ByteArray) (r : Nat) (c : Int) (w : World) (hs : s.size ≤ maxLen) (hr : Dm.row s.data.toList = r) (hc : Dm.code s.data.toList = c) :
    Calls Try.prog 10 #[.string s] w fun e w' => e = .returned (.tuple #[.bool (isB r c), .int .i64 c]) ∧ w' = w := by
  have hb := Dm.code_bd s.data.toList
  rw [hc] at hb
  have HR : Hid (Dm.row s.data.toList = r) := hr
  have HC : Hid (Dm.code s.data.toList = c) := hc
  clear hr hc
  by_cases h1 : c = 0
  · subst h1
    by_cases h2 : r = 0
    · subst h2
      go_enter Try.func10, Try.ntmps10
      go_wp2_with (go_at_call 17; refine (rowOf_at _ _ _ _ hs HR.out HC.out).mono ?_; rintro e w' ⟨rfl, rfl⟩)
      go_ret2
      exact ⟨rfl, rfl⟩
    · have hb0 : isB r 0 = false := by unfold isB; simp [h2]
      have HB : Hid (isB r 0 = false) := hb0
      clear hb0
      have h3 : 0 < r := by omega
      clear h2
      go_enter Try.func10, Try.ntmps10
      go_wp2_with (go_at_call 17; refine (rowOf_at _ _ _ _ hs HR.out HC.out).mono ?_; rintro e w' ⟨rfl, rfl⟩)
      go_ret2
      exact ⟨by rw [HB.out] <;> simp <;> omega, rfl⟩
  · have hb0 : isB r c = false := by unfold isB; simp [h1]
    have HB : Hid (isB r c = false) := hb0
    clear hb0
    have h3 : 0 < c := by omega
    clear h1
    go_enter Try.func10, Try.ntmps10
    go_wp2_with (go_at_call 17; refine (rowOf_at _ _ _ _ hs HR.out HC.out).mono ?_; rintro e w' ⟨rfl, rfl⟩)
    go_ret2
    exact ⟨by rw [HB.out] <;> simp <;> omega, rfl⟩
end Go.Proofs.Ytnejkmgeonfpbaa
