/- The walks of the reference's digits, and of a text of one byte. -/
import Derived.Test.YtnejkmgeonfpbaaDWk
import Derived.Laws.BytesArg
import Derived.Laws.IdiomStrings
namespace Go.Proofs.Ytnejkmgeonfpbaa
open Go.RowKit

theorem byteText_any (b : Int) (w : World) :
    Calls Try.prog 14 #[.int .u8 b] w fun e w' => e = .returned (.string (strOfNums [b])) ∧ Below w.heap.size w w' := by
  have hcv := run_convert_bytes_arg (P := Try.prog) (w.alloc (.cells #[.int .u8 b] 5)) 43 5 Try.underlying43 Try.underlying5 w.heap.size 0 1 1 [b] rfl
    (fun i hi => by obtain rfl : i = 0 := by omega
                    simp) 9 Try.underlying9
  go_enter Try.func14, Try.ntmps14
  go_wp2
  go_ret
  exact ⟨rfl, below_box _ _⟩
theorem row_str (r : Nat) (s : ByteArray) (h : s.size = 10) (hd : ∀ d : Fin 10, s.data[d.1]? = some (Dm.byteAt (r * 10 + d.1))) : s.size = 10 ∧ ∀ d : Nat, (h : d < s.size) → s[d] = Dm.byteAt (r * 10 + d) := by
  refine ⟨h, fun d hlt => ?_⟩
  have := hd ⟨d, by omega⟩
  dsimp only at this
  have hlt' : d < s.data.size := hlt
  rw [Array.getElem?_eq_getElem hlt'] at this
  exact Option.some.inj this
set_option maxHeartbeats 400000 in
theorem refRow_any (r : Nat) (w : World) (hr : r < 10) :
    Calls Try.prog 18 #[.int .i64 r] w fun e w' => ∃ s : ByteArray, e = .returned (.string s) ∧ (s.size = 10 ∧ ∀ d : Nat, (h : d < s.size) → s[d] = Dm.byteAt (r * 10 + d)) ∧ Below w.heap.size w w' := by
  go_enter Try.func18, Try.ntmps18
  go_wp2
  go_ret
  match r, hr with
  | 0, _ => exact ⟨_, rfl, row_str 0 _ rfl (by decide), below_box _ _⟩
  | 1, _ => exact ⟨_, rfl, row_str 1 _ rfl (by decide), below_box _ _⟩
  | 2, _ => exact ⟨_, rfl, row_str 2 _ rfl (by decide), below_box _ _⟩
  | 3, _ => exact ⟨_, rfl, row_str 3 _ rfl (by decide), below_box _ _⟩
  | 4, _ => exact ⟨_, rfl, row_str 4 _ rfl (by decide), below_box _ _⟩
  | 5, _ => exact ⟨_, rfl, row_str 5 _ rfl (by decide), below_box _ _⟩
  | 6, _ => exact ⟨_, rfl, row_str 6 _ rfl (by decide), below_box _ _⟩
  | 7, _ => exact ⟨_, rfl, row_str 7 _ rfl (by decide), below_box _ _⟩
  | 8, _ => exact ⟨_, rfl, row_str 8 _ rfl (by decide), below_box _ _⟩
  | 9, _ => exact ⟨_, rfl, row_str 9 _ rfl (by decide), below_box _ _⟩
theorem step_num2 (c : UInt8) (n : Nat) (h : c.toNat = 48 + n) : ((c.toNat : Int) - 48) = (n : Nat) := by omega
set_option maxHeartbeats 400000 in
theorem refStep_yes (r d : Nat) (w : World) (hr : r < 10) (hd : d < 10) :
    Calls Try.prog 11 #[.int .i64 r, .int .i64 d] w fun e w' => e = .returned (.tuple #[.int .i64 (Dm.st r d : Nat), .int .i64 0]) ∧ Below w.heap.size w w' := by
  have hb := Dm.st_byte r d hr hd
  have H : Hid ((Dm.byteAt (r * 10 + d)).toNat = 48 + Dm.st r d) := hb.2.2.1
  have hb1 := hb.1
  have hb2 := hb.2.1
  clear hb
  go_enter Try.func11, Try.ntmps11
  go_wp2_with (go_at_call 18; refine (refRow_any r _ hr).mono ?_; rintro e w1 ⟨s, rfl, ⟨hz, hs⟩, b1⟩)
  go_ret2
  exact ⟨ret_two (step_num2 _ _ H.out), b1⟩
theorem refStep_at (r : Nat) (x : Int) (d : Nat) (w : World) (hx : x = (d : Nat)) (hr : r < 10) (hd : d < 10) :
    Calls Try.prog 11 #[.int .i64 r, .int .i64 x] w fun e w' => e = .returned (.tuple #[.int .i64 (Dm.st r d : Nat), .int .i64 0]) ∧ Below w.heap.size w w' := by
  subst hx; exact refStep_yes r d w hr hd
set_option maxHeartbeats 400000 in
theorem refStep_no (r d : Int) (w : World) (h : r < 0 ∨ 9 < r ∨ d < 0 ∨ 9 < d) :
    Calls Try.prog 11 #[.int .i64 r, .int .i64 d] w fun e w' => e = .returned (.tuple #[.int .i64 0, .int .i64 3]) ∧ Below w.heap.size w w' := by
  rcases h with h | h
  · go_enter Try.func11, Try.ntmps11
    go_wp2
    go_ret2
    exact ⟨rfl, Below.refl _ _⟩
  by_cases h1 : r < 0
  · go_enter Try.func11, Try.ntmps11
    go_wp2
    go_ret2
    exact ⟨rfl, Below.refl _ _⟩
  rcases h with h | h
  · go_enter Try.func11, Try.ntmps11
    go_wp2
    go_ret2
    exact ⟨rfl, Below.refl _ _⟩
  by_cases h2 : 9 < r
  · go_enter Try.func11, Try.ntmps11
    go_wp2
    go_ret2
    exact ⟨rfl, Below.refl _ _⟩
  rcases h with h | h
  · go_enter Try.func11, Try.ntmps11
    go_wp2
    go_ret2
    exact ⟨rfl, Below.refl _ _⟩
  by_cases h3 : d < 0
  · go_enter Try.func11, Try.ntmps11
    go_wp2
    go_ret2
    exact ⟨rfl, Below.refl _ _⟩
  · go_enter Try.func11, Try.ntmps11
    go_wp2
    go_ret2
    exact ⟨rfl, Below.refl _ _⟩
theorem take_ext (s : ByteArray) (n : Nat) : (s.extract 0 n).data.toList = s.data.toList.take n := by simp
set_option maxHeartbeats 1000000 in
theorem led_ok (n : Nat) : ∀ (s : ByteArray) (w : World), s.size = n → n ≤ 24 → Dm.ok s.data.toList = true →
    Calls Try.prog 12 #[.string s] w fun e w' => e = .returned (.tuple #[.int .i64 (Dm.lead 0 s.data.toList : Nat), .int .i64 0]) ∧ Below w.heap.size w w' := by
  induction n with
  | zero =>
    intro s w hs hn ho
    have H : Hid (Dm.lead 0 s.data.toList = 0) := by
      have : s.data.toList = [] := List.eq_nil_of_length_eq_zero (by simpa using hs)
      show _ = _
      rw [this]; rfl
    clear ho
    go_enter Try.func12, Try.ntmps12
    go_wp2
    go_loop [4] (fun i => i = .int .i64 0) (fun _ => 0)
    case atStart => rfl
    case round =>
      subst hrel
      go_wp2
      go_ret2
      exact ⟨by rw [H.out]; rfl, Below.refl _ _⟩
  | succ n ih =>
    intro s w hs hn ho
    have HO : Hid (Dm.ok s.data.toList = true) := ho
    clear ho
    go_enter Try.func12, Try.ntmps12
    go_wp2
    go_loop [4] (fun i => ∃ k : Nat, k ≤ s.size ∧ i = .int .i64 k) (fun i => s.size - (intOf i).toNat)
    case atStart => exact ⟨0, Nat.zero_le _, rfl⟩
    case round =>
      obtain ⟨k, hk, rfl⟩ := hrel
      by_cases hlt : k < s.size
      · have hd := Dm.dg_yes _ (Dm.ok_get _ k _ (at_byte s k hlt) HO.out)
        go_wp2
        go_round
        case rel => exact ⟨k + 1, by omega, by go_num⟩
        case measure => simp [intOf]; omega
      · have hx := at_byte s n (by omega)
        have hdg := Dm.ok_get _ n _ hx HO.out
        have hdl : Dm.dig s[n] < 10 := Dm.dig_lt _ hdg
        have hd := Dm.dg_yes _ hdg
        have HD : Hid (((s[n].toNat : Int) - 48) = (Dm.dig s[n] : Nat)) := by show _ = _; unfold Dm.dig; omega
        have hok := Dm.ok_take _ n HO.out
        have HT : Hid (Dm.ok (s.extract 0 n).data.toList = true) := by show _ = _; rw [take_ext]; exact hok
        have hr : Dm.lead 0 (s.data.toList.take n) < 10 := Dm.lead_lt _ 0 (by decide) hok
        have hls := Dm.lead_take_succ 0 _ n _ hx
        rw [List.take_of_length_le (show s.data.toList.length ≤ n + 1 by simp; omega)] at hls
        have HS : Hid (Dm.lead 0 s.data.toList = Dm.st (Dm.lead 0 (s.data.toList.take n)) (Dm.dig s[n])) := hls
        have HE : Hid (Dm.lead 0 (s.extract 0 n).data.toList = Dm.lead 0 (s.data.toList.take n)) := by show _ = _; rw [take_ext]
        clear hls hok hdg hx
        generalize Dm.lead 0 (s.data.toList.take n) = r at *
        generalize Dm.dig s[n] = d at *
        go_wp2_with (first
          | (go_at_call 12; refine (ih (s.extract 0 n) _ (by simp; omega) (by omega) HT.out).mono ?_; rintro e w1 ⟨rfl, b1⟩; rw [HE.out])
          | (go_at_call 11; refine (refStep_at r _ d _ HD.out hr hdl).mono ?_; rintro e w2 ⟨rfl, b2⟩))
        go_ret2
        exact ⟨by rw [HS.out]; rfl, below_on b1 (Nat.le_refl _) b2⟩
set_option maxHeartbeats 1000000 in
theorem led_bad (s : ByteArray) (w : World) (hs : s.size ≤ maxLen) (ho : Dm.ok s.data.toList = false) :
    Calls Try.prog 12 #[.string s] w fun e w' => e = .returned (.tuple #[.int .i64 0, .int .i64 1]) ∧ Below w.heap.size w w' := by
  have HO : Hid (Dm.ok s.data.toList = false) := ho
  clear ho
  unfold maxLen at hs
  go_enter Try.func12, Try.ntmps12
  go_wp2
  go_loop [4] (fun i => ∃ k : Nat, k ≤ s.size ∧ i = .int .i64 k ∧ Dm.ok (s.data.toList.take k) = true) (fun i => s.size - (intOf i).toNat)
  case atStart => exact ⟨0, Nat.zero_le _, rfl, rfl⟩
  case round =>
    obtain ⟨k, hk, rfl, hm⟩ := hrel
    have HM : Hid (Dm.ok (s.data.toList.take k) = true) := hm
    clear hm
    by_cases hlt : k < s.size
    · have HX : Hid (s.data.toList[k]? = some s[k]) := at_byte s k hlt
      cases hax : Dm.dg s[k] with
      | true =>
        have hd := Dm.dg_yes _ hax
        go_wp2
        go_round
        case rel => exact ⟨k + 1, by omega, by go_num, Dm.ok_take_succ _ k _ HX.out HM.out hax⟩
        case measure => simp [intOf]; omega
      | false =>
        rcases Dm.dg_no _ hax with hd | hd
        · go_wp2
          go_ret2
          exact ⟨rfl, Below.refl _ _⟩
        · go_wp2
          go_ret2
          exact ⟨rfl, Below.refl _ _⟩
    · exfalso
      have h1 := HM.out
      rw [List.take_of_length_le (by simp; omega), HO.out] at h1
      exact absurd h1 (by decide)
set_option maxHeartbeats 1000000 in
theorem led_many (s : ByteArray) (w : World) (hs : s.size ≤ maxLen) (hl : 24 < s.size) (ho : Dm.ok s.data.toList = true) :
    Calls Try.prog 12 #[.string s] w fun e w' => e = .returned (.tuple #[.int .i64 0, .int .i64 2]) ∧ Below w.heap.size w w' := by
  have HO : Hid (Dm.ok s.data.toList = true) := ho
  clear ho
  unfold maxLen at hs
  go_enter Try.func12, Try.ntmps12
  go_wp2
  go_loop [4] (fun i => ∃ k : Nat, k ≤ s.size ∧ i = .int .i64 k) (fun i => s.size - (intOf i).toNat)
  case atStart => exact ⟨0, Nat.zero_le _, rfl⟩
  case round =>
    obtain ⟨k, hk, rfl⟩ := hrel
    by_cases hlt : k < s.size
    · have hd := Dm.dg_yes _ (Dm.ok_get _ k _ (at_byte s k hlt) HO.out)
      go_wp2
      go_round
      case rel => exact ⟨k + 1, by omega, by go_num⟩
      case measure => simp [intOf]; omega
    · go_wp2
      go_ret2
      exact ⟨rfl, Below.refl _ _⟩
theorem led_any (s : ByteArray) (w : World) (hs : s.size ≤ maxLen) :
    Calls Try.prog 12 #[.string s] w fun e w' => e = .returned (.tuple #[.int .i64 (Dm.row s.data.toList : Nat), .int .i64 (Dm.code s.data.toList)]) ∧ Below w.heap.size w w' := by
  have hz : s.data.toList.length = s.size := by simp
  cases ho : Dm.ok s.data.toList with
  | false =>
    have hc := Dm.code_form _ ho
    rw [Dm.row_no _ (by rw [hc]; decide), hc]
    exact led_bad s w hs ho
  | true =>
    by_cases hl : s.size ≤ 24
    · have hc := Dm.code_mk _ ho (by omega)
      rw [Dm.row_ok _ hc, hc]
      exact led_ok _ s w rfl hl ho
    · have hc := Dm.code_many _ ho (by omega)
      rw [Dm.row_no _ (by rw [hc]; decide), hc]
      exact led_many s w hs (by omega) ho
theorem led_at (s : ByteArray) (r : Nat) (c : Int) (w : World) (hs : s.size ≤ maxLen) (hr : Dm.row s.data.toList = r) (hc : Dm.code s.data.toList = c) :
    Calls Try.prog 12 #[.string s] w fun e w' => e = .returned (.tuple #[.int .i64 (r : Nat), .int .i64 c]) ∧ Below w.heap.size w w' := by
  subst hr hc; exact led_any s w hs
end Go.Proofs.Ytnejkmgeonfpbaa
