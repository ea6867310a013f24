/- The walks of DammOne and DammSwap: they answer true, whatever they are handed. -/
import Derived.Test.YtnejkmgeonfpbaaDLaw2
import Derived.Deep.RegionWith
import Derived.BigQuiet
import Derived.Lib.QuietBelow
namespace Go.Proofs.Ytnejkmgeonfpbaa
open Go.RowKit Go.BigFrame Go.Sort

theorem pre_ex (s : ByteArray) (k : Nat) (h : k ≤ s.size) : ∃ c : ByteArray, c.data.toList = s.data.toList.take k ∧ c.size = k ∧ ∀ wx, (Instr.slice 9 (.string s) none (some (.int .i64 k)) none).run Try.prog wx = .ok (.string c) wx := by
  refine ⟨s.extract 0 k, by simp, by simp; omega, fun wx => ?_⟩
  rw [run_slice_string_to_if wx _ s _ _ Try.underlying9, if_pos (by omega)]
  rfl
theorem post_ex (s : ByteArray) (k : Nat) (x : Int) (hx : x = k) (h : k ≤ s.size) : ∃ c : ByteArray, c.data.toList = s.data.toList.drop k ∧ c.size = s.size - k ∧ ∀ wx, (Instr.slice 9 (.string s) (some (.int .i64 x)) none none).run Try.prog wx = .ok (.string c) wx := by
  subst hx
  refine ⟨s.extract k s.size, ?_, by simp, fun wx => ?_⟩
  · simp
    rw [List.take_of_length_le]
    simp
  · rw [run_slice_string_from_if wx _ s _ _ Try.underlying9, if_pos (by omega)]
    rfl
theorem mid_ex (s : ByteArray) (k : Nat) (x y : Int) (hx : x = k) (hy : y = x + 1) (h : k < s.size) : ∃ c : ByteArray, c.data.toList = [s[k]] ∧ c.size = 1 ∧ ∀ wx, (Instr.slice 9 (.string s) (some (.int .i64 x)) (some (.int .i64 y)) none).run Try.prog wx = .ok (.string c) wx := by
  subst hx hy
  refine ⟨s.extract k (k + 1), ?_, by simp; omega, fun wx => ?_⟩
  · simp
    rw [List.take_one, List.head?_drop, at_byte s k h]
    rfl
  · rw [run_slice_string_if wx _ s _ _ _ _ Try.underlying9, if_pos (by omega), if_pos (by omega)]
    have : ((k : Int) + 1).toNat = k + 1 := by omega
    rw [this]
    rfl
theorem idx_ex (s : ByteArray) (k : Nat) (x : Int) (hx : x = k) (h : k < s.size) : ∀ wx, (Instr.index 9 (.string s) (.int .i64 x)).run Try.prog wx = .ok (.int .u8 s[k].toNat) wx := by
  subst hx
  intro wx
  rw [run_index_string wx _ s _ _ Try.underlying9, dif_pos ⟨by omega, by omega⟩]
  rfl
theorem is_below (s : ByteArray) (r : Nat) (c : Int) (b : Bool) (w : World) (hs : s.size ≤ maxLen) (hr : Dm.row s.data.toList = r) (hc : Dm.code s.data.toList = c) (hb : isB r c = b) :
    Calls Try.prog 10 #[.string s] w fun e w' => e = .returned (.tuple #[.bool b, .int .i64 c]) ∧ Below w.heap.size w w' :=
  (pIs_is s r c b w hs hr hc hb).mono fun _ _ h => ⟨h.1, h.2 ▸ Below.refl _ _⟩

theorem beq_dec (a b : Int) : (decide (a = b) == (a == b)) = true := by
  by_cases h : a = b <;> simp [h]
theorem one_off (s : ByteArray) (at' b : Int) (w : World) (hs : s.size ≤ maxLen) (h : Dm.code s.data.toList ≠ 0 ∨ Dm.row s.data.toList ≠ 0) :
    Calls Try.prog 6 #[.string s, .int .i64 at', .int .u8 b] w fun e w' => e = .returned (.bool true) ∧ Below w.heap.size w w' := by
  generalize hg : Dm.row s.data.toList = r at h
  generalize hk : Dm.code s.data.toList = c at h
  have HR : Hid (Dm.row s.data.toList = r) := hg
  have HC : Hid (Dm.code s.data.toList = c) := hk
  by_cases hc : c = 0
  · have HB : Hid (isB r c = false) := by show _ = _; simp [isB]; omega
    clear hg hk h
    subst hc
    go_enter Try.func6, Try.ntmps6
    go_wp2_with (first
      | (go_at_call 10; refine (pIs_is _ _ _ _ _ hs HR.out HC.out HB.out).mono ?_; rintro e w' ⟨rfl, rfl⟩)
      | (go_at_call 13; refine (dbegun_any _).mono ?_; rintro e w3 ⟨rfl, rfl⟩))
    all_goals (go_ret; exact ⟨rfl, Below.refl _ _⟩)
  · have hb := Dm.code_bd s.data.toList
    rw [hk] at hb
    have HB : Hid (isB r c = false) := by show _ = _; simp [isB, hc]
    have hc1 : 0 < c := by omega
    clear hg hk h
    go_enter Try.func6, Try.ntmps6
    go_wp2_with (first
      | (go_at_call 10; refine (pIs_is _ _ _ _ _ hs HR.out HC.out HB.out).mono ?_; rintro e w' ⟨rfl, rfl⟩)
      | (go_at_call 13; refine (dbegun_any _).mono ?_; rintro e w3 ⟨rfl, rfl⟩))
    all_goals (go_ret; exact ⟨rfl, Below.refl _ _⟩)
theorem one_out (s : ByteArray) (at' b : Int) (w : World) (hs : s.size ≤ maxLen) (h1 : Dm.code s.data.toList = 0) (h2 : Dm.row s.data.toList = 0) (h : at' < 0 ∨ (s.size : Int) ≤ at' ∨ b < 48 ∨ 57 < b) :
    Calls Try.prog 6 #[.string s, .int .i64 at', .int .u8 b] w fun e w' => e = .returned (.bool true) ∧ Below w.heap.size w w' := by
  have HR : Hid (Dm.row s.data.toList = 0) := h2
  have HC : Hid (Dm.code s.data.toList = 0) := h1
  have HB : Hid (isB 0 0 = true) := by show _ = _; rfl
  clear h1 h2
  by_cases c1 : at' < 0
  · clear h
    go_enter Try.func6, Try.ntmps6
    go_wp2_with (first
      | (go_at_call 10; refine (pIs_is _ _ _ _ _ hs HR.out HC.out HB.out).mono ?_; rintro e w' ⟨rfl, rfl⟩)
      | (go_at_call 13; refine (dbegun_any _).mono ?_; rintro e w3 ⟨rfl, rfl⟩))
    all_goals (go_ret; exact ⟨rfl, Below.refl _ _⟩)
  by_cases c2 : (s.size : Int) ≤ at'
  · clear h
    go_enter Try.func6, Try.ntmps6
    go_wp2_with (first
      | (go_at_call 10; refine (pIs_is _ _ _ _ _ hs HR.out HC.out HB.out).mono ?_; rintro e w' ⟨rfl, rfl⟩)
      | (go_at_call 13; refine (dbegun_any _).mono ?_; rintro e w3 ⟨rfl, rfl⟩))
    all_goals (go_ret; exact ⟨rfl, Below.refl _ _⟩)
  by_cases c3 : b < 48
  · clear h
    go_enter Try.func6, Try.ntmps6
    go_wp2_with (first
      | (go_at_call 10; refine (pIs_is _ _ _ _ _ hs HR.out HC.out HB.out).mono ?_; rintro e w' ⟨rfl, rfl⟩)
      | (go_at_call 13; refine (dbegun_any _).mono ?_; rintro e w3 ⟨rfl, rfl⟩))
    all_goals (go_ret; exact ⟨rfl, Below.refl _ _⟩)
  have c4 : 57 < b := by omega
  clear h
  go_enter Try.func6, Try.ntmps6
  go_wp2_with (first
    | (go_at_call 10; refine (pIs_is _ _ _ _ _ hs HR.out HC.out HB.out).mono ?_; rintro e w' ⟨rfl, rfl⟩)
    | (go_at_call 13; refine (dbegun_any _).mono ?_; rintro e w3 ⟨rfl, rfl⟩))
  all_goals (go_ret; exact ⟨rfl, Below.refl _ _⟩)
set_option maxHeartbeats 2000000 in
theorem one_in (s : ByteArray) (k : Nat) (b : Int) (w : World) (hs : s.size ≤ maxLen) (h1 : Dm.code s.data.toList = 0) (h2 : Dm.row s.data.toList = 0) (hk : k < s.size) (hb0 : 48 ≤ b) (hb1 : b ≤ 57) :
    Calls Try.prog 6 #[.string s, .int .i64 k, .int .u8 b] w fun e w' => e = .returned (.bool true) ∧ Below w.heap.size w w' := by
  have h24 : s.size ≤ 24 := by have h := (Dm.code_ok _ h1).2; simp at h; omega
  obtain ⟨g1, -, g3⟩ := byte_of b hb0 hb1
  obtain ⟨t1, t2⟩ := Dm.one s.data.toList k _ _ (at_byte s k hk) g1 h1 h2
  obtain ⟨B, HB, hB1, hB2⟩ : ∃ B : ByteArray, Hid (strOfNums [b] = B) ∧ B.size = 1 ∧ B.data.toList = [UInt8.ofNat b.toNat] := ⟨_, rfl, rfl, rfl⟩
  obtain ⟨A, hA1, hA2, hA3⟩ := pre_ex s k (by omega)
  obtain ⟨C, hC1, hC2, hC3⟩ := post_ex s (k + 1) ((k : Int) + 1) (by omega) (by omega)
  obtain ⟨D, hD1, hD2, hD3⟩ := cat_ex A B (by omega)
  obtain ⟨E, hE1, hE2, hE3⟩ := cat_ex D C (by omega)
  rw [← hB2, ← hA1, ← hC1, ← hD1, ← hE1] at t1 t2
  have hbk : isB (Dm.row E.data.toList) 0 = decide (b = (s[k].toNat : Int)) := isB_iff _ _ (by rw [t2, ← UInt8.toNat_inj]; omega)
  have hz2 : E.size ≤ maxLen := by unfold maxLen; omega
  have HT : Hid (Dm.code E.data.toList = 0 ∧ isB (Dm.row E.data.toList) 0 = decide (b = (s[k].toNat : Int))) := ⟨t1, hbk⟩
  have HR : Hid (Dm.row s.data.toList = 0) := h2
  have HC : Hid (Dm.code s.data.toList = 0) := h1
  have HI : Hid (isB 0 0 = true) := by show _ = _; rfl
  clear h1 h2 t1 t2 hbk hB1 hB2 hA1 hA2 hC1 hC2 hD1 hD2 hE1 hE2 g1 g3
  have i1 : (0 : Int) ≤ (k : Int) := by omega
  have i2 : (k : Int) < (s.size : Int) := by omega
  go_enter Try.func6, Try.ntmps6
  go_wp2_with (first
    | (go_at_call 10; refine (pIs_is _ _ _ _ _ hs HR.out HC.out HI.out).mono ?_; rintro e w' ⟨rfl, rfl⟩)
    | (go_at_call 13; refine (dbegun_any _).mono ?_; rintro e w3 ⟨rfl, rfl⟩))
  refine wp_region_quiet_below (by kernel_rfl) (by kernel_rfl) ?_
  repeat go_big_quiet_step (first
    | (go_at_call 14; exact Calls.regrown_of (byteText_at _ _ _ HB.out))
    | (go_at_call 10; exact Calls.regrown_of (is_below _ _ _ _ _ hz2 rfl HT.out.1 HT.out.2)))
  refine wpQuiet_nil ?_
  intro _ hw'
  obtain ⟨⟨dq, osq⟩, hw''⟩ := hw'
  subst hw''
  go_wp2
  go_ret
  exact ⟨ret_bool (beq_dec _ _), below_regrown _ _ _⟩
theorem dammOne_any (s : ByteArray) (at' b : Int) (w : World) (hs : s.size ≤ maxLen) :
    Calls Try.prog 6 #[.string s, .int .i64 at', .int .u8 b] w fun e w' => e = .returned (.bool true) ∧ Below w.heap.size w w' := by
  by_cases h : Dm.code s.data.toList ≠ 0 ∨ Dm.row s.data.toList ≠ 0
  · exact one_off s at' b w hs h
  · have h1 : Dm.code s.data.toList = 0 := by omega
    have h2 : Dm.row s.data.toList = 0 := by omega
    by_cases h3 : at' < 0 ∨ (s.size : Int) ≤ at' ∨ b < 48 ∨ 57 < b
    · exact one_out s at' b w hs h1 h2 h3
    · obtain ⟨k, rfl⟩ := Int.eq_ofNat_of_zero_le (show 0 ≤ at' by omega)
      exact one_in s k b w hs h1 h2 (by omega) (by omega) (by omega)
theorem swap_off (s : ByteArray) (at' : Int) (w : World) (hs : s.size ≤ maxLen) (h : Dm.code s.data.toList ≠ 0 ∨ Dm.row s.data.toList ≠ 0) :
    Calls Try.prog 7 #[.string s, .int .i64 at'] w fun e w' => e = .returned (.bool true) ∧ Below w.heap.size w w' := by
  generalize hg : Dm.row s.data.toList = r at h
  generalize hk : Dm.code s.data.toList = c at h
  have HR : Hid (Dm.row s.data.toList = r) := hg
  have HC : Hid (Dm.code s.data.toList = c) := hk
  by_cases hc : c = 0
  · have HB : Hid (isB r c = false) := by show _ = _; simp [isB]; omega
    clear hg hk h
    subst hc
    go_enter Try.func7, Try.ntmps7
    go_wp2_with (first
      | (go_at_call 10; refine (pIs_is _ _ _ _ _ hs HR.out HC.out HB.out).mono ?_; rintro e w' ⟨rfl, rfl⟩)
      | (go_at_call 13; refine (dbegun_any _).mono ?_; rintro e w3 ⟨rfl, rfl⟩))
    all_goals (go_ret; exact ⟨rfl, Below.refl _ _⟩)
  · have hb := Dm.code_bd s.data.toList
    rw [hk] at hb
    have HB : Hid (isB r c = false) := by show _ = _; simp [isB, hc]
    have hc1 : 0 < c := by omega
    clear hg hk h
    go_enter Try.func7, Try.ntmps7
    go_wp2_with (first
      | (go_at_call 10; refine (pIs_is _ _ _ _ _ hs HR.out HC.out HB.out).mono ?_; rintro e w' ⟨rfl, rfl⟩)
      | (go_at_call 13; refine (dbegun_any _).mono ?_; rintro e w3 ⟨rfl, rfl⟩))
    all_goals (go_ret; exact ⟨rfl, Below.refl _ _⟩)
theorem swap_out (s : ByteArray) (at' : Int) (w : World) (hs : s.size ≤ maxLen) (h1 : Dm.code s.data.toList = 0) (h2 : Dm.row s.data.toList = 0) (h : at' < 0 ∨ (s.size : Int) - 1 ≤ at') :
    Calls Try.prog 7 #[.string s, .int .i64 at'] w fun e w' => e = .returned (.bool true) ∧ Below w.heap.size w w' := by
  have h24 : s.size ≤ 24 := by have h := (Dm.code_ok _ h1).2; simp at h; omega
  have HR : Hid (Dm.row s.data.toList = 0) := h2
  have HC : Hid (Dm.code s.data.toList = 0) := h1
  have HB : Hid (isB 0 0 = true) := by show _ = _; rfl
  clear h1 h2
  by_cases c1 : at' < 0
  · clear h
    go_enter Try.func7, Try.ntmps7
    go_wp2_with (first
      | (go_at_call 10; refine (pIs_is _ _ _ _ _ hs HR.out HC.out HB.out).mono ?_; rintro e w' ⟨rfl, rfl⟩)
      | (go_at_call 13; refine (dbegun_any _).mono ?_; rintro e w3 ⟨rfl, rfl⟩))
    all_goals (go_ret; exact ⟨rfl, Below.refl _ _⟩)
  have c2 : (s.size : Int) - 1 ≤ at' := by omega
  clear h
  go_enter Try.func7, Try.ntmps7
  go_wp2_with (first
    | (go_at_call 10; refine (pIs_is _ _ _ _ _ hs HR.out HC.out HB.out).mono ?_; rintro e w' ⟨rfl, rfl⟩)
    | (go_at_call 13; refine (dbegun_any _).mono ?_; rintro e w3 ⟨rfl, rfl⟩))
  all_goals (go_ret; exact ⟨rfl, Below.refl _ _⟩)
set_option maxHeartbeats 2000000 in
theorem swap_in (s : ByteArray) (k : Nat) (w : World) (hs : s.size ≤ maxLen) (h1 : Dm.code s.data.toList = 0) (h2 : Dm.row s.data.toList = 0) (hk : k + 1 < s.size) :
    Calls Try.prog 7 #[.string s, .int .i64 k] w fun e w' => e = .returned (.bool true) ∧ Below w.heap.size w w' := by
  have h24 : s.size ≤ 24 := by have h := (Dm.code_ok _ h1).2; simp at h; omega
  have hk0 : k < s.size := by omega
  obtain ⟨t1, t2⟩ := Dm.swap s.data.toList k _ _ (at_byte s k hk0) (at_byte s (k + 1) hk) h1 h2
  obtain ⟨A, hA1, hA2, hA3⟩ := pre_ex s k (by omega)
  obtain ⟨B, hB1, hB2, hB3⟩ := mid_ex s (k + 1) ((k : Int) + 1) ((k : Int) + 2) (by omega) (by omega) (by omega)
  obtain ⟨C, hC1, hC2, hC3⟩ := mid_ex s k (k : Int) ((k : Int) + 1) (by omega) (by omega) (by omega)
  obtain ⟨D, hD1, hD2, hD3⟩ := post_ex s (k + 2) ((k : Int) + 2) (by omega) (by omega)
  obtain ⟨E, hE1, hE2, hE3⟩ := cat_ex A B (by omega)
  obtain ⟨F, hF1, hF2, hF3⟩ := cat_ex E C (by omega)
  obtain ⟨G, hG1, hG2, hG3⟩ := cat_ex F D (by omega)
  rw [← hB1, ← hA1, ← hC1, ← hD1, ← hE1, ← hF1, ← hG1] at t1 t2
  have hbk : isB (Dm.row G.data.toList) 0 = decide ((s[k].toNat : Int) = (s[k + 1].toNat : Int)) := isB_iff _ _ (by rw [t2, ← UInt8.toNat_inj]; omega)
  have hz2 : G.size ≤ maxLen := by unfold maxLen; omega
  have HT : Hid (Dm.code G.data.toList = 0 ∧ isB (Dm.row G.data.toList) 0 = decide ((s[k].toNat : Int) = (s[k + 1].toNat : Int))) := ⟨t1, hbk⟩
  have HR : Hid (Dm.row s.data.toList = 0) := h2
  have HC : Hid (Dm.code s.data.toList = 0) := h1
  have HI : Hid (isB 0 0 = true) := by show _ = _; rfl
  clear h1 h2 t1 t2 hbk hA1 hA2 hB1 hB2 hC1 hC2 hD1 hD2 hE1 hE2 hF1 hF2 hG1 hG2
  have i1 : (0 : Int) ≤ (k : Int) := by omega
  have i2 : (k : Int) + 1 < (s.size : Int) := by omega
  go_enter Try.func7, Try.ntmps7
  go_wp2_with (first
    | (go_at_call 10; refine (pIs_is _ _ _ _ _ hs HR.out HC.out HI.out).mono ?_; rintro e w' ⟨rfl, rfl⟩)
    | (go_at_call 13; refine (dbegun_any _).mono ?_; rintro e w3 ⟨rfl, rfl⟩))
  refine wp_region_quiet_below (by kernel_rfl) (by kernel_rfl) ?_
  repeat go_big_quiet_step (first
    | (go_at_call 10; exact Calls.regrown_of (is_below _ _ _ _ _ hz2 rfl HT.out.1 HT.out.2)))
  refine wpQuiet_nil ?_
  intro _ hw'
  obtain ⟨⟨dq, osq⟩, hw''⟩ := hw'
  subst hw''
  go_wp2
  have B1 := below_regrown w3 dq osq
  generalize grow (redrawn w3 dq) osq = w4 at *
  have j1 := idx_ex s (k + 1) ((k : Int) + 1) (by omega) hk
  refine wp_region_quiet_below (by kernel_rfl) (by kernel_rfl) ?_
  repeat go_big_quiet_step (fail)
  refine wpQuiet_nil ?_
  intro _ hw'
  obtain ⟨⟨dp, osp⟩, hw''⟩ := hw'
  subst hw''
  go_wp2
  go_ret
  exact ⟨ret_bool (beq_dec _ _), below_on B1 (Nat.le_refl _) (below_regrown _ _ _)⟩
theorem dammSwap_any (s : ByteArray) (at' : Int) (w : World) (hs : s.size ≤ maxLen) :
    Calls Try.prog 7 #[.string s, .int .i64 at'] w fun e w' => e = .returned (.bool true) ∧ Below w.heap.size w w' := by
  by_cases h : Dm.code s.data.toList ≠ 0 ∨ Dm.row s.data.toList ≠ 0
  · exact swap_off s at' w hs h
  · have h1 : Dm.code s.data.toList = 0 := by omega
    have h2 : Dm.row s.data.toList = 0 := by omega
    by_cases h3 : at' < 0 ∨ (s.size : Int) - 1 ≤ at'
    · exact swap_out s at' w hs h1 h2 h3
    · obtain ⟨k, rfl⟩ := Int.eq_ofNat_of_zero_le (show 0 ≤ at' by omega)
      exact swap_in s k w hs h1 h2 (by omega)
end Go.Proofs.Ytnejkmgeonfpbaa
