/- The walks of package spell: a letter that is written otherwise, and its place among the letters; a sign of more than one byte has none. -/
import Derived.Test.YthfdaaccopgbeaaSWr
import Derived.Shelf.Strings.Runes
import Derived.Shelf.Small.Utf8
import Derived.Lib.OthersKept
import Derived.Laws.Runes
import Derived.BigQuiet
import Derived.WalkMore
import Derived.Deep.QuietTactic
namespace Go.Proofs.Ythfdaaccopgbeaa
open Go.RowKit

theorem from_ex (s : ByteArray) (k : Nat) (x : Int) (hx : x = k) (h : k ≤ s.size) : ∃ c : ByteArray, c.data.toList = s.data.toList.drop k ∧ c.size = s.size - k ∧ ∀ wx, (Instr.slice 9 (.string s) (some (.int .i64 x)) none none).run Try.prog wx = .ok (.string c) wx := by
  subst hx
  refine ⟨s.extract k s.size, ?_, by simp, fun wx => ?_⟩
  · simp
    rw [List.take_of_length_le]
    simp
  · rw [run_slice_string_from_if wx _ s _ _ Try.underlying9, if_pos (by omega)]
    rfl
theorem none_index (l : List UInt8) (c : UInt8) (h : ∀ b ∈ l, b ≠ c) : Lib.indexByte l c = -1 := by
  induction l with
  | nil => rfl
  | cons b l ih =>
    have hb := h b (by simp)
    unfold Lib.indexByte
    rw [ih (fun x hx => h x (by simp [hx]))]
    simp [hb]
set_option maxRecDepth 1000000 in
set_option maxHeartbeats 2000000 in
theorem idx_low (s : ByteArray) (r : Nat) (h : r < 128) (w : World) :
    Calls Try.prog 26 #[.string s, .int .i32 (r : Int)] w fun e w' => e = .returned (.int .i64 (Lib.indexByte s.data.toList r.toUInt8)) ∧ w' = w :=
  Any.strings_IndexRune_ascii Try.lir s (r : Int) w (by omega) (by omega)
set_option maxRecDepth 1000000 in
set_option maxHeartbeats 4000000 in
theorem idx_error (s : ByteArray) (hs : ∀ pos (h : pos < s.size), (s[pos]'h).toNat < 128) (w : World) :
    Calls Try.prog 26 #[.string s, .int .i32 65533] w fun e w' => e = .returned (.int .i64 (-1)) ∧ Below w.heap.size w w' := by
  go_enter Try.func26, Try.ntmps26
  go_wp2
  go_loopw [5, 6] (fun _ _ wr => ∃ pos : Nat, pos ≤ s.size ∧ wr = w.iter s pos) (fun _ _ wr => s.size - wr.iterPos w.heap.size)
  case atStart => exact ⟨0, Nat.zero_le _, rfl⟩
  case round =>
    obtain ⟨pos, hpos, rfl⟩ := hrel
    by_cases hp : pos < s.size
    · have hb := hs pos hp
      have hnx : ∀ ty, (Instr.next (.pointer (some ⟨w.heap.size, 0, none⟩)) true ty).run Try.prog (w.iter s pos) = _ := fun ty => run_next_ascii w s pos ty hp hb
      generalize (s[pos]'hp).toNat = c at hb hnx
      have hne : ¬ (c : Int) = 65533 := by omega
      go_wp2
      go_roundw
      case rel => exact ⟨pos + 1, by omega, rfl⟩
      case measure => simp only [World.iterPos_iter]; omega
    · have hnx : ∀ ty, (Instr.next (.pointer (some ⟨w.heap.size, 0, none⟩)) true ty).run Try.prog (w.iter s pos) = _ := fun ty => run_next_end w s pos ty hp
      go_wp2
      go_ret
      exact ⟨rfl, (Below.refl _ w).alloc (Nat.le_refl _) _⟩
set_option maxRecDepth 1000000 in
set_option maxHeartbeats 4000000 in
theorem idx_invalid (s : ByteArray) (r : Nat) (h128 : 128 ≤ r) (hr : r ≤ 2147483647) (h65 : r ≠ 65533) (hv : Lib.validRune (r : Int) = false) (w : World) :
    Calls Try.prog 26 #[.string s, .int .i32 (r : Int)] w fun e w' => e = .returned (.int .i64 (-1)) ∧ w' = w := by
  have h1 : ¬ (r : Int) < 128 := by omega
  have h2 : ¬ (r : Int) = 65533 := by omega
  have h3 : (0 : Int) ≤ (r : Int) := by omega
  clear h128 hr h65
  generalize (r : Int) = z at *
  have HV : Hid (Lib.validRune z = false) := hv
  clear hv
  go_enter Try.func26, Try.ntmps26
  go_wp2_with (go_at_call 31; refine (Any.utf8_ValidRune Try.lvr z _).mono ?_; rintro e w1 ⟨rfl, rfl⟩; rw [HV.out])
  go_ret
  exact ⟨rfl, rfl⟩
theorem encode_ex (r : Nat) (h128 : 128 ≤ r) (hv : Lib.validRune (r : Int) = true) : ∃ E q, Utf8.encode (r : Int) = E ∧ ∃ hq : q < E.size, E.size = q + 1 ∧ q ≤ 3 ∧ 128 ≤ (E[q]'hq).toNat := by
  have hv2 : Utf8.valid (r : Int) = true := by rw [validRune_eq]; exact hv
  obtain ⟨h1, h2, h3⟩ := encode_facts (r : Int) hv2 (by omega)
  generalize Utf8.encode (r : Int) = E at *
  refine ⟨E, E.size - 1, rfl, by omega, by omega, by omega, h3 (by omega)⟩
theorem ascii_ne (s : ByteArray) (hs : ∀ pos (h : pos < s.size), (s[pos]'h).toNat < 128) (c : UInt8) (hc : 128 ≤ c.toNat) (k : Nat) : ∀ b ∈ s.data.toList.drop k, b ≠ c := by
  intro b hb e
  have hb2 := List.mem_of_mem_drop hb
  obtain ⟨i, hi, hib⟩ := List.getElem_of_mem hb2
  have hi' : i < s.size := by rw [Array.length_toList] at hi; exact hi
  have e1 : s[i]'hi' = b := hib
  have := hs i hi'
  rw [e1, e] at this
  omega
set_option maxRecDepth 1000000 in
set_option maxHeartbeats 4000000 in
theorem idx_valid (s : ByteArray) (hs : ∀ pos (h : pos < s.size), (s[pos]'h).toNat < 128) (h4 : 4 ≤ s.size) (hsz : s.size ≤ 1000) (r : Nat) (h128 : 128 ≤ r) (hr : r ≤ 2147483647) (h65 : r ≠ 65533) (hv : Lib.validRune (r : Int) = true) (w : World) :
    Calls Try.prog 26 #[.string s, .int .i32 (r : Int)] w fun e w' => e = .returned (.int .i64 (-1)) ∧ Below w.heap.size w w' := by
  have h1 : ¬ (r : Int) < 128 := by omega
  have h2 : ¬ (r : Int) = 65533 := by omega
  obtain ⟨E, q, hE, hqE, hEq, hq3, hEb⟩ := encode_ex r h128 hv
  have hqs : q < s.size := by omega
  obtain ⟨cut, hcl, hcs, hcut⟩ := from_ex s (q + 1) ((q : Int) + 1) rfl (by omega)
  have Hidx : Hid (Lib.indexByte cut.data.toList ((E[q]'hqE).toNat : Int).toNat.toUInt8 = -1) := by
    show _ = _
    apply none_index
    rw [hcl]
    refine ascii_ne s hs _ ?_ _
    simp
    exact hEb
  have hEz : (E.size : Int) - 1 = (q : Int) := by omega
  have hqz : (q : Int) < (s.size : Int) := by omega
  have hqEz : (q : Int) < (E.size : Int) := by omega
  have hqs0 := hs q hqs
  have hne : ¬ ((s[q]'hqs).toNat : Int) = ((E[q]'hqE).toNat : Int) := by omega
  have hszz : (s.size : Int) ≤ 1000 := by omega
  have hwr : IntKind.i64.wrap ((q : Int) + 1) = (q : Int) + 1 := by rw [IntKind.wrap_i64]; omega
  have h3 : (0 : Int) ≤ (r : Int) := by omega
  have HV : Hid (Lib.validRune (r : Int) = true) := hv
  have HS : Hid (∀ pos (h : pos < s.size), (s[pos]'h).toNat < 128) := hs
  clear hcl hcs hEq h4 hv h128 hr h65 hEb hqs0 hs hsz
  generalize (r : Int) = z at *
  have hIB : ∀ wx, Calls Try.prog 30 #[.string cut, .int .u8 (((E[q]'hqE).toNat : Nat) : Int)] wx fun e w' => e = .returned (.int .i64 (-1)) ∧ w' = wx := by
    intro wx
    have e := Any.strings_IndexByte Try.lib cut (((E[q]'hqE).toNat : Nat) : Int) wx
    rw [Hidx.out] at e
    exact e
  go_enter Try.func26, Try.ntmps26
  go_wp2_with (go_at_call 31; refine (Any.utf8_ValidRune Try.lvr z _).mono ?_; rintro e w1 ⟨rfl, rfl⟩; rw [HV.out])
  go_step3
  go_wp2
  go_loop [9, 10, 11, 12] (fun a b _ _ => a = .int .i64 (q : Int) ∧ b = .int .i64 0) (fun _ _ _ _ => 0)
  case atStart => exact ⟨rfl, rfl⟩
  case round =>
    obtain ⟨rfl, rfl⟩ := hrel
    go_wp2
    go_step3
    go_wp2
    go_quiet (fail)
    go_wp2
    go_quiet ((go_at_call 30; exact (hIB _).mono (fun _ _ h => ⟨h.1, _, h.2⟩)))
    go_wp2
    simp +zetaDelta only [Exit.noGoto, Exit.inBlock, Exit.then]
    refine bodyPost_ret (results_tmp rfl _ _ _) rfl ?_
    exact ⟨rfl, by first | exact below_drewN (below_drewN (Below.refl _ _) _) _ | exact Below.refl _ _ | exact ⟨rfl, rfl, rfl, Nat.le_refl _, fun _ _ => rfl⟩⟩
/-- A sign of more than one byte has no place among letters of one byte. -/
theorem idx_high (s : ByteArray) (hs : ∀ pos (h : pos < s.size), (s[pos]'h).toNat < 128) (h4 : 4 ≤ s.size) (hsz : s.size ≤ 1000) (r : Nat) (h128 : 128 ≤ r) (hr : r ≤ 2147483647) (w : World) :
    Calls Try.prog 26 #[.string s, .int .i32 (r : Int)] w fun e w' => e = .returned (.int .i64 (-1)) ∧ Below w.heap.size w w' := by
  by_cases h65 : r = 65533
  · subst h65
    exact idx_error s hs w
  · cases hv : Lib.validRune (r : Int) with
    | true => exact idx_valid s hs h4 hsz r h128 hr h65 hv w
    | false =>
      refine (idx_invalid s r h128 hr h65 hv w).mono ?_
      rintro e w' ⟨rfl, rfl⟩
      exact ⟨rfl, Below.refl _ _⟩
/-- the letters, as the program holds them -/
def letB : ByteArray := ⟨#[48, 49, 50, 51, 52, 53, 54, 55, 56, 57, 65, 66, 67, 68, 69, 70, 71, 72, 74, 75, 77, 78, 80, 81, 82, 83, 84, 86, 87, 88, 89, 90]⟩
theorem let_ascii : ∀ pos (h : pos < letB.size), (letB[pos]'h).toNat < 128 := by decide
set_option maxRecDepth 100000 in
theorem idx_val (c : UInt8) : c.toNat ≠ 45 → Lib.indexByte letB.data.toList (Sp.fair c) = if Sp.lt c < 32 then (Sp.lt c : Int) else -1 := by
  apply Sp.all_bytes (fun c => c.toNat ≠ 45 → Lib.indexByte letB.data.toList (Sp.fair c) = if Sp.lt c < 32 then (Sp.lt c : Int) else -1)
  decide +kernel
set_option maxRecDepth 100000 in
theorem fair_lt (c : UInt8) : c.toNat < 128 → (Sp.fair c).toNat < 128 := by
  apply Sp.all_bytes (fun c => c.toNat < 128 → (Sp.fair c).toNat < 128)
  decide +kernel
set_option maxRecDepth 100000 in
theorem lt_high (c : UInt8) : 128 ≤ c.toNat → Sp.lt c = 33 := by
  apply Sp.all_bytes (fun c => 128 ≤ c.toNat → Sp.lt c = 33)
  decide +kernel
set_option maxRecDepth 100000 in
theorem lt_or (c : UInt8) : Sp.lt c < 32 ∨ (Sp.lt c = 33 ∧ c.toNat ≠ 45) ∨ c.toNat = 45 := by
  apply Sp.all_bytes (fun c => Sp.lt c < 32 ∨ (Sp.lt c = 33 ∧ c.toNat ≠ 45) ∨ c.toNat = 45)
  decide +kernel
theorem lt_45 (c : UInt8) (h : c.toNat = 45) : Sp.lt c = 32 := by unfold Sp.lt; rw [if_pos h]
theorem lt_ne45 (c : UInt8) (h : Sp.lt c < 32) : c.toNat ≠ 45 := by intro e; rw [lt_45 c e] at h; omega
set_option maxRecDepth 100000 in
set_option maxHeartbeats 2000000 in
theorem fair_high (r : Nat) (h128 : 128 ≤ r) (w : World) :
    Calls Try.prog 27 #[.int .i32 (r : Int)] w fun e w' => e = .returned (.int .i32 (r : Int)) ∧ w' = w := by
  have h1 : (97 : Int) ≤ (r : Int) := by omega
  have h2 : ¬ (r : Int) ≤ 122 := by omega
  have h3 : ¬ (r : Int) = 79 := by omega
  have h4 : ¬ (r : Int) = 73 := by omega
  have h5 : ¬ (r : Int) = 76 := by omega
  clear h128
  generalize (r : Int) = z at *
  go_enter Try.func27, Try.ntmps27
  go_wp2
  go_ret
  exact ⟨rfl, rfl⟩
set_option maxRecDepth 100000 in
set_option maxHeartbeats 2000000 in
theorem fair_z (z d : Int) (hd : (97 ≤ z ∧ z ≤ 122 ∧ z + -32 = d) ∨ (¬ (97 ≤ z ∧ z ≤ 122) ∧ z = d)) (h0 : 0 ≤ z) (h1 : z < 128) (w : World) :
    Calls Try.prog 27 #[.int .i32 z] w fun e w' => e = .returned (.int .i32 (if d = 79 then 48 else if d = 73 ∨ d = 76 then 49 else d)) ∧ w' = w := by
  rcases hd with ⟨a1, a2, a3⟩ | ⟨a1, a2⟩
  · by_cases b1 : d = 79
    · have b2 : z = 111 := by omega
      subst b1 b2
      rw [if_pos rfl]
      go_enter Try.func27, Try.ntmps27
      go_wp2
      go_ret
      exact ⟨rfl, rfl⟩
    · rw [if_neg b1]
      by_cases b3 : d = 73
      · have b2 : z = 105 := by omega
        subst b3 b2
        rw [if_pos (Or.inl rfl)]
        go_enter Try.func27, Try.ntmps27
        go_wp2
        go_ret
        exact ⟨rfl, rfl⟩
      · by_cases b4 : d = 76
        · have b2 : z = 108 := by omega
          subst b4 b2
          rw [if_pos (Or.inr rfl)]
          go_enter Try.func27, Try.ntmps27
          go_wp2
          go_ret
          exact ⟨rfl, rfl⟩
        · rw [if_neg (by omega)]
          have c1 : 65 ≤ d := by omega
          have c2 : d ≤ 90 := by omega
          go_enter Try.func27, Try.ntmps27
          go_wp2
          go_ret
          exact ⟨rfl, rfl⟩
  · subst a2
    by_cases b1 : z = 79
    · subst b1
      rw [if_pos rfl]
      go_enter Try.func27, Try.ntmps27
      go_wp2
      go_ret
      exact ⟨rfl, rfl⟩
    · rw [if_neg b1]
      by_cases b3 : z = 73
      · subst b3
        rw [if_pos (Or.inl rfl)]
        go_enter Try.func27, Try.ntmps27
        go_wp2
        go_ret
        exact ⟨rfl, rfl⟩
      · by_cases b4 : z = 76
        · subst b4
          rw [if_pos (Or.inr rfl)]
          go_enter Try.func27, Try.ntmps27
          go_wp2
          go_ret
          exact ⟨rfl, rfl⟩
        · rw [if_neg (by omega)]
          by_cases c1 : 97 ≤ z
          · have c2 : ¬ z ≤ 122 := by omega
            go_enter Try.func27, Try.ntmps27
            go_wp2
            go_ret
            exact ⟨rfl, rfl⟩
          · go_enter Try.func27, Try.ntmps27
            go_wp2
            go_ret
            exact ⟨rfl, rfl⟩
def dz (c : UInt8) : Int := if 97 ≤ c.toNat ∧ c.toNat ≤ 122 then (c.toNat : Int) + -32 else (c.toNat : Int)
set_option maxRecDepth 100000 in
theorem dz_fair (c : UInt8) : (if dz c = 79 then 48 else if dz c = 73 ∨ dz c = 76 then 49 else dz c) = ((Sp.fair c).toNat : Int) := by
  apply Sp.all_bytes (fun c => (if dz c = 79 then 48 else if dz c = 73 ∨ dz c = 76 then 49 else dz c) = ((Sp.fair c).toNat : Int))
  decide +kernel
theorem fair_val (c : UInt8) : ∃ d : Int, ((97 ≤ (c.toNat : Int) ∧ (c.toNat : Int) ≤ 122 ∧ (c.toNat : Int) + -32 = d) ∨ (¬ (97 ≤ (c.toNat : Int) ∧ (c.toNat : Int) ≤ 122) ∧ (c.toNat : Int) = d)) ∧ (if d = 79 then 48 else if d = 73 ∨ d = 76 then 49 else d) = ((Sp.fair c).toNat : Int) := by
  refine ⟨dz c, ?_, dz_fair c⟩
  unfold dz
  split
  · exact Or.inl ⟨by omega, by omega, rfl⟩
  · exact Or.inr ⟨by omega, rfl⟩
theorem fair_low (c : UInt8) (h : c.toNat < 128) (w : World) :
    Calls Try.prog 27 #[.int .i32 ((c.toNat : Nat) : Int)] w fun e w' => e = .returned (.int .i32 (((Sp.fair c).toNat : Nat) : Int)) ∧ w' = w := by
  obtain ⟨d, h1, h2⟩ := fair_val c
  rw [← h2]
  exact fair_z _ d h1 (by omega) (by omega) w
end Go.Proofs.Ythfdaaccopgbeaa
