/- The document's answer on spelling: a text by its letters. -/
import Derived.Test.YthfdaaccopgbeaaVSp
namespace Go.Proofs.Ythfdaaccopgbeaa
open Go.RowKit

theorem let_cut (n : Nat) (hn : n < 32) (w : World) : (Instr.slice 9 (.string letB) (some (.int .i64 (n : Int))) (some (.int .i64 ((n : Int) + 1))) none).run Try.prog w = .ok (.string (bx [Sp.letter n])) w := by
  have h32 : (letB.size : Int) = 32 := rfl
  rw [run_slice_string_if w _ letB _ _ _ _ Try.underlying9, if_pos (by omega), if_pos (by omega)]
  have e : ((n : Int) + 1).toNat = n + 1 := by omega
  rw [e, Int.toNat_natCast]
  congr 2
  have key : ∀ n : Fin 32, letB.extract n (n + 1) = bx [Sp.letter n] := by decide +kernel
  exact key ⟨n, hn⟩
set_option maxRecDepth 100000 in
set_option maxHeartbeats 4000000 in
theorem spelled_any (s : ByteArray) (w : World) (hs : s.size ≤ 120) :
    Calls Try.prog 10 #[.string s] w fun e w' => e = .returned (.string (Sp.wr s)) ∧ w' = w := by
  obtain ⟨ac, hac⟩ : ∃ ac : Nat → ByteArray, ∀ j, ac j = bx ((Sp.chunk 5 j (Sp.tb s)).map Sp.letter) := ⟨_, fun _ => rfl⟩
  have HA : Hid (∀ j, ac j = bx ((Sp.chunk 5 j (Sp.tb s)).map Sp.letter)) := hac
  have HW : Hid (ac (Sp.cnt s.size) = Sp.wr s) := by
    show _ = _
    rw [hac]
    unfold Sp.wr Sp.wrl
    rw [if_pos (by rw [list_len]; exact hs)]
    unfold Sp.fv Sp.tb bx
    rw [list_len]
  have H0 : Hid (Value.string ⟨#[]⟩ = .string (ac 0)) := by show _ = _; rw [hac]; rfl
  clear hac
  have hcnt : Sp.cnt s.size = (8 * s.size + 4) / 5 := rfl
  obtain ⟨M, hM⟩ : ∃ M, Sp.cnt s.size = M := ⟨_, rfl⟩
  rw [hM] at HW hcnt
  clear hM
  have hsz : (s.size : Int) ≤ 120 := by omega
  rw [← HW.out]
  clear HW
  obtain ⟨F, hF⟩ : ∃ F, F = letB := ⟨_, rfl⟩
  have SF : Hid (Value.string ⟨#[48, 49, 50, 51, 52, 53, 54, 55, 56, 57, 65, 66, 67, 68, 69, 70, 71, 72, 74, 75, 77, 78, 80, 81, 82, 83, 84, 86, 87, 88, 89, 90]⟩ = .string F) := by show _ = _; rw [hF]; rfl
  have HC : Hid (∀ n, n < 32 → ∀ wx, (Instr.slice 9 (.string F) (some (.int .i64 ((n : Nat) : Int))) (some (.int .i64 ((n : Int) + 1))) none).run Try.prog wx = .ok (.string (bx [Sp.letter n])) wx) := by intro n hn wx; rw [hF]; exact let_cut n hn wx
  clear hF
  go_enter Try.func10, Try.ntmps10
  go_wp2
  rw [SF.out]
  go_loop [4, 5, 6, 7] (fun a p _ _ => ∃ j P : Nat, j ≤ M ∧ Hid (P = 5 * j) ∧ P ≤ 5 * M ∧ p = .int .i64 (P : Int) ∧ a = .string (ac j)) (fun _ p _ _ => 1000 - (intOf p).toNat)
  case atStart => exact ⟨0, 0, Nat.zero_le _, (rfl : 0 = 5 * 0), Nat.zero_le _, rfl, H0.out⟩
  case round =>
    obtain ⟨j, P, hj, HP, hPM, rfl, rfl⟩ := hrel
    by_cases hlt : P < 8 * s.size
    · have hjM : j < M := by have := HP.out; omega
      have hP2 : P + 5 ≤ 5 * M := by have := HP.out; omega
      have hz : (P : Int) < 8 * (s.size : Int) := by omega
      have hPz : (P : Int) ≤ 1000 := by omega
      go_wp2
      go_loop [6, 7] (fun n k => ∃ K X : Nat, K ≤ 5 ∧ X < 32 ∧ Hid (Sp.vl 0 (((Sp.tb s).drop P).take K) = X) ∧ n = .int .i64 (X : Int) ∧ k = .int .i64 (K : Int)) (fun _ k => 5 - (intOf k).toNat)
      case atStart => exact ⟨0, 0, Nat.zero_le _, by decide, (by show _ = _; simp [Sp.vl] : Hid (Sp.vl 0 (((Sp.tb s).drop P).take 0) = 0)), rfl, rfl⟩
      case round =>
        obtain ⟨K, X, hK, hX, HX, rfl, rfl⟩ := hrel
        by_cases hk5 : K < 5
        · have hkz : (K : Int) < 5 := by omega
          have hx2 : 2 * X + 1 < 32 := by
            have e := Sp.vl_take_lt (Sp.tb s) P K
            rw [HX.out] at e
            have := Nat.pow_le_pow_right (n := 2) (by decide) (show K ≤ 4 by omega)
            omega
          by_cases hin : P + K < 8 * s.size
          · obtain ⟨b, hb⟩ : ∃ b, (Sp.tb s)[P + K]? = some b := ⟨_, Sp.tb_in s (P + K) hin (by omega)⟩
            have HS := Sp.vl_step (Sp.tb s) P K b hb
            rw [HX.out] at HS
            have HBit : Hid (∀ wx, Calls Try.prog 21 #[.string s, .int .i64 ((P : Int) + (K : Int))] wx fun e w' => e = .returned (.int .i64 ((b.toNat : Nat) : Int)) ∧ w' = wx) := fun wx => bitAt_any s (P + K) _ rfl hin (by omega) b hb wx
            have hbn : b.toNat ≤ 1 := by cases b <;> decide
            generalize b.toNat = bn at *
            have HS2 : Hid (Sp.vl 0 (((Sp.tb s).drop P).take (K + 1)) = 2 * X + bn) := HS
            have hiz : (P : Int) + (K : Int) < 8 * (s.size : Int) := by omega
            clear HS hb HX
            go_wp2_with (go_at_call 21; refine (HBit.out _).mono ?_; rintro e w1 ⟨rfl, rfl⟩)
            go_round
            case rel => exact ⟨K + 1, 2 * X + bn, by omega, by omega, HS2, by go_num, by go_num⟩
            case measure => simp [intOf]; omega
          · have HS := Sp.vl_step (Sp.tb s) P K false (Sp.tb_out s (P + K) hin (by omega))
            rw [HX.out] at HS
            have HS2 : Hid (Sp.vl 0 (((Sp.tb s).drop P).take (K + 1)) = 2 * X) := HS
            have hiz : ¬ (P : Int) + (K : Int) < 8 * (s.size : Int) := by omega
            clear HS HX
            go_wp2
            go_round
            case rel => exact ⟨K + 1, 2 * X, by omega, by omega, HS2, by go_num, by go_num⟩
            case measure => simp [intOf]; omega
        · have hkz : ¬ (K : Int) < 5 := by omega
          obtain rfl : K = 5 := by omega
          have hcut := HC.out X hX
          have HAA : Hid (ac (j + 1) = bx ((Sp.chunk 5 j (Sp.tb s)).map Sp.letter ++ [Sp.letter X])) := by
            show _ = _
            rw [HA.out, Sp.chunk_succ, List.map_append, ← HP.out, HX.out]
            rfl
          have hadd : ∀ wx, (Op.stringOp .add (ac j) (bx [Sp.letter X])).run Try.prog wx = .ok (.string (ac (j + 1))) wx := by
            intro wx
            rw [HAA.out, HA.out]
            exact bx_add _ _ (by rw [List.length_map, Sp.chunk_length]; simp; omega) wx
          generalize bx [Sp.letter X] = y at *
          clear HAA HX
          go_wp2
          go_round
          case rel => exact ⟨j + 1, P + 5, by omega, (by have := HP.out; show P + 5 = 5 * (j + 1); omega), by omega, by go_num, rfl⟩
          case measure => simp [intOf]; omega
    · have hz : ¬ (P : Int) < 8 * (s.size : Int) := by omega
      obtain rfl : j = M := by have := HP.out; omega
      go_wp2
      go_ret
      exact ⟨rfl, rfl⟩
end Go.Proofs.Ythfdaaccopgbeaa
