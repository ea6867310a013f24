/- The walks of the document's fares: are fares right. -/
import Derived.Test.YtcaibonnkfhkmaaFCk
namespace Go.Proofs.Ytcaibonnkfhkmaa
open Go.RowKit

set_option maxRecDepth 100000 in
set_option maxHeartbeats 2000000 in
theorem faresCheck_any (f : List (List Int)) (a : Option Addr) (cap : Nat) (w : World) (hl : f.length ≤ maxLen) (hm : Mat w a f) :
    Calls Try.prog 11 #[.slice a f.length cap] w fun e w' => e = .returned (.int .i64 (Fr.chk f)) ∧ w' = w := by
  unfold maxLen at hl
  obtain ⟨n, hn⟩ : ∃ n, f.length = n := ⟨_, rfl⟩
  have HN : Hid (f.length = n) := hn
  rw [hn] at hl ⊢
  clear hn
  by_cases h0 : n = 0
  · have HE : Hid (Fr.chk f = 5) := by show _ = _; unfold Fr.chk; rw [if_pos (by rw [HN.out]; exact h0)]
    subst h0
    clear hm
    go_enter Try.func11, Try.ntmps11
    go_wp2
    go_ret
    exact ⟨ret_int HE.out.symm, rfl⟩
  by_cases h6 : 6 < n
  · have HE : Hid (Fr.chk f = 2) := by show _ = _; unfold Fr.chk; rw [if_neg (by rw [HN.out]; exact h0), if_pos (by rw [HN.out]; exact h6)]
    have h0' : ((n : Int) == 0) = false := by simp; omega
    have h6' : (6 : Int) < (n : Int) := by omega
    clear hm
    go_enter Try.func11, Try.ntmps11
    go_wp2
    go_ret
    exact ⟨ret_int HE.out.symm, rfl⟩
  have HE : Hid (Fr.chk f = Fr.rowsCode f) := Fr.chk_rows (by rw [HN.out]; exact h0) (by rw [HN.out]; omega)
  have h0' : ((n : Int) == 0) = false := by simp; omega
  have h6' : (n : Int) ≤ 6 := by omega
  have HM : Hid (Mat w a f) := hm
  clear hm
  go_enter Try.func11, Try.ntmps11
  go_wp2
  go_loop [4, 5] (fun i _ => ∃ k : Nat, k ≤ n ∧ i = .int .i64 k ∧ ∀ j, j < k → Fr.rowCode (f.length - j) (f.getD j []) = 0) (fun i _ => n - (intOf i).toNat)
  case atStart => exact ⟨0, Nat.zero_le _, rfl, fun j hj => by omega⟩
  case round =>
    obtain ⟨k, hk, rfl, hz⟩ := hrel
    have HZ : Hid (∀ j, j < k → Fr.rowCode (f.length - j) (f.getD j []) = 0) := hz
    clear hz
    by_cases hlt : k < n
    · have hlt' : (k : Int) < (n : Int) := by omega
      obtain ⟨b, off, ai, ci, rfl, hb, c1, hr, hml⟩ := HM.out.at (k := k) (by rw [HN.out]; exact hlt)
      have HR : Hid (Row1 w ai (f.getD k [])) := hr
      obtain ⟨m, hmm⟩ : ∃ m, (f.getD k []).length = m := ⟨_, rfl⟩
      have HMM : Hid ((f.getD k []).length = m) := hmm
      rw [hmm] at c1 hml
      unfold maxLen at hml
      clear hr hmm
      by_cases hlen : m = n - k
      · have hlen' : ((m : Int) != (n : Int) - (k : Int)) = false := by simp; omega
        have HLEN : Hid (m = n - k) := hlen
        clear hlen
        go_wp2
        go_loop [5] (fun i => ∃ j : Nat, j ≤ m ∧ i = .int .i64 j ∧ ∀ t, t < j → ∀ p, (f.getD k [])[t]? = some p → Fr.pok p = true) (fun i => m - (intOf i).toNat)
        case atStart => exact ⟨0, Nat.zero_le _, rfl, fun t ht => by omega⟩
        case round =>
          obtain ⟨j, hj, rfl, hz⟩ := hrel
          have HZ2 : Hid (∀ t, t < j → ∀ p, (f.getD k [])[t]? = some p → Fr.pok p = true) := hz
          clear hz
          by_cases hlj : j < m
          · have hlj' : (j : Int) < (m : Int) := by omega
            obtain ⟨b2, off2, p, rfl, hb2, hx, c2⟩ := HR.out.at (k := j) (by rw [HMM.out]; exact hlj)
            have HX : Hid ((f.getD k [])[j]? = some p) := hx
            clear hx
            by_cases hp : 0 ≤ p ∧ p ≤ 1000000
            · have HN2 : Hid (∀ t, t < j + 1 → ∀ p, (f.getD k [])[t]? = some p → Fr.pok p = true) := by
                intro t ht q hq
                by_cases c : t = j
                · subst c
                  obtain rfl : p = q := Option.some.inj (HX.out.symm.trans hq)
                  unfold Fr.pok
                  simpa using hp
                · exact HZ2.out t (by omega) q hq
              obtain ⟨hp0, hp1⟩ := hp
              have hp0' : decide (p < 0) = false := by simpa using hp0
              have hp1' : ¬ 1000000 < p := by omega
              go_wp2
              go_round
              case rel => exact ⟨j + 1, by omega, by go_num, HN2.out⟩
              case measure => simp [intOf]; omega
            · have HEE : Hid (Fr.chk f = 3) := by
                show _ = _
                have q : Fr.rowCode (f.length - k) (f.getD k []) = 3 := Fr.rowCode_bad (by rw [HMM.out, HN.out]; exact HLEN.out) HX.out (by unfold Fr.pok; simpa using hp)
                rw [HE.out, Fr.rowsCode_at f k (by rw [HN.out]; exact hlt) HZ.out (by rw [q]; decide), q]
              by_cases hp0 : p < 0
              · have hp0' : decide (p < 0) = true := by simpa using hp0
                go_wp2
                go_ret
                exact ⟨ret_int HEE.out.symm, rfl⟩
              · have hp0' : decide (p < 0) = false := by simpa using hp0
                have hp1' : 1000000 < p := by omega
                go_wp2
                go_ret
                exact ⟨ret_int HEE.out.symm, rfl⟩
          · obtain rfl : j = m := by omega
            have HN2 : Hid (∀ t, t < k + 1 → Fr.rowCode (f.length - t) (f.getD t []) = 0) := by
              intro t ht
              by_cases c : t = k
              · subst c
                exact Fr.rowCode_ok (by rw [HMM.out, HN.out]; exact HLEN.out) (by rw [HMM.out]; exact HZ2.out)
              · exact HZ.out t (by omega)
            go_wp2
            go_round
            case rel => exact ⟨k + 1, by omega, by go_num, HN2.out⟩
            case measure => simp [intOf]; omega
      · have hlen' : ((m : Int) != (n : Int) - (k : Int)) = true := by simp; omega
        have HEE : Hid (Fr.chk f = 1) := by
          show _ = _
          have q : Fr.rowCode (f.length - k) (f.getD k []) = 1 := Fr.rowCode_len (by rw [HMM.out, HN.out]; exact hlen)
          rw [HE.out, Fr.rowsCode_at f k (by rw [HN.out]; exact hlt) HZ.out (by rw [q]; decide), q]
        go_wp2
        go_ret
        exact ⟨ret_int HEE.out.symm, rfl⟩
    · have hkn : k = n := by omega
      have HEE : Hid (Fr.chk f = 0) := by show _ = _; rw [HE.out]; exact Fr.rowsCode_all f (fun j hj => HZ.out j (by rw [HN.out] at hj; omega))
      subst hkn
      go_wp2
      go_ret
      exact ⟨ret_int HEE.out.symm, rfl⟩
end Go.Proofs.Ytcaibonnkfhkmaa
