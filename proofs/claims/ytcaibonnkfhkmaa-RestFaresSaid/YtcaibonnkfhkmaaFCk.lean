/- The walks of package fare: are fares right. -/
import Derived.Test.YtcaibonnkfhkmaaFWk
namespace Go.Proofs.Ytcaibonnkfhkmaa
open Go.RowKit

namespace Fr
theorem rowCode_len {w : Nat} {r : List Int} (h : r.length ≠ w) : rowCode w r = 1 := by unfold rowCode; rw [if_pos h]
theorem rowCode_bad {w k : Nat} {r : List Int} {p : Int} (hl : r.length = w) (h : r[k]? = some p) (hp : pok p = false) : rowCode w r = 3 := by
  unfold rowCode
  rw [if_neg (by omega), if_neg]
  intro q
  have := List.all_eq_true.1 q p (List.mem_of_getElem? h)
  rw [hp] at this
  cases this
theorem rowCode_ok {w : Nat} {r : List Int} (hl : r.length = w) (h : ∀ k, k < r.length → ∀ p, r[k]? = some p → pok p = true) : rowCode w r = 0 := by
  unfold rowCode
  rw [if_neg (by omega), if_pos]
  rw [List.all_eq_true]
  intro x hx
  obtain ⟨k, hk, rfl⟩ := List.getElem_of_mem hx
  exact h k hk _ (List.getElem?_eq_getElem hk)
theorem rowsCode_at : ∀ (f : List (List Int)) (i : Nat), i < f.length → (∀ j, j < i → rowCode (f.length - j) (f.getD j []) = 0) → rowCode (f.length - i) (f.getD i []) ≠ 0 → rowsCode f = rowCode (f.length - i) (f.getD i [])
  | [], i, h, _, _ => by simp at h
  | r :: l, i, h, h0, h1 => by
    unfold rowsCode
    cases i with
    | zero =>
      simp at h1 ⊢
      intro e
      exact absurd e h1
    | succ i =>
      have z := h0 0 (by omega)
      simp at z
      rw [if_neg (by omega)]
      have ih := rowsCode_at l i (by simpa using h) (fun j hj => by have := h0 (j + 1) (by omega); simpa using this) (by simpa using h1)
      rw [ih]
      simp
theorem rowsCode_all : ∀ (f : List (List Int)), (∀ j, j < f.length → rowCode (f.length - j) (f.getD j []) = 0) → rowsCode f = 0
  | [], _ => rfl
  | r :: l, h0 => by
    unfold rowsCode
    have z := h0 0 (by simp)
    simp at z
    rw [if_neg (by omega)]
    exact rowsCode_all l fun j hj => by have := h0 (j + 1) (by simpa using hj); simpa using this
theorem chk_rows {f : List (List Int)} (h1 : f.length ≠ 0) (h2 : f.length ≤ 6) : chk f = rowsCode f := by unfold chk; rw [if_neg h1, if_neg (by omega)]
end Fr
set_option maxRecDepth 100000 in
set_option maxHeartbeats 2000000 in
theorem fcheck_any (f : List (List Int)) (a : Option Addr) (cap : Nat) (w : World) (hl : f.length ≤ maxLen) (hm : Mat w a f) :
    Calls Try.prog 14 #[.slice a f.length cap] w fun e w' => e = .returned (.int .i64 (Fr.chk f)) ∧ w' = w := by
  unfold maxLen at hl
  obtain ⟨n, hn⟩ : ∃ n, f.length = n := ⟨_, rfl⟩
  have HN : Hid (f.length = n) := hn
  rw [hn] at hl ⊢
  clear hn
  by_cases h0 : n = 0
  · have HE : Hid (Fr.chk f = 5) := by show _ = _; unfold Fr.chk; rw [if_pos (by rw [HN.out]; exact h0)]
    subst h0
    clear hm
    go_enter Try.func14, Try.ntmps14
    go_wp2
    go_ret
    exact ⟨ret_int HE.out.symm, rfl⟩
  by_cases h6 : 6 < n
  · have HE : Hid (Fr.chk f = 2) := by show _ = _; unfold Fr.chk; rw [if_neg (by rw [HN.out]; exact h0), if_pos (by rw [HN.out]; exact h6)]
    have h0' : ((n : Int) == 0) = false := by simp; omega
    have h6' : (6 : Int) < (n : Int) := by omega
    clear hm
    go_enter Try.func14, Try.ntmps14
    go_wp2
    go_ret
    exact ⟨ret_int HE.out.symm, rfl⟩
  have HE : Hid (Fr.chk f = Fr.rowsCode f) := Fr.chk_rows (by rw [HN.out]; exact h0) (by rw [HN.out]; omega)
  have h0' : ((n : Int) == 0) = false := by simp; omega
  have h6' : (n : Int) ≤ 6 := by omega
  have HM : Hid (Mat w a f) := hm
  clear hm
  go_enter Try.func14, Try.ntmps14
  go_wp2
  go_loop [3, 4, 6, 15] (fun _ _ _ i => ∃ k : Nat, k ≤ n ∧ i = .int .i64 k ∧ ∀ j, j < k → Fr.rowCode (f.length - j) (f.getD j []) = 0) (fun _ _ _ i => n - (intOf i).toNat)
  case atStart => exact ⟨0, Nat.zero_le _, rfl, fun j hj => by omega⟩
  case round =>
    obtain ⟨k, hk, rfl, hz⟩ := hrel
    have HZ : Hid (∀ j, j < k → Fr.rowCode (f.length - j) (f.getD j []) = 0) := hz
    clear hz
    by_cases hlt : k < n
    · have hlt' : (k : Int) < (n : Int) := by omega
      obtain ⟨b, off, ai, ci, rfl, hb, c1, hr, hml⟩ := HM.out.at (k := k) (by rw [HN.out]; exact hlt)
      have HR : Hid (Row1 w ai (f.getD k [])) := hr
      obtain ⟨m, hmm⟩ : ∃ m, (f.getD k []).length = m := ⟨_, rfl⟩
      have HMM : Hid ((f.getD k []).length = m) := hmm
      rw [hmm] at c1 hml
      unfold maxLen at hml
      clear hr hmm
      by_cases hlen : m = n - k
      · have hlen' : ((m : Int) != (n : Int) - (k : Int)) = false := by simp; omega
        have HLEN : Hid (m = n - k) := hlen
        clear hlen
        go_wp2
        go_loop [6, 29] (fun _ i => ∃ j : Nat, j ≤ m ∧ i = .int .i64 j ∧ ∀ t, t < j → ∀ p, (f.getD k [])[t]? = some p → Fr.pok p = true) (fun _ i => m - (intOf i).toNat)
        case atStart => exact ⟨0, Nat.zero_le _, rfl, fun t ht => by omega⟩
        case round =>
          obtain ⟨j, hj, rfl, hz⟩ := hrel
          have HZ2 : Hid (∀ t, t < j → ∀ p, (f.getD k [])[t]? = some p → Fr.pok p = true) := hz
          clear hz
          by_cases hlj : j < m
          · have hlj' : (j : Int) < (m : Int) := by omega
            obtain ⟨b2, off2, p, rfl, hb2, hx, c2⟩ := HR.out.at (k := j) (by rw [HMM.out]; exact hlj)
            have HX : Hid ((f.getD k [])[j]? = some p) := hx
            clear hx
            cases hp : Fr.pok p with
            | true =>
              have hw := within_is p 0 1000000 true w hp
              have HN2 : Hid (∀ t, t < j + 1 → ∀ p, (f.getD k [])[t]? = some p → Fr.pok p = true) := by
                intro t ht q hq
                by_cases c : t = j
                · subst c
                  obtain rfl : p = q := Option.some.inj (HX.out.symm.trans hq)
                  exact hp
                · exact HZ2.out t (by omega) q hq
              clear hp
              go_wp2_with fail
              refine hw.mono ?_; rintro e w1 ⟨rfl, rfl⟩
              go_wp2
              go_round
              case rel => exact ⟨j + 1, by omega, by go_num, HN2.out⟩
              case measure => simp [intOf]; omega
            | false =>
              have hw := within_is p 0 1000000 false w hp
              have HEE : Hid (Fr.chk f = 3) := by
                show _ = _
                have q : Fr.rowCode (f.length - k) (f.getD k []) = 3 := Fr.rowCode_bad (by rw [HMM.out, HN.out]; exact HLEN.out) HX.out hp
                rw [HE.out, Fr.rowsCode_at f k (by rw [HN.out]; exact hlt) HZ.out (by rw [q]; decide), q]
              clear hp
              go_wp2_with fail
              refine hw.mono ?_; rintro e w1 ⟨rfl, rfl⟩
              go_wp2
              go_ret
              exact ⟨ret_int HEE.out.symm, rfl⟩
          · obtain rfl : j = m := by omega
            have HN2 : Hid (∀ t, t < k + 1 → Fr.rowCode (f.length - t) (f.getD t []) = 0) := by
              intro t ht
              by_cases c : t = k
              · subst c
                exact Fr.rowCode_ok (by rw [HMM.out, HN.out]; exact HLEN.out) (by rw [HMM.out]; exact HZ2.out)
              · exact HZ.out t (by omega)
            go_wp2
            go_round
            case rel => exact ⟨k + 1, by omega, by go_num, HN2.out⟩
            case measure => simp [intOf]; omega
      · have hlen' : ((m : Int) != (n : Int) - (k : Int)) = true := by simp; omega
        have HEE : Hid (Fr.chk f = 1) := by
          show _ = _
          have q : Fr.rowCode (f.length - k) (f.getD k []) = 1 := Fr.rowCode_len (by rw [HMM.out, HN.out]; exact hlen)
          rw [HE.out, Fr.rowsCode_at f k (by rw [HN.out]; exact hlt) HZ.out (by rw [q]; decide), q]
        go_wp2
        go_ret
        exact ⟨ret_int HEE.out.symm, rfl⟩
    · have hkn : k = n := by omega
      have HEE : Hid (Fr.chk f = 0) := by show _ = _; rw [HE.out]; exact Fr.rowsCode_all f (fun j hj => HZ.out j (by rw [HN.out] at hj; omega))
      subst hkn
      go_wp2
      go_ret
      exact ⟨ret_int HEE.out.symm, rfl⟩
end Go.Proofs.Ytcaibonnkfhkmaa
