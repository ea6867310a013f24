/- The document's answers: the look over the offers. -/
import Derived.Test.YthokgbbolijgiaaCRw
namespace Go.Proofs.Ythokgbbolijgiaa
open Go.RowKit Go.BigFrame

set_option maxHeartbeats 2000000 in
theorem offersCheck_any (l : List Cv.Off) (a : Option Addr) (cap : Nat) (w : World) (hl : l.length ≤ maxLen) (hr : RowO w a l) :
    Calls Try.prog 15 #[.slice a l.length cap] w fun e w' => e = .returned (.int .i64 (Cv.chk l)) ∧ w' = w := by
  unfold maxLen at hl
  by_cases h0 : l.length = 0
  · have e : Cv.chk l = 5 := by unfold Cv.chk; rw [if_pos h0]
    rw [e, h0]; clear e
    go_enter Try.func15, Try.ntmps15
    go_wp2
    go_ret
    exact ⟨rfl, rfl⟩
  · have h0' : ((l.length : Int) == 0) = false := by rw [beq_eq_false_iff_ne]; omega
    by_cases h8 : 8 < l.length
    · have e : Cv.chk l = 2 := by unfold Cv.chk; rw [if_neg h0, if_pos h8]
      rw [e]; clear e
      have h8' : (8 : Int) < (l.length : Int) := by omega
      go_enter Try.func15, Try.ntmps15
      go_wp2
      go_ret
      exact ⟨rfl, rfl⟩
    · have e : Cv.chk l = if l.all Cv.okO then 0 else 3 := by unfold Cv.chk; rw [if_neg h0, if_neg h8]
      have HE : Hid (_) := e
      clear e
      have h8' : (l.length : Int) ≤ 8 := by omega
      have h8'' : l.length ≤ 8 := by omega
      clear h0 h8 hl
      go_enter Try.func15, Try.ntmps15
      go_wp2
      go_loop [3] (fun i => ∃ k : Nat, k ≤ l.length ∧ i = .int .i64 k ∧ (l.take k).all Cv.okO = true) (fun i => l.length - (intOf i).toNat)
      case atStart => exact ⟨0, Nat.zero_le _, rfl, rfl⟩
      case round =>
        obtain ⟨k, hk, rfl, hm⟩ := hrel
        have HM : Hid ((l.take k).all Cv.okO = true) := hm
        clear hm
        by_cases hlt : k < l.length
        · have hlt' : (k : Int) < (l.length : Int) := by omega
          obtain ⟨b, off, x, y, rfl, hb, hx, c1, c2⟩ := hr.lies hlt
          have HX : Hid (l[k]? = some (x, y)) := hx
          clear hx
          by_cases d1 : x < 1
          · have HO : Hid (l.all Cv.okO = false) := all_no l k _ HX.out (by unfold Cv.okO; exact decide_eq_false (fun h => by have := h.1; simp only at this; omega))
            go_wp2
            go_ret
            exact ⟨ret_int (by rw [HE.out, HO.out]; rfl), rfl⟩
          · have e1 : decide (x < 1) = false := decide_eq_false d1
            by_cases d2 : 400 < x
            · have HO : Hid (l.all Cv.okO = false) := all_no l k _ HX.out (by unfold Cv.okO; exact decide_eq_false (fun h => by have := h.2.1; simp only at this; omega))
              clear d1
              go_wp2
              go_ret
              exact ⟨ret_int (by rw [HE.out, HO.out]; rfl), rfl⟩
            · have e2 : decide (400 < x) = false := decide_eq_false d2
              by_cases d3 : y < 0
              · have HO : Hid (l.all Cv.okO = false) := all_no l k _ HX.out (by unfold Cv.okO; exact decide_eq_false (fun h => by have := h.2.2.1; simp only at this; omega))
                clear d1 d2
                go_wp2
                go_ret
                exact ⟨ret_int (by rw [HE.out, HO.out]; rfl), rfl⟩
              · have e3 : decide (y < 0) = false := decide_eq_false d3
                by_cases d4 : 1000000 < y
                · have HO : Hid (l.all Cv.okO = false) := all_no l k _ HX.out (by unfold Cv.okO; exact decide_eq_false (fun h => by have := h.2.2.2; simp only at this; omega))
                  clear d1 d2 d3
                  go_wp2
                  go_ret
                  exact ⟨ret_int (by rw [HE.out, HO.out]; rfl), rfl⟩
                · have e4 : decide (1000000 < y) = false := decide_eq_false d4
                  have HO : Hid ((l.take (k + 1)).all Cv.okO = true) := by
                    unfold Hid; rw [all_take_succ l k _ HX.out, HM.out, (Cv.okO_iff _).2 ⟨by show 1 ≤ x; omega, by show x ≤ 400; omega, by show 0 ≤ y; omega, by show y ≤ 1000000; omega⟩]; rfl
                  clear d1 d2 d3 d4
                  go_wp2
                  go_round
                  case rel => exact ⟨k + 1, by omega, by go_num, HO.out⟩
                  case measure => simp [intOf]; omega
        · have HA : Hid (l.all Cv.okO = true) := by
            have := HM.out
            rw [List.take_of_length_le (by omega)] at this
            exact this
          have hlt' : ¬ (k : Int) < (l.length : Int) := by omega
          go_wp2
          go_ret
          exact ⟨ret_int (by rw [HE.out, HA.out]; rfl), rfl⟩
end Go.Proofs.Ythokgbbolijgiaa
