/- Walks over slices of spans (two whole numbers each) that are only read. -/
import Derived.Test.YtandlmnbnjkklaaDoorBaseToRow1
import Derived.Test.YtandlmnbnjkklaaDoorSpn
import Derived.WalkKit
import Derived.WalkSpells
import Derived.WalkLawsBesides
import Derived.Deep.QuietTactic
import Derived.BigQuiet
import Derived.Lib.QuietBelow
namespace Go.Proofs.YtandlmnbnjkklaaDoor
open Go.RowKit

/-- A slice of spans that lies there: what its elements read as. -/
def Row2 (w : World) (a : Option Addr) (l : List Spn.Sp) : Prop :=
  l = [] ∨ ∃ b off, a = some ⟨b, off, none⟩ ∧ b < w.heap.size ∧ ∀ i : Nat, i < l.length → w.cell? ⟨b, off + i * 2, none⟩ = some (.int .i64 (l.getD i (0, 0)).1) ∧ w.cell? ⟨b, off + i * 2 + 1, none⟩ = some (.int .i64 (l.getD i (0, 0)).2)

theorem Row2.at {w : World} {a : Option Addr} {l : List Spn.Sp} (hr : Row2 w a l) {k : Nat} (hlt : k < l.length) :
    ∃ b off x y, a = some ⟨b, off, none⟩ ∧ l[k]? = some (x, y) ∧ w.cell? ⟨b, off + k * 2, none⟩ = some (.int .i64 x) ∧ w.cell? ⟨b, off + k * 2 + 1, none⟩ = some (.int .i64 y) := by
  rcases hr with rfl | ⟨b, off, rfl, hb, hc⟩
  · simp at hlt
  obtain ⟨c1, c2⟩ := hc k hlt
  exact ⟨b, off, _, _, rfl, by simp [List.getD, List.getElem?_eq_getElem hlt], c1, c2⟩
namespace Spn
theorem memB_append (a b : List Sp) (n : Int) : memB (a ++ b) n = (memB a n || memB b n) := by unfold memB; rw [List.any_append]
theorem take_succ_of (l : List Sp) (k : Nat) (x y : Int) (h : l[k]? = some (x, y)) : l.take (k + 1) = l.take k ++ [(x, y)] := by
  rw [List.take_add_one, h]; rfl
theorem memB_no (l : List Sp) (k : Nat) (x y n : Int) (h : l[k]? = some (x, y)) (h0 : memB (l.take k) n = false) (hn : ¬ (x ≤ n ∧ n < y)) : memB (l.take (k + 1)) n = false := by
  rw [take_succ_of l k x y h, memB_append, h0]
  simp [memB]; omega
theorem memB_yes (l : List Sp) (k : Nat) (x y n : Int) (h : l[k]? = some (x, y)) (h1 : x ≤ n) (h2 : n < y) : memB l n = true := by
  rw [memB_iff]
  exact ⟨(x, y), List.mem_of_getElem? h, h1, h2⟩
end Spn
set_option maxHeartbeats 400000 in
theorem hasDay_any (l : List Spn.Sp) (a : Option Addr) (cap : Nat) (n : Int) (w : World) (hl : l.length ≤ maxLen) (hr : Row2 w a l) :
    Calls Tryd.prog 42 #[.slice a l.length cap, .int .i64 n] w fun e w' => e = .returned (.bool (Spn.memB l n)) ∧ w' = w := by
  unfold maxLen at hl
  go_enter Tryd.func42, Tryd.ntmps42
  go_wp2
  go_loop [5] (fun i => ∃ k : Nat, k ≤ l.length ∧ i = .int .i64 k ∧ Spn.memB (l.take k) n = false) (fun i => l.length - (intOf i).toNat)
  case atStart => exact ⟨0, Nat.zero_le _, rfl, rfl⟩
  case round =>
    obtain ⟨k, hk, rfl, hm⟩ := hrel
    have HM : Hid (Spn.memB (l.take k) n = false) := hm
    clear hm
    by_cases hlt : k < l.length
    · obtain ⟨b, off, x, y, rfl, hx, c1, c2⟩ := hr.at hlt
      have HX : Hid (l[k]? = some (x, y)) := hx
      clear hx
      by_cases h1 : x ≤ n
      · by_cases h2 : n < y
        · go_wp2
          go_ret
          exact ⟨ret_bool (Spn.memB_yes l k x y n HX.out h1 h2).symm, rfl⟩
        · go_wp2
          go_round
          case rel => exact ⟨k + 1, by omega, by go_num, Spn.memB_no l k x y n HX.out HM.out (by omega)⟩
          case measure => simp [intOf]; omega
      · have h1' : decide (x ≤ n) = false := by simpa using h1
        go_wp2
        go_round
        case rel => exact ⟨k + 1, by omega, by go_num, Spn.memB_no l k x y n HX.out HM.out (by omega)⟩
        case measure => simp [intOf]; omega
    · go_wp2
      go_ret
      refine ⟨ret_bool ?_, rfl⟩
      have := HM.out
      rw [List.take_of_length_le (by omega)] at this
      exact this.symm
theorem farDay_any (n : Int) (w : World) :
    Calls Tryd.prog 53 #[.int .i64 n] w fun e w' => e = .returned (.bool (Spn.far n)) ∧ w' = w := by
  by_cases h1 : n < -1099511627776
  · have e : Spn.far n = true := by simp [Spn.far, h1]
    rw [e]; clear e
    go_enter Tryd.func53, Tryd.ntmps53
    go_wp2
    go_ret
    exact ⟨rfl, rfl⟩
  · by_cases h2 : 1099511627776 < n
    · have e : Spn.far n = true := by simp [Spn.far, h2]
      rw [e]; clear e
      go_enter Tryd.func53, Tryd.ntmps53
      go_wp2
      go_ret
      exact ⟨rfl, rfl⟩
    · have e : Spn.far n = false := by simp [Spn.far]; omega
      rw [e]; clear e
      go_enter Tryd.func53, Tryd.ntmps53
      go_wp2
      go_ret
      exact ⟨rfl, rfl⟩
set_option maxHeartbeats 1000000 in
theorem spansCheck_any (l : List Spn.Sp) (a : Option Addr) (cap : Nat) (w : World) (hl : l.length ≤ maxLen) (hr : Row2 w a l) :
    Calls Tryd.prog 34 #[.slice a l.length cap] w fun e w' => e = .returned (.int .i64 (Spn.chk l)) ∧ ∃ m, w' = w.drewN m := by
  unfold maxLen at hl
  by_cases h64 : 64 < l.length
  · have e : Spn.chk l = 2 := by unfold Spn.chk; rw [if_pos h64]
    rw [e]; clear e
    have h64' : (64 : Int) < (l.length : Int) := by omega
    go_enter Tryd.func34, Tryd.ntmps34
    go_wp2
    go_ret
    exact ⟨rfl, 0, rfl⟩
  · have e : Spn.chk l = Spn.chkAt l 0 := by unfold Spn.chk; rw [if_neg h64]; rfl
    rw [e]; clear e
    have h64' : (l.length : Int) ≤ 64 := by omega
    go_enter Tryd.func34, Tryd.ntmps34
    go_wp2
    go_loopw [3] (fun i wr => ∃ k : Nat, k ≤ l.length ∧ i = .int .i64 k ∧ Spn.chkAt l 0 = Spn.chkAt l k ∧ ∃ m, wr = w.drewN m) (fun i _ => l.length - (intOf i).toNat)
    case atStart => exact ⟨0, Nat.zero_le _, rfl, rfl, 0, rfl⟩
    case round =>
      obtain ⟨k, hk, rfl, hm, m, rfl⟩ := hrel
      have HM : Hid (Spn.chkAt l 0 = Spn.chkAt l k) := hm
      clear hm
      by_cases hlt : k < l.length
      · have hlt' : (k : Int) < (l.length : Int) := by omega
        obtain ⟨b, off, x, y, rfl, hx, c1, c2⟩ := hr.at hlt
        have HX : Hid (l[k]? = some (x, y)) := hx
        have HS : Hid (_) := Spn.chkAt_succ l k x y hx
        clear hx
        cases hfx : Spn.far x with
        | true =>
          have HE : Hid (Spn.chkAt l 0 = 3) := by unfold Hid; rw [HM.out, HS.out, if_pos (by rw [hfx]; rfl)]
          go_wp2_with (go_at_call 53; refine (farDay_any _ _).mono ?_; rintro e w1 ⟨rfl, rfl⟩)
          go_ret
          exact ⟨ret_int HE.out.symm, m, rfl⟩
        | false =>
          cases hfy : Spn.far y with
          | true =>
            have HE : Hid (Spn.chkAt l 0 = 3) := by unfold Hid; rw [HM.out, HS.out, if_pos (by rw [hfy]; simp)]
            go_wp2_with (go_at_call 53; refine (farDay_any _ _).mono ?_; rintro e w1 ⟨rfl, rfl⟩)
            go_ret
            exact ⟨ret_int HE.out.symm, m, rfl⟩
          | false =>
            have hff : ¬ (Spn.far x || Spn.far y) = true := by rw [hfx, hfy]; decide
            by_cases hyx : y ≤ x
            · have HE : Hid (Spn.chkAt l 0 = 1) := by unfold Hid; rw [HM.out, HS.out, if_neg hff, if_pos hyx]
              clear hff
              go_wp2_with (go_at_call 53; refine (farDay_any _ _).mono ?_; rintro e w1 ⟨rfl, rfl⟩)
              go_quiet (fail)
              go_wp2
              go_ret
              refine ⟨ret_int HE.out.symm, m + nq, ?_⟩
              first | rfl | rw [World.drewN_drewN]
            · by_cases hk0 : k = 0
              · subst hk0
                simp only [Nat.zero_mul, Nat.add_zero] at c1 c2
                have HE : Hid (Spn.chkAt l 0 = Spn.chkAt l (0 + 1)) := by unfold Hid; rw [HS.out, if_neg hff, if_neg hyx, if_pos rfl]; rfl
                clear hff
                go_wp2_with (go_at_call 53; refine (farDay_any _ _).mono ?_; rintro e w1 ⟨rfl, rfl⟩)
                go_quiet (fail)
                go_wp2
                go_quiet (fail)
                go_wp2
                go_roundw
                case rel => exact ⟨0 + 1, by omega, by go_num, HE.out, _, by first | rfl | simp only [World.drewN_drewN]⟩
                case measure => simp [intOf]; omega
              · have hk1 : (0 : Int) < (k : Int) := by omega
                obtain ⟨b', off', px, py, hbb, hpx, c3, c4⟩ := hr.at (k := k - 1) (by omega)
                obtain ⟨rfl, rfl⟩ : b = b' ∧ off = off' := by simpa using hbb
                have HP : Hid (l[k - 1]? = some (px, py)) := hpx
                clear hpx hbb
                have hk2 : (k : Int) - 1 < (l.length : Int) := by omega
                have hk3 : (0 : Int) ≤ (k : Int) - 1 := by omega
                have hk4 : 0 < k := by omega
                by_cases hxp : x ≤ py
                · have HE : Hid (Spn.chkAt l 0 = 4) := by unfold Hid; rw [HM.out, HS.out, if_neg hff, if_neg hyx, if_neg hk0, HP.out]; exact if_pos (by simpa using hxp)
                  clear hff
                  go_wp2_with (go_at_call 53; refine (farDay_any _ _).mono ?_; rintro e w1 ⟨rfl, rfl⟩)
                  go_quiet (fail)
                  go_wp2
                  go_quiet (fail)
                  go_wp2
                  go_ret
                  refine ⟨ret_int HE.out.symm, ?_⟩
                  rw [World.drewN_drewN, World.drewN_drewN]
                  exact ⟨_, rfl⟩
                · have HE : Hid (Spn.chkAt l 0 = Spn.chkAt l (k + 1)) := by unfold Hid; rw [HM.out, HS.out, if_neg hff, if_neg hyx, if_neg hk0, HP.out]; exact if_neg (by simpa using hxp)
                  clear hff
                  go_wp2_with (go_at_call 53; refine (farDay_any _ _).mono ?_; rintro e w1 ⟨rfl, rfl⟩)
                  go_quiet (fail)
                  go_wp2
                  go_quiet (fail)
                  go_wp2
                  go_roundw
                  case rel => exact ⟨k + 1, by omega, by go_num, HE.out, _, by first | rfl | simp only [World.drewN_drewN]⟩
                  case measure => simp [intOf]; omega
      · have HE : Hid (Spn.chkAt l 0 = 0) := by unfold Hid; rw [HM.out, Spn.chkAt_end l k (by omega)]
        go_wp2
        go_ret
        exact ⟨ret_int HE.out.symm, m, rfl⟩
theorem ext_take (l r : List Spn.Sp) (h : l.length = r.length) (k : Nat) (hk : l.length ≤ k) (e : l.take k = r.take k) : l = r := by
  rw [List.take_of_length_le hk, List.take_of_length_le (by omega)] at e; exact e
set_option maxHeartbeats 1000000 in
theorem sameSpans_any (l r : List Spn.Sp) (a a' : Option Addr) (cap cap' : Nat) (w : World) (hl : l.length ≤ maxLen) (hl' : r.length ≤ maxLen) (hr : Row2 w a l) (hr' : Row2 w a' r) :
    Calls Tryd.prog 36 #[.slice a l.length cap, .slice a' r.length cap'] w fun e w' => e = .returned (.bool (decide (l = r))) ∧ ∃ m, w' = w.drewN m := by
  unfold maxLen at hl hl'
  by_cases hlen : l.length = r.length
  · have HL : Hid (l.length = r.length) := hlen
    go_enter Tryd.func36, Tryd.ntmps36
    rw [← hlen]
    clear hlen
    go_wp2
    go_loopw [5] (fun i wr => ∃ k : Nat, k ≤ l.length ∧ i = .int .i64 k ∧ l.take k = r.take k ∧ ∃ m, wr = w.drewN m) (fun i _ => l.length - (intOf i).toNat)
    case atStart => exact ⟨0, Nat.zero_le _, rfl, rfl, 0, rfl⟩
    case round =>
      obtain ⟨k, hk, rfl, hm, m, rfl⟩ := hrel
      have HM : Hid (l.take k = r.take k) := hm
      clear hm
      by_cases hlt : k < l.length
      · have hlt' : (k : Int) < (l.length : Int) := by omega
        obtain ⟨b, off, x, y, rfl, hx, c1, c2⟩ := hr.at hlt
        obtain ⟨b', off', x', y', rfl, hx', c1', c2'⟩ := hr'.at (k := k) (by have := HL.out; omega)
        have HX : Hid (l[k]? = some (x, y) ∧ r[k]? = some (x', y')) := ⟨hx, hx'⟩
        clear hx hx'
        by_cases e1 : x = x'
        · by_cases e2 : y = y'
          · subst e1 e2
            have HE : Hid (l.take (k + 1) = r.take (k + 1)) := by
              unfold Hid; rw [Spn.take_succ_of l k x y HX.out.1, Spn.take_succ_of r k x y HX.out.2, HM.out]
            go_wp2
            go_quiet (fail)
            go_wp2
            go_roundw
            case rel => exact ⟨k + 1, by omega, by go_num, HE.out, _, by first | rfl | simp only [World.drewN_drewN]⟩
            case measure => simp [intOf]; omega
          · subst e1
            have HE : Hid (decide (l = r) = false) := by
              unfold Hid
              simp only [decide_eq_false_iff_not]
              rintro rfl
              have := HX.out.1.symm.trans HX.out.2
              simp at this
              exact e2 this
            go_wp2
            go_quiet (fail)
            go_wp2
            go_ret
            refine ⟨ret_bool HE.out.symm, ?_⟩
            first | exact ⟨_, rfl⟩ | (rw [World.drewN_drewN]; exact ⟨_, rfl⟩)
        · have HE : Hid (decide (l = r) = false) := by
            unfold Hid
            simp only [decide_eq_false_iff_not]
            rintro rfl
            have := HX.out.1.symm.trans HX.out.2
            simp at this
            exact e1 this.1
          go_wp2
          go_quiet (fail)
          go_wp2
          go_ret
          refine ⟨ret_bool HE.out.symm, ?_⟩
          first | exact ⟨_, rfl⟩ | (rw [World.drewN_drewN]; exact ⟨_, rfl⟩)
      · go_wp2
        go_ret
        exact ⟨ret_bool (by simpa using ext_take l r HL.out k (by omega) HM.out), m, rfl⟩
  · have HE : Hid (decide (l = r) = false) := by
      unfold Hid
      simp only [decide_eq_false_iff_not]
      rintro rfl
      exact hlen rfl
    have hne : ((l.length : Int) != (r.length : Int)) = true := by simp; omega
    go_enter Tryd.func36, Tryd.ntmps36
    go_wp2
    go_ret
    exact ⟨ret_bool HE.out.symm, 0, rfl⟩
end Go.Proofs.YtandlmnbnjkklaaDoor
