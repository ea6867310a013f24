/- The program's small walks over spans: is a number near, is a span one, the look over a set, its size, one span joined. -/
import Derived.Test.YtandlmnbnjkklaaDoorOwnS
import Derived.Test.YtandlmnbnjkklaaDoorEndsToSpnEnds
import Derived.Lib.QuietBelow
namespace Go.Proofs.YtandlmnbnjkklaaDoor
open Go.RowKit Go.BigFrame

theorem Row2.lies {w : World} {a : Option Addr} {l : List Spn.Sp} (hr : Row2 w a l) {k : Nat} (hlt : k < l.length) :
    ∃ b off x y, a = some ⟨b, off, none⟩ ∧ b < w.heap.size ∧ l[k]? = some (x, y) ∧ w.cell? ⟨b, off + k * 2, none⟩ = some (.int .i64 x) ∧ w.cell? ⟨b, off + k * 2 + 1, none⟩ = some (.int .i64 y) := by
  rcases hr with rfl | ⟨b, off, rfl, hb, hc⟩
  · simp at hlt
  obtain ⟨c1, c2⟩ := hc k hlt
  exact ⟨b, off, _, _, rfl, hb, by simp [List.getD, List.getElem?_eq_getElem hlt], c1, c2⟩
theorem isNumber_any (n : Int) (w : World) :
    Calls Tryd.prog 68 #[.int .i64 n] w fun e w' => e = .returned (.bool (!Spn.far n)) ∧ w' = w := by
  by_cases h1 : -1099511627776 ≤ n
  · by_cases h2 : n ≤ 1099511627776
    · have e : (!Spn.far n) = true := by simp [Spn.far]; omega
      rw [e]; clear e
      go_enter Tryd.func68, Tryd.ntmps68
      go_wp2
      go_ret
      exact ⟨rfl, rfl⟩
    · have e : (!Spn.far n) = false := by simp [Spn.far]; omega
      rw [e]; clear e
      go_enter Tryd.func68, Tryd.ntmps68
      go_wp2
      go_ret
      exact ⟨rfl, rfl⟩
  · have e : (!Spn.far n) = false := by simp [Spn.far]; omega
    rw [e]; clear e
    have h1' : decide (-1099511627776 ≤ n) = false := by simpa using h1
    go_enter Tryd.func68, Tryd.ntmps68
    go_wp2
    go_ret
    exact ⟨rfl, rfl⟩
theorem isSpan_any (x y : Int) (w : World) :
    Calls Tryd.prog 54 #[.agg #[.int .i64 x, .int .i64 y]] w fun e w' => e = .returned (.bool (!(Spn.far x || Spn.far y))) ∧ Below w.heap.size w w' := by
  have b0 : Below w.heap.size w (w.alloc (.cells #[.int .i64 x, .int .i64 y] 47)) := (Below.refl _ _).alloc (Nat.le_refl _) _
  cases hfx : Spn.far x with
  | true =>
    go_enter Tryd.func54, Tryd.ntmps54
    go_wp2_with (go_at_call 68; refine (isNumber_any _ _).mono ?_; rintro e w1 ⟨rfl, rfl⟩; rw [hfx])
    go_ret
    exact ⟨rfl, b0⟩
  | false =>
    cases hfy : Spn.far y with
    | true =>
      go_enter Tryd.func54, Tryd.ntmps54
      go_wp2_with (go_at_call 68; refine (isNumber_any _ _).mono ?_; rintro e w1 ⟨rfl, rfl⟩; first | rw [hfx] | rw [hfy])
      go_ret
      exact ⟨rfl, b0⟩
    | false =>
      go_enter Tryd.func54, Tryd.ntmps54
      go_wp2_with (go_at_call 68; refine (isNumber_any _ _).mono ?_; rintro e w1 ⟨rfl, rfl⟩; first | rw [hfx] | rw [hfy])
      go_ret
      exact ⟨rfl, b0⟩
set_option maxHeartbeats 2000000 in
theorem pCheck (l : List Spn.Sp) (a : Option Addr) (cap : Nat) (w : World) (hl : l.length ≤ maxLen) (hr : Row2 w a l) :
    Calls Tryd.prog 41 #[.slice a l.length cap] w fun e w' => e = .returned (.int .i64 (Spn.chk l)) ∧ Below w.heap.size w w' := by
  unfold maxLen at hl
  by_cases h64 : 64 < l.length
  · have e : Spn.chk l = 2 := by unfold Spn.chk; rw [if_pos h64]
    rw [e]; clear e
    have h64' : (64 : Int) < (l.length : Int) := by omega
    go_enter Tryd.func41, Tryd.ntmps41
    go_wp2
    go_ret
    exact ⟨rfl, Below.refl _ _⟩
  · have e : Spn.chk l = Spn.chkAt l 0 := by unfold Spn.chk; rw [if_neg h64]; rfl
    rw [e]; clear e
    have h64' : (l.length : Int) ≤ 64 := by omega
    go_enter Tryd.func41, Tryd.ntmps41
    go_wp2
    go_loopw [10] (fun i wr => ∃ k : Nat, k ≤ l.length ∧ i = .int .i64 k ∧ Spn.chkAt l 0 = Spn.chkAt l k ∧ Below w.heap.size w wr) (fun i _ => l.length - (intOf i).toNat)
    case atStart => exact ⟨0, Nat.zero_le _, rfl, rfl, Below.refl _ _⟩
    case round =>
      obtain ⟨k, hk, rfl, hm, hnx⟩ := hrel
      have HM : Hid (Spn.chkAt l 0 = Spn.chkAt l k) := hm
      clear hm
      by_cases hlt : k < l.length
      · have hlt' : (k : Int) < (l.length : Int) := by omega
        have hrr := hr.below hnx
        obtain ⟨b, off, x, y, rfl, hb, hx, c1, c2⟩ := hrr.lies hlt
        have HS : Hid (_) := Spn.chkAt_succ l k x y hx
        have HX : Hid (l[k]? = some (x, y)) := hx
        clear hx
        have nx1 : Below w.heap.size w (wr.alloc (.cells #[.int .i64 x, .int .i64 y] 47)) := hnx.alloc hnx.size _
        go_wp2_with fail
        refine (isSpan_any x y _).mono ?_
        rintro e w1 ⟨rfl, b1⟩
        have nx2 := below_on nx1 (Nat.le_refl _) b1
        have d1 : w1.cell? ⟨wr.heap.size, 0, none⟩ = some (.int .i64 x) := (b1.cell (p := ⟨wr.heap.size, 0, none⟩) (by simp)).trans (by simp)
        have d2 : w1.cell? ⟨wr.heap.size, 1, none⟩ = some (.int .i64 y) := (b1.cell (p := ⟨wr.heap.size, 1, none⟩) (by simp)).trans (by simp)
        cases hff : (Spn.far x || Spn.far y) with
        | true =>
          have HE : Hid (Spn.chkAt l 0 = 3) := by unfold Hid; rw [HM.out, HS.out, if_pos hff]
          clear b1 hff
          go_wp2
          go_ret
          exact ⟨ret_int HE.out.symm, nx2⟩
        | false =>
          have hffn : ¬ (Spn.far x || Spn.far y) = true := by rw [hff]; decide
          by_cases hyx : y ≤ x
          · have HE : Hid (Spn.chkAt l 0 = 1) := by unfold Hid; rw [HM.out, HS.out, if_neg hffn, if_pos hyx]
            clear b1 hff hffn
            go_wp2
            go_ret
            exact ⟨ret_int HE.out.symm, nx2⟩
          · have hyx' : decide (y ≤ x) = false := by simpa using hyx
            by_cases hk0 : k = 0
            · subst hk0
              have HE : Hid (Spn.chkAt l 0 = Spn.chkAt l 1) := by unfold Hid; rw [HS.out, if_neg hffn, if_neg hyx]; rfl
              clear b1 hff hffn
              go_wp2
              go_quiet (fail)
              go_wp2
              go_roundw
              case rel => exact ⟨1, by omega, by go_num, HE.out, below_drewN nx2 _⟩
              case measure => simp [intOf]; omega
            · have hk1 : (0 : Int) < (k : Int) := by omega
              obtain ⟨k', rfl⟩ : ∃ k', k = k' + 1 := ⟨k - 1, by omega⟩
              have hrr1 := hrr.below (Below.trans ((Below.refl _ wr).alloc (Nat.le_refl _) (.cells #[.int .i64 x, .int .i64 y] 47)) (b1.mono (by simp)))
              obtain ⟨b', off', p, q, e', hb', hp, p1, p2⟩ := hrr1.lies (k := k') (by omega)
              obtain ⟨rfl, rfl⟩ : b = b' ∧ off = off' := by simpa using e'
              clear e'
              have HE : Hid (Spn.chkAt l 0 = if x ≤ q then 4 else Spn.chkAt l (k' + 1 + 1)) := by
                have hq : (if k' + 1 = 0 then none else (l[k' + 1 - 1]?).map (·.2)) = some q := by rw [if_neg (by omega), Nat.add_sub_cancel, hp]; rfl
                unfold Hid; rw [HM.out, HS.out, if_neg hffn, if_neg hyx, hq]
                by_cases c : x ≤ q <;> simp [c]
              have hcast : ((k' : Int) + 1 - 1) = k' := by omega
              have hw1 : IntKind.i64.wrap ((k' : Int) + 1 - 1) = k' := by rw [IntKind.wrap_i64]; omega
              have hw2 : (0 : Int) ≤ (k' : Int) := by omega
              have hw3 : (k' : Int) < (l.length : Int) := by omega
              clear b1 hff hffn hp p1
              by_cases hxq : x ≤ q
              · have HE' : Hid (Spn.chkAt l 0 = 4) := by unfold Hid; rw [HE.out, if_pos hxq]
                go_wp2
                go_quiet (fail)
                go_wp2
                go_ret
                exact ⟨ret_int HE'.out.symm, below_drewN nx2 _⟩
              · have HE' : Hid (Spn.chkAt l 0 = Spn.chkAt l (k' + 1 + 1)) := by unfold Hid; rw [HE.out, if_neg hxq]
                have hxq' : decide (x ≤ q) = false := by simpa using hxq
                go_wp2
                go_quiet (fail)
                go_wp2
                go_roundw
                case rel => exact ⟨k' + 1 + 1, by omega, by go_num, HE'.out, below_drewN nx2 _⟩
                case measure => simp [intOf]; omega
      · have HE : Hid (Spn.chkAt l 0 = 0) := by unfold Hid; rw [HM.out, Spn.chkAt_end l k (by omega)]
        have hlt' : ¬ (k : Int) < (l.length : Int) := by omega
        go_wp2
        go_ret
        exact ⟨ret_int HE.out.symm, hnx⟩
end Go.Proofs.YtandlmnbnjkklaaDoor
