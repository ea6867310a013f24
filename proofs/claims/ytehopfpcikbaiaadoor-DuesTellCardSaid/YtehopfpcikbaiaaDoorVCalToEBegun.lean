/- The reference's look at a calendar. What must be in any case of Easter (easterBegun) is so. -/
import Derived.Test.YtehopfpcikbaiaaDoorWTop2ToVRule
import Derived.Test.YtehopfpcikbaiaaDoorWkToWDay
namespace Go.Proofs.YtehopfpcikbaiaaDoor
open Go.RowKit

namespace Wk
/-- how many of the first weekdays are none of rest -/
def freeN (R : Rst) : Nat → Int
  | 0 => 0
  | k + 1 => freeN R k + if R.at k = true then 0 else 1
theorem freeN_bd (R : Rst) : ∀ k : Nat, 0 ≤ freeN R k ∧ freeN R k ≤ k
  | 0 => by simp [freeN]
  | k + 1 => by
    have := freeN_bd R k
    unfold freeN
    split <;> omega
theorem freeN_all (R : Rst) : freeN R 7 = 0 ↔ R.all = true := by
  obtain ⟨b0, b1, b2, b3, b4, b5, b6⟩ := R
  cases b0 <;> cases b1 <;> cases b2 <;> cases b3 <;> cases b4 <;> cases b5 <;> cases b6 <;> decide
end Wk
theorem calCell (R : Wk.Rst) (s : Value) (t : TypeId) (w : World) (k : Nat) (hk : k < 7) :
    (w.alloc (.cells #[.bool R.b0, .bool R.b1, .bool R.b2, .bool R.b3, .bool R.b4, .bool R.b5, .bool R.b6, s] t)).cell? ⟨w.heap.size, k, none⟩ = some (.bool (R.at k)) := by
  match k, hk with
  | 0, _ => simp [Wk.Rst.at]
  | 1, _ => simp [Wk.Rst.at]
  | 2, _ => simp [Wk.Rst.at]
  | 3, _ => simp [Wk.Rst.at]
  | 4, _ => simp [Wk.Rst.at]
  | 5, _ => simp [Wk.Rst.at]
  | 6, _ => simp [Wk.Rst.at]
set_option maxRecDepth 100000 in
set_option maxHeartbeats 2000000 in
theorem vCal (R : Wk.Rst) (l : List Wk.Rl) (a : Option Addr) (cap : Nat) (w : World) (hl : l.length ≤ maxLen) (hr : Row4 w a l) :
    Calls Tryd.prog 54 #[calV R a l.length cap] w fun e w' => e = .returned (.int .i64 (Wk.cchk R l)) ∧ Below w.heap.size w w' := by
  have HR : Hid (Row4 w a l) := hr
  clear hr
  unfold maxLen at hl
  have bA := below_box w (.cells #[.bool R.b0, .bool R.b1, .bool R.b2, .bool R.b3, .bool R.b4, .bool R.b5, .bool R.b6, .slice a l.length cap] 25)
  have HCC : Hid (∀ k : Nat, k < 7 → (w.alloc (.cells #[.bool R.b0, .bool R.b1, .bool R.b2, .bool R.b3, .bool R.b4, .bool R.b5, .bool R.b6, .slice a l.length cap] 25)).cell? ⟨w.heap.size, k, none⟩ = some (.bool (R.at k))) := fun k hk => calCell R _ _ w k hk
  have c7 : (w.alloc (.cells #[.bool R.b0, .bool R.b1, .bool R.b2, .bool R.b3, .bool R.b4, .bool R.b5, .bool R.b6, .slice a l.length cap] 25)).cell? ⟨w.heap.size, 7, none⟩ = some (.slice a l.length cap) := boxCells w _ _ 7 _ rfl
  have sA : w.heap.size < (w.alloc (.cells #[.bool R.b0, .bool R.b1, .bool R.b2, .bool R.b3, .bool R.b4, .bool R.b5, .bool R.b6, .slice a l.length cap] 25)).heap.size := by simp
  have HE : Hid (Wk.cchk R l = if Wk.freeN R 7 = 0 then 1 else if 12 < l.length then 2 else Wk.lchk (l.drop 0)) := by
    unfold Hid Wk.cchk
    by_cases h : R.all = true
    · rw [if_pos h, if_pos ((Wk.freeN_all R).2 h)]
    · rw [if_neg h, if_neg (fun q => h ((Wk.freeN_all R).1 q))]; rfl
  generalize Wk.cchk R l = RES at *
  go_enter Tryd.func54, Tryd.ntmps54
  go_wp2
  generalize w.alloc (.cells #[.bool R.b0, .bool R.b1, .bool R.b2, .bool R.b3, .bool R.b4, .bool R.b5, .bool R.b6, .slice a l.length cap] 25) = wA at *
  go_loopw [3, 4] (fun f i wr => ∃ k : Nat, k ≤ 7 ∧ i = .int .i64 k ∧ f = .int .i64 (Wk.freeN R k) ∧ wr = wA) (fun _ i _ => 7 - (intOf i).toNat)
  case atStart => exact ⟨0, by omega, rfl, rfl, rfl⟩
  case round =>
    obtain ⟨k, hk, rfl, rfl, rfl⟩ := hrel
    have fb := Wk.freeN_bd R k
    by_cases hlt : k < 7
    · have hlt' : (k : Int) < 7 := by omega
      have hk0 : (0 : Int) ≤ (k : Int) := by omega
      have ck := HCC.out k hlt
      have HF : Hid (Wk.freeN R (k + 1) = Wk.freeN R k + if R.at k = true then 0 else 1) := rfl
      generalize Wk.freeN R k = F at *
      have hw1 : IntKind.i64.wrap (F + 1) = F + 1 := by rw [IntKind.wrap_i64]; omega
      cases hb : R.at k with
      | true =>
        have HG : Hid (Wk.freeN R (k + 1) = F) := by unfold Hid; rw [HF.out, if_pos hb, Int.add_zero]
        rw [hb] at ck
        clear hb
        go_wp2
        go_roundw
        case rel => exact ⟨k + 1, by omega, by go_num, by rw [HG.out], by first | rfl | trivial⟩
        case measure => simp [intOf]; omega
      | false =>
        have HG : Hid (Wk.freeN R (k + 1) = F + 1) := by unfold Hid; rw [HF.out, if_neg (by rw [hb]; decide)]
        rw [hb] at ck
        clear hb
        go_wp2
        go_roundw
        case rel => exact ⟨k + 1, by omega, by go_num, by rw [HG.out], by first | rfl | trivial⟩
        case measure => simp [intOf]; omega
    · obtain rfl : k = 7 := by omega
      rw [show ((7 : Nat) : Int) = 7 from rfl]
      generalize Wk.freeN R 7 = F at *
      by_cases hF : F = 0
      · have e1 : RES = 1 := by rw [HE.out, if_pos hF]
        have hF' : (F == 0) = true := by simpa using hF
        clear hF
        go_wp2
        go_ret
        exact ⟨ret_int e1.symm, bA⟩
      · have hF' : (F == 0) = false := by simpa using hF
        have HE2 : Hid (RES = if 12 < l.length then 2 else Wk.lchk (l.drop 0)) := by unfold Hid; rw [HE.out, if_neg hF]
        clear HE hF
        by_cases h12 : 12 < l.length
        · have HE3 : Hid (RES = 2) := by unfold Hid; rw [HE2.out, if_pos h12]
          have h12' : (12 : Int) < (l.length : Int) := by omega
          go_wp2
          go_ret
          exact ⟨ret_int HE3.out.symm, bA⟩
        · have HE3 : Hid (RES = Wk.lchk (l.drop 0)) := by unfold Hid; rw [HE2.out, if_neg h12]
          have h12' : (l.length : Int) ≤ 12 := by omega
          have n1 : decide ((12 : Int) < (l.length : Int)) = false := by simp; omega
          have n2 : decide (12 < l.length) = false := by simp; omega
          go_wp2
          clear n1 n2
          go_loopw [5] (fun i wr => ∃ k : Nat, k ≤ l.length ∧ i = .int .i64 k ∧ Wk.lchk (l.drop 0) = Wk.lchk (l.drop k) ∧ wr.cell? ⟨w.heap.size, 7, none⟩ = some (.slice a l.length cap) ∧ w.heap.size < wr.heap.size ∧ Below w.heap.size w wr) (fun i _ => l.length - (intOf i).toNat)
          case atStart => exact ⟨0, Nat.zero_le _, rfl, rfl, c7, sA, bA⟩
          case round =>
            clear c7 HCC
            obtain ⟨k, hk, rfl, hm, c7, s7, hnx⟩ := hrel
            have HM : Hid (Wk.lchk (l.drop 0) = Wk.lchk (l.drop k)) := hm
            clear hm
            by_cases hlt : k < l.length
            · have hlt' : (k : Int) < (l.length : Int) := by omega
              have hk0 : (0 : Int) ≤ (k : Int) := by omega
              obtain ⟨b, off, x1, x2, x3, x4, rfl, hb, hx, c1, c2, c3, c4⟩ := (HR.out.below hnx).lies hlt
              have HS : Hid (_) := Wk.lchk_succ l k _ hx
              clear hx
              go_wp2_with fail
              refine (vRule x1 x2 x3 x4 _).mono ?_
              rintro e w1 ⟨rfl, b1⟩
              have nx2 := below_next hnx (Nat.le_refl _) b1
              have c72 : w1.cell? ⟨w.heap.size, 7, none⟩ = some (.slice (some ⟨b, off, none⟩) l.length cap) := (b1.cell (p := ⟨w.heap.size, 7, none⟩) s7).trans c7
              have s72 : w.heap.size < w1.heap.size := Nat.lt_of_lt_of_le s7 b1.size
              clear b1 c7
              by_cases hc : Wk.rchk (x1, x2, x3, x4) = 0
              · have HG : Hid (Wk.lchk (l.drop 0) = Wk.lchk (l.drop (k + 1))) := by unfold Hid; rw [HM.out, HS.out, if_pos hc]
                rw [hc]
                clear hc
                go_wp2
                go_roundw
                case rel => exact ⟨k + 1, by omega, by go_num, HG.out, c72, s72, nx2⟩
                case measure => simp [intOf]; omega
              · have HG : Hid (RES = Wk.rchk (x1, x2, x3, x4)) := by unfold Hid; rw [HE3.out, HM.out, HS.out, if_neg hc]
                have hc' : (Wk.rchk (x1, x2, x3, x4) != 0) = true := by simpa using hc
                go_wp2
                go_ret
                exact ⟨ret_int HG.out.symm, nx2⟩
            · obtain rfl : k = l.length := by omega
              have HG : Hid (RES = 0) := by unfold Hid; rw [HE3.out, HM.out, List.drop_length]; rfl
              go_wp2
              go_ret
              exact ⟨ret_int HG.out.symm, hnx⟩
end Go.Proofs.YtehopfpcikbaiaaDoor
namespace Go.Proofs.YtehopfpcikbaiaaDoor
open Go.RowKit Go.BigFrame Go.Sort

theorem sundayErr_below (y : Int) (w : World) (h : y < 1583 ∨ 9999 < y) :
    Calls Tryd.prog 85 #[.int .i64 y] w fun e w' => e = .returned (.tuple #[.int .i64 0, .int .i64 3]) ∧ Below w.heap.size w w' :=
  (sunday_err y w h).mono fun _ _ h => ⟨h.1, h.2 ▸ Below.refl _ _⟩
end Go.Proofs.YtehopfpcikbaiaaDoor
