/- Walks over slices of spans (two whole numbers each) that are only read. -/
import Derived.Test.YthojffiajlpneaaDoorBase
import Derived.Test.YthojffiajlpneaaDoorSpn
import Derived.WalkKit
import Derived.WalkSpells
import Derived.WalkLawsBesides
import Derived.Deep.QuietTactic
import Derived.BigQuiet
import Derived.Lib.QuietBelow
namespace Go.Proofs.YthojffiajlpneaaDoor
open Go.RowKit

/-- A slice of spans that lies there: what its elements read as. -/
def Row2 (w : World) (a : Option Addr) (l : List Spn.Sp) : Prop :=
  l = [] ∨ ∃ b off, a = some ⟨b, off, none⟩ ∧ b < w.heap.size ∧ ∀ i : Nat, i < l.length → w.cell? ⟨b, off + i * 2, none⟩ = some (.int .i64 (l.getD i (0, 0)).1) ∧ w.cell? ⟨b, off + i * 2 + 1, none⟩ = some (.int .i64 (l.getD i (0, 0)).2)

theorem Row2.at {w : World} {a : Option Addr} {l : List Spn.Sp} (hr : Row2 w a l) {k : Nat} (hlt : k < l.length) :
    ∃ b off x y, a = some ⟨b, off, none⟩ ∧ l[k]? = some (x, y) ∧ w.cell? ⟨b, off + k * 2, none⟩ = some (.int .i64 x) ∧ w.cell? ⟨b, off + k * 2 + 1, none⟩ = some (.int .i64 y) := by
  rcases hr with rfl | ⟨b, off, rfl, hb, hc⟩
  · simp at hlt
  obtain ⟨c1, c2⟩ := hc k hlt
  exact ⟨b, off, _, _, rfl, by simp [List.getD, List.getElem?_eq_getElem hlt], c1, c2⟩
namespace Spn
theorem memB_append (a b : List Sp) (n : Int) : memB (a ++ b) n = (memB a n || memB b n) := by unfold memB; rw [List.any_append]
theorem take_succ_of (l : List Sp) (k : Nat) (x y : Int) (h : l[k]? = some (x, y)) : l.take (k + 1) = l.take k ++ [(x, y)] := by
  rw [List.take_add_one, h]; rfl
theorem memB_no (l : List Sp) (k : Nat) (x y n : Int) (h : l[k]? = some (x, y)) (h0 : memB (l.take k) n = false) (hn : ¬ (x ≤ n ∧ n < y)) : memB (l.take (k + 1)) n = false := by
  rw [take_succ_of l k x y h, memB_append, h0]
  simp [memB]; omega
theorem memB_yes (l : List Sp) (k : Nat) (x y n : Int) (h : l[k]? = some (x, y)) (h1 : x ≤ n) (h2 : n < y) : memB l n = true := by
  rw [memB_iff]
  exact ⟨(x, y), List.mem_of_getElem? h, h1, h2⟩
end Spn
theorem ext_take (l r : List Spn.Sp) (h : l.length = r.length) (k : Nat) (hk : l.length ≤ k) (e : l.take k = r.take k) : l = r := by
  rw [List.take_of_length_le hk, List.take_of_length_le (by omega)] at e; exact e
set_option maxHeartbeats 1000000 in
theorem sameSpans_any (l r : List Spn.Sp) (a a' : Option Addr) (cap cap' : Nat) (w : World) (hl : l.length ≤ maxLen) (hl' : r.length ≤ maxLen) (hr : Row2 w a l) (hr' : Row2 w a' r) :
    Calls Tryd.prog 17 #[.slice a l.length cap, .slice a' r.length cap'] w fun e w' => e = .returned (.bool (decide (l = r))) ∧ ∃ m, w' = w.drewN m := by
  unfold maxLen at hl hl'
  by_cases hlen : l.length = r.length
  · have HL : Hid (l.length = r.length) := hlen
    go_enter Tryd.func17, Tryd.ntmps17
    rw [← hlen]
    clear hlen
    go_wp2
    go_loopw [5] (fun i wr => ∃ k : Nat, k ≤ l.length ∧ i = .int .i64 k ∧ l.take k = r.take k ∧ ∃ m, wr = w.drewN m) (fun i _ => l.length - (intOf i).toNat)
    case atStart => exact ⟨0, Nat.zero_le _, rfl, rfl, 0, rfl⟩
    case round =>
      obtain ⟨k, hk, rfl, hm, m, rfl⟩ := hrel
      have HM : Hid (l.take k = r.take k) := hm
      clear hm
      by_cases hlt : k < l.length
      · have hlt' : (k : Int) < (l.length : Int) := by omega
        obtain ⟨b, off, x, y, rfl, hx, c1, c2⟩ := hr.at hlt
        obtain ⟨b', off', x', y', rfl, hx', c1', c2'⟩ := hr'.at (k := k) (by have := HL.out; omega)
        have HX : Hid (l[k]? = some (x, y) ∧ r[k]? = some (x', y')) := ⟨hx, hx'⟩
        clear hx hx'
        by_cases e1 : x = x'
        · by_cases e2 : y = y'
          · subst e1 e2
            have HE : Hid (l.take (k + 1) = r.take (k + 1)) := by
              unfold Hid; rw [Spn.take_succ_of l k x y HX.out.1, Spn.take_succ_of r k x y HX.out.2, HM.out]
            go_wp2
            go_quiet (fail)
            go_wp2
            go_roundw
            case rel => exact ⟨k + 1, by omega, by go_num, HE.out, _, by first | rfl | simp only [World.drewN_drewN]⟩
            case measure => simp [intOf]; omega
          · subst e1
            have HE : Hid (decide (l = r) = false) := by
              unfold Hid
              simp only [decide_eq_false_iff_not]
              rintro rfl
              have := HX.out.1.symm.trans HX.out.2
              simp at this
              exact e2 this
            go_wp2
            go_quiet (fail)
            go_wp2
            go_ret
            refine ⟨ret_bool HE.out.symm, ?_⟩
            first | exact ⟨_, rfl⟩ | (rw [World.drewN_drewN]; exact ⟨_, rfl⟩)
        · have HE : Hid (decide (l = r) = false) := by
            unfold Hid
            simp only [decide_eq_false_iff_not]
            rintro rfl
            have := HX.out.1.symm.trans HX.out.2
            simp at this
            exact e1 this.1
          go_wp2
          go_quiet (fail)
          go_wp2
          go_ret
          refine ⟨ret_bool HE.out.symm, ?_⟩
          first | exact ⟨_, rfl⟩ | (rw [World.drewN_drewN]; exact ⟨_, rfl⟩)
      · go_wp2
        go_ret
        exact ⟨ret_bool (by simpa using ext_take l r HL.out k (by omega) HM.out), m, rfl⟩
  · have HE : Hid (decide (l = r) = false) := by
      unfold Hid
      simp only [decide_eq_false_iff_not]
      rintro rfl
      exact hlen rfl
    have hne : ((l.length : Int) != (r.length : Int)) = true := by simp; omega
    go_enter Tryd.func17, Tryd.ntmps17
    go_wp2
    go_ret
    exact ⟨ret_bool HE.out.symm, 0, rfl⟩
end Go.Proofs.YthojffiajlpneaaDoor
