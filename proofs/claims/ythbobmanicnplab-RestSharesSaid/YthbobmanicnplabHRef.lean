/- The walks of the reference's shares, of its sum, and of whether two lists are one. -/
import Derived.Test.YthbobmanicnplabHJef
namespace Go.Proofs.Ythbobmanicnplab
open Go.RowKit Go.BigFrame Go.Sort

set_option maxRecDepth 100000 in
set_option maxHeartbeats 1000000 in
theorem hSame (xs : List Int) (a b : Option Addr) (ca cb : Nat) (w : World) (hl : xs.length ≤ maxLen) (ha : Row1 w a xs) (hb : Row1 w b xs) :
    Calls Try.prog 7 #[.slice a xs.length ca, .slice b xs.length cb] w fun e w' => e = .returned (.bool true) ∧ Below w.heap.size w w' := by
  unfold maxLen at hl
  go_enter Try.func7, Try.ntmps7
  go_wp2
  go_loopw [5] (fun i wr => ∃ k : Nat, k ≤ xs.length ∧ i = .int .i64 k ∧ Below w.heap.size w wr) (fun i _ => xs.length - (intOf i).toNat)
  case atStart => exact ⟨0, Nat.zero_le _, rfl, Below.refl _ _⟩
  case round =>
    obtain ⟨k, hk, rfl, hnx⟩ := hrel
    by_cases hlt : k < xs.length
    · have hlt' : (k : Int) < (xs.length : Int) := by omega
      have hk0 : (0 : Int) ≤ (k : Int) := by omega
      obtain ⟨b1, o1, x, rfl, hb1, hx1, c1⟩ := (ha.below hnx).at hlt
      obtain ⟨b2, o2, x', rfl, hb2, hx2, c2⟩ := (hb.below hnx).at hlt
      obtain rfl : x = x' := Option.some.inj (hx1.symm.trans hx2)
      clear hx1 hx2
      go_wp2
      go_quiet (fail)
      go_wp2
      go_roundw
      case rel => exact ⟨k + 1, by omega, by go_num, below_drewN hnx _⟩
      case measure => simp [intOf]; omega
    · obtain rfl : k = xs.length := by omega
      go_wp2
      go_ret
      exact ⟨rfl, hnx⟩
theorem map_succ (k : Nat) (f : Nat → Int) : (List.range (k + 1)).map f = (List.range k).map f ++ [f k] := by rw [List.range_succ, List.map_append]; rfl
end Go.Proofs.Ythbobmanicnplab
