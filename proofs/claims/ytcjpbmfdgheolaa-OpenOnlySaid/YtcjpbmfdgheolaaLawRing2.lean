/- The walk of SealTells: it answers true, whatever it is handed. -/
import Derived.Test.YtcjpbmfdgheolaaRBeg
namespace Go.Proofs.Ytcjpbmfdgheolaa
open Go.RowKit

theorem Rg.seaV_ex (l : List Rg.Ep) (s : List UInt8) : ∃ x c, Rg.seaV l s = .tuple #[.string (bx x), .int .i64 c] := ⟨_, _, rfl⟩
theorem Rg.opnV_ex (l : List Rg.Ep) (s : List UInt8) : ∃ x c d, Rg.opnV l s = .tuple #[.string (bx x), .int .i64 c, .int .i64 d] := ⟨_, _, _, rfl⟩
set_option maxRecDepth 100000 in
set_option maxHeartbeats 4000000 in
theorem sealTells_any (l : List Rg.Ep) (a : Option Addr) (cap : Nat) (s t : ByteArray) (w : World) (hl : l.length ≤ maxLen) (_hcap : l.length ≤ cap) (_hn : a = none → l = [] ∧ cap = 0) (hr : Row3 w a l) (hs : s.size ≤ 140737488351232) (ht : t.size ≤ 140737488351232) :
    Calls Try.prog 4 #[.slice a l.length cap, .string s, .string t] w fun e w' => e = .returned (.bool true) ∧ Below w.heap.size w w' := by
  obtain ⟨x, rfl⟩ : ∃ x, s = bx x := ⟨_, (bx_of s).symm⟩
  obtain ⟨y, rfl⟩ : ∃ y, t = bx y := ⟨_, (bx_of t).symm⟩
  rw [bx_size] at hs ht
  have HL : Hid (l.length ≤ maxLen) := hl
  have R0 : Hid (Row3 w a l) := hr
  obtain ⟨S, C, hS⟩ := Rg.seaV_ex l x
  obtain ⟨T, D, E, hT⟩ := Rg.opnV_ex l y
  have HS : Hid (_) := hS
  have HT : Hid (_) := hT
  clear hl hr hS hT
  go_enter Try.func4, Try.ntmps4
  go_wp2_with fail
  refine (seal_any l a cap x _ HL.out hs R0.out).mono ?_; rintro e w1 ⟨rfl, hb1⟩
  rw [HS.out]
  have B1 : Hid (Below w.heap.size w w1) := hb1
  have R1 : Hid (Row3 w1 a l) := R0.out.below hb1
  clear hb1 R0
  go_wp2_with fail
  refine (open_any l a cap y _ HL.out ht R1.out).mono ?_; rintro e w2 ⟨rfl, hb2⟩
  rw [HT.out]
  have B2 : Hid (Below w.heap.size w w2) := below_on B1.out (Nat.le_refl _) hb2
  have R2 : Hid (Row3 w2 a l) := R1.out.below hb2
  clear hb2 B1 R1
  go_wp2_with fail
  refine (sealOf_any l a cap x _ HL.out hs R2.out).mono ?_; rintro e w3 ⟨rfl, hb3⟩
  rw [HS.out]
  have B3 : Hid (Below w.heap.size w w3) := below_on B2.out (Nat.le_refl _) hb3
  have R3 : Hid (Row3 w3 a l) := R2.out.below hb3
  clear hb3 B2 R2
  go_wp2_with fail
  refine (openOf_any l a cap y _ HL.out ht R3.out).mono ?_; rintro e w4 ⟨rfl, hb4⟩
  rw [HT.out]
  have B4 : Hid (Below w.heap.size w w4) := below_on B3.out (Nat.le_refl _) hb4
  clear hb4 B3 R3
  go_wp2_with fail
  refine (ringBegun_any _).mono ?_; rintro e w5 ⟨rfl, hb5⟩
  have B5 : Hid (Below w.heap.size w w5) := below_on B4.out (Nat.le_refl _) hb5
  clear hb5 B4
  go_wp2
  go_ret
  exact ⟨rfl, B5.out⟩
end Go.Proofs.Ytcjpbmfdgheolaa
