/- The walks of package tag: words turned. -/
import Derived.Test.YtandlmnbnjkklaaGreatDoorBaseToAppAll
import Derived.Test.YtandlmnbnjkklaaGreatDoorTrmToTg
import Derived.Laws.Bits64b
import Derived.Laws.BitsAllLaws
namespace Go.Proofs.YtandlmnbnjkklaaGreatDoor
open Go.RowKit

/-- a word as a number -/
def wd (x : Tg.W) : Int := (x.toNat : Int)
theorem wd_lo (x : Tg.W) : 0 ≤ wd x := by unfold wd; omega
theorem wd_hi (x : Tg.W) : wd x < 18446744073709551616 := by unfold wd; have := x.isLt; omega
theorem wd_inj {x y : Tg.W} : wd x = wd y ↔ x = y := by
  unfold wd
  rw [Int.ofNat_inj]
  exact ⟨BitVec.eq_of_toNat_eq, fun h => by rw [h]⟩
theorem wd_add (x y : Tg.W) : IntKind.u64.wrap (wd x + wd y) = wd (x + y) := by
  unfold wd; rw [IntKind.wrap_u64, BitVec.toNat_add]; omega
theorem wd_sub (x y : Tg.W) : IntKind.u64.wrap (wd x - wd y) = wd (x - y) := by
  have h1 := x.isLt
  have h2 := y.isLt
  unfold wd; rw [IntKind.wrap_u64, BitVec.toNat_sub]; omega
theorem wd_xor (x y : Tg.W) : bits .xor .u64 (wd x) (wd y) = wd (x ^^^ y) := by
  unfold wd; rw [bits_xor_u64_nat _ _ x.isLt y.isLt, BitVec.toNat_xor]
theorem wd_of (n : Nat) (h : n < 18446744073709551616) : wd (BitVec.ofNat 64 n) = (n : Int) := by
  unfold wd; rw [BitVec.toNat_ofNat, Nat.mod_eq_of_lt h]
theorem wd_xor_lit (x : Tg.W) (n : Nat) (h : n < 18446744073709551616) : bits .xor .u64 (wd x) (n : Int) = wd (x ^^^ BitVec.ofNat 64 n) := by
  rw [← wd_of n h, wd_xor]
theorem shift_up (x : Tg.W) (r : Nat) (hr : r < 64) : Op.shift .shl .u64 (wd x) .u64 (r : Int) = pure (.int .u64 ((x.toNat * 2 ^ r % 18446744073709551616 : Nat) : Int)) := by
  rw [shift_shl_any _ _ _ _ (by omega), IntKind.wrap_u64, Int.toNat_natCast]
  congr 2
  rw [show min r IntKind.u64.bits = r from Nat.min_eq_left (by show r ≤ 64; omega)]
  unfold wd
  rw [Int.natCast_emod, Int.natCast_mul, Int.natCast_pow]
  rfl
theorem shift_down (x : Tg.W) (r : Nat) (hr : r < 64) : Op.shift .shr .u64 (wd x) .u64 (r : Int) = pure (.int .u64 ((x.toNat / 2 ^ r : Nat) : Int)) := by
  rw [shift_shr_any _ _ _ _ (by omega), Int.toNat_natCast]
  congr 2
  rw [show min r IntKind.u64.bits = r from Nat.min_eq_left (by show r ≤ 64; omega)]
  unfold wd
  rw [Int.natCast_ediv, Int.natCast_pow]
  rfl
theorem turned_is (x : Tg.W) (r : Nat) (hr : r < 64) : bits .or .u64 ((x.toNat * 2 ^ r % 18446744073709551616 : Nat) : Int) ((x.toNat / 2 ^ (64 - r) : Nat) : Int) = wd (Tg.rl x r) := by
  have h1 : x.toNat * 2 ^ r % 18446744073709551616 < 18446744073709551616 := Nat.mod_lt _ (by decide)
  have h2 : x.toNat / 2 ^ (64 - r) < 18446744073709551616 := Nat.lt_of_le_of_lt (Nat.div_le_self _ _) x.isLt
  rw [bits_or_u64_nat _ _ h1 h2]
  unfold wd Tg.rl
  rw [BitVec.toNat_rotateLeft, Nat.mod_eq_of_lt hr, Nat.shiftLeft_eq, Nat.shiftRight_eq_div_pow]

set_option maxHeartbeats 400000 in
theorem rot_13 (x : Tg.W) (w : World) :
    Calls Tryz.prog 130 #[.int .u64 (wd x), .int .i64 13] w fun e w' => e = .returned (.int .u64 (wd (Tg.rl x 13))) ∧ w' = w := by
  have hb : bits .and .u64 13 63 = 13 := by decide +kernel
  have h1 := shift_up x 13 (by decide)
  have h2 := shift_down x 51 (by decide)
  have h3 := turned_is x 13 (by decide)
  rw [show ((((13 : Nat)) : Int)) = 13 from rfl] at h1
  rw [show ((((51 : Nat)) : Int)) = 51 from rfl] at h2
  rw [show 64 - 13 = 51 from rfl] at h3
  generalize ((x.toNat * 2 ^ 13 % 18446744073709551616 : Nat) : Int) = U at h1 h3
  generalize ((x.toNat / 2 ^ 51 : Nat) : Int) = D at h2 h3
  go_enter Tryz.func130, Tryz.ntmps130
  go_wp2
  go_ret
  exact ⟨rfl, rfl⟩
set_option maxHeartbeats 400000 in
theorem rot_32 (x : Tg.W) (w : World) :
    Calls Tryz.prog 130 #[.int .u64 (wd x), .int .i64 32] w fun e w' => e = .returned (.int .u64 (wd (Tg.rl x 32))) ∧ w' = w := by
  have hb : bits .and .u64 32 63 = 32 := by decide +kernel
  have h1 := shift_up x 32 (by decide)
  have h2 := shift_down x 32 (by decide)
  have h3 := turned_is x 32 (by decide)
  rw [show ((((32 : Nat)) : Int)) = 32 from rfl] at h1
  rw [show ((((32 : Nat)) : Int)) = 32 from rfl] at h2
  rw [show 64 - 32 = 32 from rfl] at h3
  generalize ((x.toNat * 2 ^ 32 % 18446744073709551616 : Nat) : Int) = U at h1 h3
  generalize ((x.toNat / 2 ^ 32 : Nat) : Int) = D at h2 h3
  go_enter Tryz.func130, Tryz.ntmps130
  go_wp2
  go_ret
  exact ⟨rfl, rfl⟩
set_option maxHeartbeats 400000 in
theorem rot_16 (x : Tg.W) (w : World) :
    Calls Tryz.prog 130 #[.int .u64 (wd x), .int .i64 16] w fun e w' => e = .returned (.int .u64 (wd (Tg.rl x 16))) ∧ w' = w := by
  have hb : bits .and .u64 16 63 = 16 := by decide +kernel
  have h1 := shift_up x 16 (by decide)
  have h2 := shift_down x 48 (by decide)
  have h3 := turned_is x 16 (by decide)
  rw [show ((((16 : Nat)) : Int)) = 16 from rfl] at h1
  rw [show ((((48 : Nat)) : Int)) = 48 from rfl] at h2
  rw [show 64 - 16 = 48 from rfl] at h3
  generalize ((x.toNat * 2 ^ 16 % 18446744073709551616 : Nat) : Int) = U at h1 h3
  generalize ((x.toNat / 2 ^ 48 : Nat) : Int) = D at h2 h3
  go_enter Tryz.func130, Tryz.ntmps130
  go_wp2
  go_ret
  exact ⟨rfl, rfl⟩
set_option maxHeartbeats 400000 in
theorem rot_21 (x : Tg.W) (w : World) :
    Calls Tryz.prog 130 #[.int .u64 (wd x), .int .i64 21] w fun e w' => e = .returned (.int .u64 (wd (Tg.rl x 21))) ∧ w' = w := by
  have hb : bits .and .u64 21 63 = 21 := by decide +kernel
  have h1 := shift_up x 21 (by decide)
  have h2 := shift_down x 43 (by decide)
  have h3 := turned_is x 21 (by decide)
  rw [show ((((21 : Nat)) : Int)) = 21 from rfl] at h1
  rw [show ((((43 : Nat)) : Int)) = 43 from rfl] at h2
  rw [show 64 - 21 = 43 from rfl] at h3
  generalize ((x.toNat * 2 ^ 21 % 18446744073709551616 : Nat) : Int) = U at h1 h3
  generalize ((x.toNat / 2 ^ 43 : Nat) : Int) = D at h2 h3
  go_enter Tryz.func130, Tryz.ntmps130
  go_wp2
  go_ret
  exact ⟨rfl, rfl⟩
set_option maxHeartbeats 400000 in
theorem rot_17 (x : Tg.W) (w : World) :
    Calls Tryz.prog 130 #[.int .u64 (wd x), .int .i64 17] w fun e w' => e = .returned (.int .u64 (wd (Tg.rl x 17))) ∧ w' = w := by
  have hb : bits .and .u64 17 63 = 17 := by decide +kernel
  have h1 := shift_up x 17 (by decide)
  have h2 := shift_down x 47 (by decide)
  have h3 := turned_is x 17 (by decide)
  rw [show ((((17 : Nat)) : Int)) = 17 from rfl] at h1
  rw [show ((((47 : Nat)) : Int)) = 47 from rfl] at h2
  rw [show 64 - 17 = 47 from rfl] at h3
  generalize ((x.toNat * 2 ^ 17 % 18446744073709551616 : Nat) : Int) = U at h1 h3
  generalize ((x.toNat / 2 ^ 47 : Nat) : Int) = D at h2 h3
  go_enter Tryz.func130, Tryz.ntmps130
  go_wp2
  go_ret
  exact ⟨rfl, rfl⟩
set_option maxHeartbeats 400000 in
theorem rot_m32 (x : Tg.W) (w : World) :
    Calls Tryz.prog 130 #[.int .u64 (wd x), .int .i64 (-32)] w fun e w' => e = .returned (.int .u64 (wd (Tg.rl x 32))) ∧ w' = w := by
  have hb : bits .and .u64 (IntKind.u64.wrap (-32)) 63 = 32 := by decide +kernel
  have h1 := shift_up x 32 (by decide)
  have h2 := shift_down x 32 (by decide)
  have h3 := turned_is x 32 (by decide)
  rw [show ((((32 : Nat)) : Int)) = 32 from rfl] at h1
  rw [show ((((32 : Nat)) : Int)) = 32 from rfl] at h2
  rw [show 64 - 32 = 32 from rfl] at h3
  generalize ((x.toNat * 2 ^ 32 % 18446744073709551616 : Nat) : Int) = U at h1 h3
  generalize ((x.toNat / 2 ^ 32 : Nat) : Int) = D at h2 h3
  go_enter Tryz.func130, Tryz.ntmps130
  go_wp2
  go_ret
  exact ⟨rfl, rfl⟩
set_option maxHeartbeats 400000 in
theorem rot_m17 (x : Tg.W) (w : World) :
    Calls Tryz.prog 130 #[.int .u64 (wd x), .int .i64 (-17)] w fun e w' => e = .returned (.int .u64 (wd (Tg.rl x 47))) ∧ w' = w := by
  have hb : bits .and .u64 (IntKind.u64.wrap (-17)) 63 = 47 := by decide +kernel
  have h1 := shift_up x 47 (by decide)
  have h2 := shift_down x 17 (by decide)
  have h3 := turned_is x 47 (by decide)
  rw [show ((((47 : Nat)) : Int)) = 47 from rfl] at h1
  rw [show ((((17 : Nat)) : Int)) = 17 from rfl] at h2
  rw [show 64 - 47 = 17 from rfl] at h3
  generalize ((x.toNat * 2 ^ 47 % 18446744073709551616 : Nat) : Int) = U at h1 h3
  generalize ((x.toNat / 2 ^ 17 : Nat) : Int) = D at h2 h3
  go_enter Tryz.func130, Tryz.ntmps130
  go_wp2
  go_ret
  exact ⟨rfl, rfl⟩
set_option maxHeartbeats 400000 in
theorem rot_m21 (x : Tg.W) (w : World) :
    Calls Tryz.prog 130 #[.int .u64 (wd x), .int .i64 (-21)] w fun e w' => e = .returned (.int .u64 (wd (Tg.rl x 43))) ∧ w' = w := by
  have hb : bits .and .u64 (IntKind.u64.wrap (-21)) 63 = 43 := by decide +kernel
  have h1 := shift_up x 43 (by decide)
  have h2 := shift_down x 21 (by decide)
  have h3 := turned_is x 43 (by decide)
  rw [show ((((43 : Nat)) : Int)) = 43 from rfl] at h1
  rw [show ((((21 : Nat)) : Int)) = 21 from rfl] at h2
  rw [show 64 - 43 = 21 from rfl] at h3
  generalize ((x.toNat * 2 ^ 43 % 18446744073709551616 : Nat) : Int) = U at h1 h3
  generalize ((x.toNat / 2 ^ 21 : Nat) : Int) = D at h2 h3
  go_enter Tryz.func130, Tryz.ntmps130
  go_wp2
  go_ret
  exact ⟨rfl, rfl⟩
set_option maxHeartbeats 400000 in
theorem rot_m16 (x : Tg.W) (w : World) :
    Calls Tryz.prog 130 #[.int .u64 (wd x), .int .i64 (-16)] w fun e w' => e = .returned (.int .u64 (wd (Tg.rl x 48))) ∧ w' = w := by
  have hb : bits .and .u64 (IntKind.u64.wrap (-16)) 63 = 48 := by decide +kernel
  have h1 := shift_up x 48 (by decide)
  have h2 := shift_down x 16 (by decide)
  have h3 := turned_is x 48 (by decide)
  rw [show ((((48 : Nat)) : Int)) = 48 from rfl] at h1
  rw [show ((((16 : Nat)) : Int)) = 16 from rfl] at h2
  rw [show 64 - 48 = 16 from rfl] at h3
  generalize ((x.toNat * 2 ^ 48 % 18446744073709551616 : Nat) : Int) = U at h1 h3
  generalize ((x.toNat / 2 ^ 16 : Nat) : Int) = D at h2 h3
  go_enter Tryz.func130, Tryz.ntmps130
  go_wp2
  go_ret
  exact ⟨rfl, rfl⟩
set_option maxHeartbeats 400000 in
theorem rot_m13 (x : Tg.W) (w : World) :
    Calls Tryz.prog 130 #[.int .u64 (wd x), .int .i64 (-13)] w fun e w' => e = .returned (.int .u64 (wd (Tg.rl x 51))) ∧ w' = w := by
  have hb : bits .and .u64 (IntKind.u64.wrap (-13)) 63 = 51 := by decide +kernel
  have h1 := shift_up x 51 (by decide)
  have h2 := shift_down x 13 (by decide)
  have h3 := turned_is x 51 (by decide)
  rw [show ((((51 : Nat)) : Int)) = 51 from rfl] at h1
  rw [show ((((13 : Nat)) : Int)) = 13 from rfl] at h2
  rw [show 64 - 51 = 13 from rfl] at h3
  generalize ((x.toNat * 2 ^ 51 % 18446744073709551616 : Nat) : Int) = U at h1 h3
  generalize ((x.toNat / 2 ^ 13 : Nat) : Int) = D at h2 h3
  go_enter Tryz.func130, Tryz.ntmps130
  go_wp2
  go_ret
  exact ⟨rfl, rfl⟩
def tk (k : Int) : Nat := (k % 64).toNat
theorem rot_all (x : Tg.W) (k : Int) (h : k = 13 ∨ k = 32 ∨ k = 16 ∨ k = 21 ∨ k = 17 ∨ k = -32 ∨ k = -17 ∨ k = -21 ∨ k = -16 ∨ k = -13) (w : World) :
    Calls Tryz.prog 130 #[.int .u64 (wd x), .int .i64 k] w fun e w' => e = .returned (.int .u64 (wd (Tg.rl x (tk k)))) ∧ w' = w := by
  rcases h with rfl | rfl | rfl | rfl | rfl | rfl | rfl | rfl | rfl | rfl
  · exact rot_13 x w
  · exact rot_32 x w
  · exact rot_16 x w
  · exact rot_21 x w
  · exact rot_17 x w
  · exact rot_m32 x w
  · exact rot_m17 x w
  · exact rot_m21 x w
  · exact rot_m16 x w
  · exact rot_m13 x w
end Go.Proofs.YtandlmnbnjkklaaGreatDoor
