/- The walks of the document's own tags: words turned and xored bit by bit. The walks of package tag: a round, and its way back. The walks of package tag: rounds, a word taken, the end, the start. -/
import Derived.Test.YtandlmnbnjkklaaGreatDoorGWk
import Derived.RegionTactic
import Derived.BigRegion
import Derived.Deep.RegionHeld3
import Derived.Deep.DeepCutAuto
import Derived.Deep.OwnRows
namespace Go.Proofs.YtandlmnbnjkklaaGreatDoor
open Go.RowKit

theorem turn_one (y : Tg.W) : IntKind.u64.wrap (IntKind.u64.wrap (2 * wd y) + wd y / 9223372036854775808) = wd (Tg.rl y 1) := by
  have h := y.isLt
  rw [← turned_is y 1 (by decide)]
  have h1 : y.toNat * 2 ^ 1 % 18446744073709551616 < 18446744073709551616 := Nat.mod_lt _ (by decide)
  have h2 : y.toNat / 2 ^ (64 - 1) < 18446744073709551616 := Nat.lt_of_le_of_lt (Nat.div_le_self _ _) y.isLt
  rw [bits_or_u64_nat _ _ h1 h2, nat_join 1 _ _ (by omega) (by omega)]
  unfold wd
  rw [IntKind.wrap_u64, IntKind.wrap_u64]
  omega
theorem u64_tdiv (x c : Int) (h0 : 0 ≤ x) (h1 : x < 18446744073709551616) (hc : 0 < c) : IntKind.u64.wrap (x.tdiv c) = x / c := by
  rw [Int.tdiv_eq_ediv_of_nonneg h0, IntKind.wrap_u64]
  have a := Int.ediv_nonneg h0 (Int.le_of_lt hc)
  have b := Int.ediv_le_self c h0
  exact Int.emod_eq_of_lt a (by omega)
theorem xor_step (A B k : Nat) (_h : k < 64) : (A ^^^ B) % 2 ^ (k + 1) = (A ^^^ B) % 2 ^ k + (if A / 2 ^ k % 2 = B / 2 ^ k % 2 then 0 else 2 ^ k) := by
  rw [Nat.mod_pow_succ, Nat.xor_div_two_pow]
  have e : (A / 2 ^ k ^^^ B / 2 ^ k) % 2 = (A / 2 ^ k % 2) ^^^ (B / 2 ^ k % 2) := by
    have := Nat.xor_mod_two_pow (a := A / 2 ^ k) (b := B / 2 ^ k) (n := 1)
    simpa using this
  rw [e]
  have hs : A / 2 ^ k % 2 < 2 := Nat.mod_lt _ (by decide)
  have ht : B / 2 ^ k % 2 < 2 := Nat.mod_lt _ (by decide)
  generalize A / 2 ^ k % 2 = s at *
  generalize B / 2 ^ k % 2 = t at *
  match s, t, hs, ht with
  | 0, 0, _, _ => simp
  | 0, 1, _, _ => simp
  | 1, 0, _, _ => simp
  | 1, 1, _, _ => simp
/-- where the loop over bits stands -/
def XAt (A B : Nat) (k : Nat) (p q o u : Int) : Prop := p = ((A / 2 ^ k : Nat) : Int) ∧ q = ((B / 2 ^ k : Nat) : Int) ∧ o = (((A ^^^ B) % 2 ^ k : Nat) : Int) ∧ u = ((2 ^ k % 18446744073709551616 : Nat) : Int)
theorem half_cast (A k : Nat) : ((A / 2 ^ k : Nat) : Int) / 2 = ((A / 2 ^ (k + 1) : Nat) : Int) := by
  rw [Nat.pow_succ, ← Nat.div_div_eq_div_mul]; omega
theorem XAt.bd {A B k : Nat} {p q o u : Int} (h : XAt A B k p q o u) (hk : k < 64) : 0 ≤ p ∧ 0 ≤ q ∧ 0 ≤ o ∧ 0 ≤ u ∧ o + u < 18446744073709551616 := by
  obtain ⟨rfl, rfl, rfl, rfl⟩ := h
  have h1 : (A ^^^ B) % 2 ^ k < 2 ^ k := Nat.mod_lt _ (Nat.pow_pos (by decide))
  have h2 : 2 ^ (k + 1) ≤ 2 ^ 64 := Nat.pow_le_pow_right (by decide) (by omega)
  have h3 : 2 ^ k < 2 ^ 64 := Nat.pow_lt_pow_right (by decide) hk
  rw [Nat.pow_succ] at h2
  rw [Nat.mod_eq_of_lt (show 2 ^ k < 18446744073709551616 from h3)]
  have e64 : (2 : Nat) ^ 64 = 18446744073709551616 := by decide
  rw [e64] at h2
  have hp : 0 ≤ ((A / 2 ^ k : Nat) : Int) := Int.natCast_nonneg _
  have hq : 0 ≤ ((B / 2 ^ k : Nat) : Int) := Int.natCast_nonneg _
  refine ⟨hp, hq, Int.natCast_nonneg _, Int.natCast_nonneg _, ?_⟩
  generalize 2 ^ k = P at *
  omega
theorem XAt.lt {A B k : Nat} {p q o u : Int} (h : XAt A B k p q o u) (hA : A < 18446744073709551616) (hB : B < 18446744073709551616) : p < 18446744073709551616 ∧ q < 18446744073709551616 := by
  obtain ⟨rfl, rfl, rfl, rfl⟩ := h
  have h1 := Nat.div_le_self A (2 ^ k)
  have h2 := Nat.div_le_self B (2 ^ k)
  generalize A / 2 ^ k = a at *
  generalize B / 2 ^ k = b at *
  omega
theorem XAt.go {A B k : Nat} {p q o u : Int} (h : XAt A B k p q o u) (hk : k < 64) : XAt A B (k + 1) (p / 2) (q / 2) (if p % 2 = q % 2 then o else o + u) (IntKind.u64.wrap (u * 2)) := by
  obtain ⟨rfl, rfl, rfl, rfl⟩ := h
  have e64 : (2 : Nat) ^ 64 = 18446744073709551616 := by decide
  have h3 : 2 ^ k < 2 ^ 64 := Nat.pow_lt_pow_right (by decide) hk
  rw [e64] at h3
  refine ⟨half_cast A k, half_cast B k, ?_, ?_⟩
  · rw [xor_step A B k hk, Nat.mod_eq_of_lt h3]
    by_cases c : A / 2 ^ k % 2 = B / 2 ^ k % 2
    · rw [if_pos c, if_pos (by omega)]; simp
    · rw [if_neg c, if_neg (by omega)]; omega
  · rw [IntKind.wrap_u64, Nat.pow_succ, Nat.mod_eq_of_lt h3]; omega
end Go.Proofs.YtandlmnbnjkklaaGreatDoor
namespace Go.Proofs.YtandlmnbnjkklaaGreatDoor
open Go.RowKit

/-- four words as a value -/
abbrev v4 (v : Tg.V) : Value := .agg #[.int .u64 (wd v.1), .int .u64 (wd v.2.1), .int .u64 (wd v.2.2.1), .int .u64 (wd v.2.2.2)]
set_option maxRecDepth 100000 in
set_option maxHeartbeats 4000000 in
theorem round_any (a b c d : Tg.W) (w : World) :
    Calls Tryz.prog 119 #[.agg #[.int .u64 (wd a), .int .u64 (wd b), .int .u64 (wd c), .int .u64 (wd d)]] w fun e w' => e = .returned (v4 (Tg.rnd (a, b, c, d))) ∧ Below w.heap.size w w' := by
  have ra := wd_add
  have rx := wd_xor
  go_enter Tryz.func119, Tryz.ntmps119
  go_upto_region 2 with fail
  go_cut [] (fun wx => wx = (((w.alloc (.cells #[.int .u64 (wd (a + b)), .int .u64 (wd (Tg.rl b 13 ^^^ (a + b))), .int .u64 (wd c), .int .u64 (wd d)] 128)).alloc (.cells #[.int .u64 0, .int .u64 0, .int .u64 0, .int .u64 0] 128)).drew))
  case first =>
    go_region_with ((go_at_call 130; refine (rot_13 _ _).mono ?_; rintro e w' ⟨rfl, rfl⟩))
    all_goals (go_wp2_with fail; go_meet; rfl)
  case rest =>
    subst hcut
    go_upto_region 5 with ((go_at_call 130; refine (rot_32 _ _).mono ?_; rintro e w' ⟨rfl, rfl⟩))
    go_cut [] (fun wx => wx = (((w.alloc (.cells #[.int .u64 (wd (Tg.rl (a + b) 32)), .int .u64 (wd (Tg.rl b 13 ^^^ (a + b))), .int .u64 (wd (c + d)), .int .u64 (wd (Tg.rl d 16 ^^^ (c + d)))] 128)).alloc (.cells #[.int .u64 0, .int .u64 0, .int .u64 0, .int .u64 0] 128)).drew.drew))
    case first =>
      go_region_with ((go_at_call 130; refine (rot_16 _ _).mono ?_; rintro e w' ⟨rfl, rfl⟩))
      all_goals (go_wp2_with fail; go_meet; rfl)
    case rest =>
      subst hcut
      go_upto_region 7 with fail
      go_cut [] (fun wx => wx = (((w.alloc (.cells #[.int .u64 (wd ((Tg.rl (a + b) 32) + (Tg.rl d 16 ^^^ (c + d)))), .int .u64 (wd (Tg.rl b 13 ^^^ (a + b))), .int .u64 (wd (c + d)), .int .u64 (wd (Tg.rl (Tg.rl d 16 ^^^ (c + d)) 21 ^^^ ((Tg.rl (a + b) 32) + (Tg.rl d 16 ^^^ (c + d)))))] 128)).alloc (.cells #[.int .u64 0, .int .u64 0, .int .u64 0, .int .u64 0] 128)).drew.drew.drew))
      case first =>
        go_region_with ((go_at_call 130; refine (rot_21 _ _).mono ?_; rintro e w' ⟨rfl, rfl⟩))
        all_goals (go_wp2_with fail; go_meet; rfl)
      case rest =>
        subst hcut
        go_upto_region 9 with fail
        go_cut [] (fun wx => wx = (((w.alloc (.cells #[.int .u64 (wd ((Tg.rl (a + b) 32) + (Tg.rl d 16 ^^^ (c + d)))), .int .u64 (wd (Tg.rl (Tg.rl b 13 ^^^ (a + b)) 17 ^^^ ((c + d) + (Tg.rl b 13 ^^^ (a + b))))), .int .u64 (wd ((c + d) + (Tg.rl b 13 ^^^ (a + b)))), .int .u64 (wd (Tg.rl (Tg.rl d 16 ^^^ (c + d)) 21 ^^^ ((Tg.rl (a + b) 32) + (Tg.rl d 16 ^^^ (c + d)))))] 128)).alloc (.cells #[.int .u64 0, .int .u64 0, .int .u64 0, .int .u64 0] 128)).drew.drew.drew.drew))
        case first =>
          go_region_with ((go_at_call 130; refine (rot_17 _ _).mono ?_; rintro e w' ⟨rfl, rfl⟩))
          all_goals (go_wp2_with fail; go_meet; rfl)
        case rest =>
          subst hcut
          go_wp2_with ((go_at_call 130; refine (rot_32 _ _).mono ?_; rintro e w' ⟨rfl, rfl⟩))
          exact bodyPost_ret (v := v4 (Tg.rnd (a, b, c, d))) (by simp [results, Tryz.results119, go_sem, Tg.rnd, v4]) rfl ⟨rfl, (((((below_box w _).alloc (by simp) _).drew).drew).drew).drew⟩
end Go.Proofs.YtandlmnbnjkklaaGreatDoor
namespace Go.Proofs.YtandlmnbnjkklaaGreatDoor
open Go.RowKit

def ix (v : Tg.V) : Nat → Tg.W
  | 0 => v.1
  | 1 => v.2.1
  | 2 => v.2.2.1
  | _ => v.2.2.2
/-- block b holds four words, and may be written -/
def Own4 (w : World) (b : Nat) (v : Tg.V) : Prop := w.rowIs b 128 4 (fun i => .int .u64 (wd (ix v i)))
theorem Own4.cells {w : World} {b : Nat} {v : Tg.V} (h : Own4 w b v) : w.cell? ⟨b, 0, none⟩ = some (.int .u64 (wd v.1)) ∧ w.cell? ⟨b, 1, none⟩ = some (.int .u64 (wd v.2.1)) ∧ w.cell? ⟨b, 2, none⟩ = some (.int .u64 (wd v.2.2.1)) ∧ w.cell? ⟨b, 3, none⟩ = some (.int .u64 (wd v.2.2.2)) :=
  ⟨World.rowIs.cell h (i := 0) (by decide), World.rowIs.cell h (i := 1) (by decide), World.rowIs.cell h (i := 2) (by decide), World.rowIs.cell h (i := 3) (by decide)⟩
theorem Own4.frozen {w : World} {b : Nat} {v : Tg.V} (h : Own4 w b v) : w.frozen? ⟨b, 0, none⟩ = false ∧ w.frozen? ⟨b, 1, none⟩ = false ∧ w.frozen? ⟨b, 2, none⟩ = false ∧ w.frozen? ⟨b, 3, none⟩ = false :=
  ⟨World.rowIs.frozen h 0, World.rowIs.frozen h 1, World.rowIs.frozen h 2, World.rowIs.frozen h 3⟩
theorem Own4.lt {w : World} {b : Nat} {v : Tg.V} (h : Own4 w b v) : b < w.heap.size := World.rowIs.lt h
theorem Own4.below {w w' : World} {b : Nat} {v : Tg.V} (h : Own4 w b v) (hb : Below w.heap.size w w') : Own4 w' b v := World.rowIs.of_block h (hb.block b h.lt)
theorem Own4.new (w : World) (a b c d : Tg.W) : Own4 (w.alloc (.cells #[.int .u64 (wd a), .int .u64 (wd b), .int .u64 (wd c), .int .u64 (wd d)] 128)) w.heap.size (a, b, c, d) :=
  World.rowIs_alloc w _ _ _ (fun i hi => by
    match i, hi with
    | 0, _ => rfl
    | 1, _ => rfl
    | 2, _ => rfl
    | 3, _ => rfl)
theorem Own4.zero (w : World) : Own4 (w.alloc (.cells #[.int .u64 0, .int .u64 0, .int .u64 0, .int .u64 0] 128)) w.heap.size (0, 0, 0, 0) := Own4.new w 0 0 0 0
theorem Own4.alloc {w : World} {b : Nat} {v : Tg.V} (h : Own4 w b v) (o : Obj) : Own4 (w.alloc o) b v := World.rowIs.alloc h o
theorem Own4.other {w : World} {b c i : Nat} {v : Tg.V} (h : Own4 w b v) (hc : b ≠ c) (u : Value) : Own4 (w.setCell ⟨c, i, none⟩ u) b v := World.rowIs.setOther h (a := ⟨c, i, none⟩) hc u
theorem Own4.set {w : World} {b : Nat} {v : Tg.V} (h : Own4 w b v) (u : Tg.V) :
    Own4 ((((w.setCell ⟨b, 0, none⟩ (.int .u64 (wd u.1))).setCell ⟨b, 1, none⟩ (.int .u64 (wd u.2.1))).setCell ⟨b, 2, none⟩ (.int .u64 (wd u.2.2.1))).setCell ⟨b, 3, none⟩ (.int .u64 (wd u.2.2.2))) b u := by
  refine World.rowIs.congr (World.rowIs.set (World.rowIs.set (World.rowIs.set (World.rowIs.set h 0 _) 1 _) 2 _) 3 _) (fun i hi => ?_)
  match i, hi with
  | 0, _ => rfl
  | 1, _ => rfl
  | 2, _ => rfl
  | 3, _ => rfl
theorem below_set4 {B : Nat} {a w : World} (h : Below B a w) {b : Nat} (hb : B ≤ b) (x0 x1 x2 x3 : Value) : Below B a ((((w.setCell ⟨b, 0, none⟩ x0).setCell ⟨b, 1, none⟩ x1).setCell ⟨b, 2, none⟩ x2).setCell ⟨b, 3, none⟩ x3) :=
  (((h.setCell (p := ⟨b, 0, none⟩) hb _).setCell (p := ⟨b, 1, none⟩) hb _).setCell (p := ⟨b, 2, none⟩) hb _).setCell (p := ⟨b, 3, none⟩) hb _
theorem Own4.other4 {w : World} {b c : Nat} {v : Tg.V} (h : Own4 w b v) (hc : b ≠ c) (x0 x1 x2 x3 : Value) : Own4 ((((w.setCell ⟨c, 0, none⟩ x0).setCell ⟨c, 1, none⟩ x1).setCell ⟨c, 2, none⟩ x2).setCell ⟨c, 3, none⟩ x3) b v :=
  (((h.other hc _).other hc _).other hc _).other hc _
set_option maxRecDepth 100000 in
set_option maxHeartbeats 2000000 in
theorem rounds_any (a b c d : Tg.W) (n : Nat) (hn : n ≤ 1000) (w : World) :
    Calls Tryz.prog 101 #[.agg #[.int .u64 (wd a), .int .u64 (wd b), .int .u64 (wd c), .int .u64 (wd d)], .int .i64 n] w fun e w' => e = .returned (v4 (Tg.rnds n (a, b, c, d))) ∧ Below w.heap.size w w' := by
  go_enter Tryz.func101, Tryz.ntmps101
  go_wp2_with fail
  go_loopw [6] (fun iv wr => ∃ k : Nat, k ≤ n ∧ iv = .int .i64 k ∧ Own4 wr w.heap.size (Tg.rnds k (a, b, c, d)) ∧ Own4 wr (w.heap.size + 1) (0, 0, 0, 0) ∧ Below w.heap.size w wr) (fun iv _ => n - (intOf iv).toNat)
  case atStart => exact ⟨0, Nat.zero_le _, rfl, (Own4.new w a b c d).alloc _, by have := Own4.zero (w.alloc (.cells #[.int .u64 (wd a), .int .u64 (wd b), .int .u64 (wd c), .int .u64 (wd d)] 128)); simpa using this, (below_box w _).alloc (by simp) _⟩
  case round =>
    obtain ⟨k, hk, rfl, O, Z, Bw⟩ := hrel
    obtain ⟨c0, c1, c2, c3⟩ := O.cells
    obtain ⟨f0, f1, f2, f3⟩ := O.frozen
    obtain ⟨z0, z1, z2, z3⟩ := Z.cells
    obtain ⟨g0, g1, g2, g3⟩ := Z.frozen
    have hlt0 := O.lt
    have hlt1 := Z.lt
    have HO : Hid (Own4 wr w.heap.size (Tg.rnds k (a, b, c, d))) := O
    have HZ : Hid (Own4 wr (w.heap.size + 1) (0, 0, 0, 0)) := Z
    have HB : Hid (Below w.heap.size w wr) := Bw
    clear O Z Bw
    by_cases hlt : k < n
    · have hkz : (k : Int) < (n : Int) := by omega
      go_wp2_with (go_at_call 119; refine (round_any _ _ _ _ _).mono ?_; rintro e w1 ⟨rfl, hb⟩; obtain ⟨hc, hf⟩ := bcell hb; have HW : Hid (Below wr.heap.size wr w1) := hb; clear hb)
      go_roundw
      case rel =>
        exact ⟨k + 1, by omega, by go_num, (HO.out.below HW.out).set _, (HZ.out.below HW.out).other4 (by omega) _ _ _ _, below_set4 (below_on HB.out (by omega) HW.out) (Nat.le_refl _) _ _ _ _⟩
      case measure => simp [intOf]; omega
    · obtain rfl : k = n := by omega
      go_wp2
      exact bodyPost_ret (v := v4 (Tg.rnds k (a, b, c, d))) (by simp [results, Tryz.results101, go_sem, v4, z0, z1, z2, z3]) rfl ⟨rfl, below_set4 HB.out (by omega) _ _ _ _⟩
theorem rounds_2 (a b c d : Tg.W) (w : World) :
    Calls Tryz.prog 101 #[.agg #[.int .u64 (wd a), .int .u64 (wd b), .int .u64 (wd c), .int .u64 (wd d)], .int .i64 2] w fun e w' => e = .returned (v4 (Tg.rnd (Tg.rnd (a, b, c, d)))) ∧ Below w.heap.size w w' := rounds_any a b c d 2 (by decide) w
theorem rounds_4 (a b c d : Tg.W) (w : World) :
    Calls Tryz.prog 101 #[.agg #[.int .u64 (wd a), .int .u64 (wd b), .int .u64 (wd c), .int .u64 (wd d)], .int .i64 4] w fun e w' => e = .returned (v4 (Tg.rnd (Tg.rnd (Tg.rnd (Tg.rnd (a, b, c, d)))))) ∧ Below w.heap.size w w' := rounds_any a b c d 4 (by decide) w
set_option maxRecDepth 100000 in
set_option maxHeartbeats 2000000 in
theorem take_any (a b c d m : Tg.W) (w : World) :
    Calls Tryz.prog 93 #[.agg #[.int .u64 (wd a), .int .u64 (wd b), .int .u64 (wd c), .int .u64 (wd d)], .int .u64 (wd m)] w fun e w' => e = .returned (v4 (Tg.take (a, b, c, d) m)) ∧ Below w.heap.size w w' := by
  have rx := wd_xor
  have O : Hid (Own4 ((w.alloc (.cells #[.int .u64 (wd a), .int .u64 (wd b), .int .u64 (wd c), .int .u64 (wd (d ^^^ m))] 128)).alloc (.cells #[.int .u64 0, .int .u64 0, .int .u64 0, .int .u64 0] 128)) w.heap.size (a, b, c, d ^^^ m)) := (Own4.new w a b c (d ^^^ m)).alloc _
  have Z : Hid (Own4 ((w.alloc (.cells #[.int .u64 (wd a), .int .u64 (wd b), .int .u64 (wd c), .int .u64 (wd (d ^^^ m))] 128)).alloc (.cells #[.int .u64 0, .int .u64 0, .int .u64 0, .int .u64 0] 128)) (w.heap.size + 1) (0, 0, 0, 0)) := by
    have := Own4.zero (w.alloc (.cells #[.int .u64 (wd a), .int .u64 (wd b), .int .u64 (wd c), .int .u64 (wd (d ^^^ m))] 128))
    rw [World.size_alloc] at this
    exact this
  have B : Hid (Below w.heap.size w ((w.alloc (.cells #[.int .u64 (wd a), .int .u64 (wd b), .int .u64 (wd c), .int .u64 (wd (d ^^^ m))] 128)).alloc (.cells #[.int .u64 0, .int .u64 0, .int .u64 0, .int .u64 0] 128))) := (below_box w _).alloc (by simp) _
  go_enter Tryz.func93, Tryz.ntmps93
  go_wp2_with (go_at_call 101; refine (rounds_2 _ _ _ _ _).mono ?_; rintro e w1 ⟨rfl, hb⟩; have O1 := O.out.below hb; have Z1 := Z.out.below hb; have B1 : Hid (Below w.heap.size w w1) := below_on B.out (Nat.le_refl _) hb; clear hb; obtain ⟨c0, c1, c2, c3⟩ := O1.cells; obtain ⟨f0, f1, f2, f3⟩ := O1.frozen; obtain ⟨z0, z1, z2, z3⟩ := Z1.cells; obtain ⟨g0, g1, g2, g3⟩ := Z1.frozen; have hl1 := Z1.lt; clear O1 Z1)
  exact bodyPost_ret (v := v4 (Tg.take (a, b, c, d) m)) (by simp [results, Tryz.results93, go_sem, Tg.take, v4, *]) rfl ⟨rfl, below_set4 ((below_set4 B1.out (Nat.le_refl _) _ _ _ _).setCell (p := ⟨w.heap.size, 0, none⟩) (Nat.le_refl _) _) (by omega) _ _ _ _⟩
theorem xor_255 (x : Tg.W) : bits .xor .u64 (wd x) 255 = wd (x ^^^ 255) := wd_xor_lit x 255 (by decide)
set_option maxRecDepth 100000 in
set_option maxHeartbeats 2000000 in
theorem finish_any (a b c d : Tg.W) (w : World) :
    Calls Tryz.prog 94 #[.agg #[.int .u64 (wd a), .int .u64 (wd b), .int .u64 (wd c), .int .u64 (wd d)]] w fun e w' => e = .returned (.int .u64 (wd (Tg.fin (a, b, c, d)))) ∧ Below w.heap.size w w' := by
  have rx := wd_xor
  have r2 := xor_255
  have O : Hid (Own4 (w.alloc (.cells #[.int .u64 (wd a), .int .u64 (wd b), .int .u64 (wd (c ^^^ 255)), .int .u64 (wd d)] 128)) w.heap.size (a, b, c ^^^ 255, d)) := Own4.new w a b (c ^^^ 255) d
  have B : Hid (Below w.heap.size w (w.alloc (.cells #[.int .u64 (wd a), .int .u64 (wd b), .int .u64 (wd (c ^^^ 255)), .int .u64 (wd d)] 128))) := below_box w _
  go_enter Tryz.func94, Tryz.ntmps94
  go_wp2_with (go_at_call 101; refine (rounds_4 _ _ _ _ _).mono ?_; rintro e w1 ⟨rfl, hb⟩; have O1 := O.out.below hb; have B1 : Hid (Below w.heap.size w w1) := below_on B.out (Nat.le_refl _) hb; clear hb; obtain ⟨c0, c1, c2, c3⟩ := O1.cells; obtain ⟨f0, f1, f2, f3⟩ := O1.frozen; have hl1 := O1.lt; clear O1)
  go_ret
  exact ⟨ret_int rfl, below_set4 B1.out (Nat.le_refl _) _ _ _ _⟩
set_option maxRecDepth 100000 in
set_option maxHeartbeats 2000000 in
theorem start_any (a b : Tg.W) (w : World) :
    Calls Tryz.prog 91 #[.agg #[.int .u64 (wd a), .int .u64 (wd b)]] w fun e w' => e = .returned (v4 (Tg.start a b)) ∧ Below w.heap.size w w' := by
  have k1 : ∀ x : Tg.W, bits .xor .u64 (wd x) 8317987319222330741 = wd (x ^^^ 0x736f6d6570736575) := fun x => wd_xor_lit x 8317987319222330741 (by decide)
  have k2 : ∀ x : Tg.W, bits .xor .u64 (wd x) 7237128888997146477 = wd (x ^^^ 0x646f72616e646f6d) := fun x => wd_xor_lit x 7237128888997146477 (by decide)
  have k3 : ∀ x : Tg.W, bits .xor .u64 (wd x) 7816392313619706465 = wd (x ^^^ 0x6c7967656e657261) := fun x => wd_xor_lit x 7816392313619706465 (by decide)
  have k4 : ∀ x : Tg.W, bits .xor .u64 (wd x) 8387220255154660723 = wd (x ^^^ 0x7465646279746573) := fun x => wd_xor_lit x 8387220255154660723 (by decide)
  go_enter Tryz.func91, Tryz.ntmps91
  go_wp2
  exact bodyPost_ret (v := v4 (Tg.start a b)) (by simp [results, Tryz.results91, go_sem, Tg.start, v4]) rfl ⟨rfl, (below_box w _).alloc (by simp) _⟩
end Go.Proofs.YtandlmnbnjkklaaGreatDoor
