/- The walks of rings of keys: the bytes of a word, the least first; a text with its number ahead and its tag behind. -/
import Derived.Test.YtcjpbmfdgheolaaRPl
import Derived.Test.YtcjpbmfdgheolaaGOf
namespace Go.Proofs.Ytcjpbmfdgheolaa
open Go.RowKit

/-- byte number k of a word -/
def Rg.by' (x : Tg.W) (k : Nat) : Nat := x.toNat / 256 ^ k % 256
theorem Rg.by_lt (x : Tg.W) (k : Nat) : Rg.by' x k < 256 := Nat.mod_lt _ (by decide)
theorem Rg.leN_by (x : Tg.W) (n : Nat) : Rg.leN x n = (List.range n).map fun k => UInt8.ofNat (Rg.by' x k) := by
  induction n with
  | zero => rfl
  | succ n ih => rw [List.range_succ, List.map_append, ← ih]; rfl
theorem by_out (x : Tg.W) (k : Nat) : wd x / 2 ^ (k * 8) % 256 = ((Rg.by' x k : Nat) : Int) := by
  unfold Rg.by' wd
  rw [Int.natCast_emod, Int.natCast_ediv, Int.natCast_pow, Nat.mul_comm k 8, Int.pow_mul]
  rfl
/-- block b holds eight bytes, and may be written -/
def Own8 (w : World) (b : Nat) (f : Nat → Nat) : Prop := w.rowIs b 57 8 (fun i => .int .u8 ((f i : Nat) : Int))
theorem Own8.lt {w : World} {b : Nat} {f : Nat → Nat} (h : Own8 w b f) : b < w.heap.size := World.rowIs.lt h
theorem Own8.zero (w : World) : Own8 (w.alloc (.cells #[.int .u8 0, .int .u8 0, .int .u8 0, .int .u8 0, .int .u8 0, .int .u8 0, .int .u8 0, .int .u8 0] 57)) w.heap.size (fun _ => 0) :=
  World.rowIs_alloc w _ _ _ (fun i hi => by
    match i, hi with
    | 0, _ => rfl
    | 1, _ => rfl
    | 2, _ => rfl
    | 3, _ => rfl
    | 4, _ => rfl
    | 5, _ => rfl
    | 6, _ => rfl
    | 7, _ => rfl)
set_option maxRecDepth 100000 in
set_option maxHeartbeats 2000000 in
theorem bytesOf_any (x : Tg.W) (w : World) :
    Calls Try.prog 31 #[.int .u64 (wd x)] w fun e w' => e = .returned (.agg #[.int .u8 (Rg.by' x 0 : Nat), .int .u8 (Rg.by' x 1 : Nat), .int .u8 (Rg.by' x 2 : Nat), .int .u8 (Rg.by' x 3 : Nat), .int .u8 (Rg.by' x 4 : Nat), .int .u8 (Rg.by' x 5 : Nat), .int .u8 (Rg.by' x 6 : Nat), .int .u8 (Rg.by' x 7 : Nat)]) ∧ Below w.heap.size w w' := by
  have HB0 : Hid (Below w.heap.size w ((w.alloc (.cells #[.int .u8 0, .int .u8 0, .int .u8 0, .int .u8 0, .int .u8 0, .int .u8 0, .int .u8 0, .int .u8 0] 57)).alloc (.cells #[.int .u8 0, .int .u8 0, .int .u8 0, .int .u8 0, .int .u8 0, .int .u8 0, .int .u8 0, .int .u8 0] 57))) := (below_box w _).alloc (by simp) _
  have HO0 : Hid (Own8 ((w.alloc (.cells #[.int .u8 0, .int .u8 0, .int .u8 0, .int .u8 0, .int .u8 0, .int .u8 0, .int .u8 0, .int .u8 0] 57)).alloc (.cells #[.int .u8 0, .int .u8 0, .int .u8 0, .int .u8 0, .int .u8 0, .int .u8 0, .int .u8 0, .int .u8 0] 57)) (w.heap.size + 1) (fun _ => 0)) := by
    have := Own8.zero (w.alloc (.cells #[.int .u8 0, .int .u8 0, .int .u8 0, .int .u8 0, .int .u8 0, .int .u8 0, .int .u8 0, .int .u8 0] 57))
    rw [World.size_alloc] at this
    exact this
  have HO1 : Hid (Own8 ((w.alloc (.cells #[.int .u8 0, .int .u8 0, .int .u8 0, .int .u8 0, .int .u8 0, .int .u8 0, .int .u8 0, .int .u8 0] 57)).alloc (.cells #[.int .u8 0, .int .u8 0, .int .u8 0, .int .u8 0, .int .u8 0, .int .u8 0, .int .u8 0, .int .u8 0] 57)) w.heap.size (fun _ => 0)) :=
    World.rowIs.alloc (Own8.zero w) _
  go_enter Try.func31, Try.ntmps31
  go_wp2
  go_loopw [4, 5] (fun _ i wr => ∃ k : Nat, k ≤ 8 ∧ i = .int .i64 k ∧ Own8 wr (w.heap.size + 1) (fun j => if j < k then Rg.by' x j else 0) ∧ Own8 wr w.heap.size (fun _ => 0) ∧ Below w.heap.size w wr) (fun _ i _ => 8 - (intOf i).toNat)
  case atStart => exact ⟨0, Nat.zero_le _, rfl, World.rowIs.congr HO0.out (fun i _ => by simp), HO1.out, HB0.out⟩
  case round =>
    obtain ⟨k, hk, rfl, ho, hz, hb⟩ := hrel
    have HO : Hid (Own8 wr (w.heap.size + 1) (fun j => if j < k then Rg.by' x j else 0)) := ho
    have HZ : Hid (Own8 wr w.heap.size (fun _ => 0)) := hz
    have HB : Hid (Below w.heap.size w wr) := hb
    clear hb
    by_cases hlt : k < 8
    · have hlt' : (k : Int) < 8 := by omega
      have hv := by_out x k
      have f1 := World.rowIs.frozen ho k
      have c1 := World.rowIs.cell ho (i := k) hlt
      have HN : Hid (∀ j, j < 8 → (if j = k then Rg.by' x k else if j < k then Rg.by' x j else 0) = if j < k + 1 then Rg.by' x j else 0) := by
        intro j hj
        by_cases c : j = k
        · subst c; rw [if_pos rfl, if_pos (by omega)]
        · rw [if_neg c]
          by_cases d : j < k
          · rw [if_pos d, if_pos (by omega)]
          · rw [if_neg d, if_neg (by omega)]
      simp only [Nat.lt_irrefl, if_false] at c1
      have hlt8 := ho.lt
      clear ho hz
      generalize Rg.by' x k = Y at hv HN
      go_wp2
      go_roundw
      case rel =>
        refine ⟨k + 1, by omega, by go_num, World.rowIs.congr (World.rowIs.set HO.out k (.int .u8 (Y : Int))) (fun j hj => ?_), World.rowIs.setOther HZ.out (a := ⟨w.heap.size + 1, k, none⟩) (by simp) _, HB.out.setCell (p := ⟨w.heap.size + 1, k, none⟩) (by simp) _⟩
        show _ = Value.int .u8 (((if j < k + 1 then Rg.by' x j else 0 : Nat)) : Int)
        rw [← HN.out j hj]
        split <;> rfl
      case measure => simp [intOf]; omega
    · obtain rfl : k = 8 := by omega
      replace ho : Own8 wr (w.heap.size + 1) (Rg.by' x) := World.rowIs.congr ho (fun i hi => by simp [hi])
      have c0 := World.rowIs.cell ho (i := 0) (by decide)
      have c1 := World.rowIs.cell ho (i := 1) (by decide)
      have c2 := World.rowIs.cell ho (i := 2) (by decide)
      have c3 := World.rowIs.cell ho (i := 3) (by decide)
      have c4 := World.rowIs.cell ho (i := 4) (by decide)
      have c5 := World.rowIs.cell ho (i := 5) (by decide)
      have c6 := World.rowIs.cell ho (i := 6) (by decide)
      have c7 := World.rowIs.cell ho (i := 7) (by decide)
      have z0 := World.rowIs.cell hz (i := 0) (by decide)
      have z1 := World.rowIs.cell hz (i := 1) (by decide)
      have z2 := World.rowIs.cell hz (i := 2) (by decide)
      have z3 := World.rowIs.cell hz (i := 3) (by decide)
      have z4 := World.rowIs.cell hz (i := 4) (by decide)
      have z5 := World.rowIs.cell hz (i := 5) (by decide)
      have z6 := World.rowIs.cell hz (i := 6) (by decide)
      have z7 := World.rowIs.cell hz (i := 7) (by decide)
      have g0 := World.rowIs.frozen hz 0
      have g1 := World.rowIs.frozen hz 1
      have g2 := World.rowIs.frozen hz 2
      have g3 := World.rowIs.frozen hz 3
      have g4 := World.rowIs.frozen hz 4
      have g5 := World.rowIs.frozen hz 5
      have g6 := World.rowIs.frozen hz 6
      have g7 := World.rowIs.frozen hz 7
      have hlt9 := hz.lt
      clear ho hz
      go_wp2
      refine bodyPost_ret (v := .agg #[.int .u8 (Rg.by' x 0 : Nat), .int .u8 (Rg.by' x 1 : Nat), .int .u8 (Rg.by' x 2 : Nat), .int .u8 (Rg.by' x 3 : Nat), .int .u8 (Rg.by' x 4 : Nat), .int .u8 (Rg.by' x 5 : Nat), .int .u8 (Rg.by' x 6 : Nat), .int .u8 (Rg.by' x 7 : Nat)]) (by simp [results, Try.results31, go_sem, World.cell?_setCell_same', z0, z1, z2, z3, z4, z5, z6, z7]) rfl ⟨rfl, ?_⟩
      exact (((((((HB.out.setCell (p := ⟨w.heap.size, 0, none⟩) (Nat.le_refl _) _).setCell (p := ⟨w.heap.size, 1, none⟩) (Nat.le_refl _) _).setCell (p := ⟨w.heap.size, 2, none⟩) (Nat.le_refl _) _).setCell (p := ⟨w.heap.size, 3, none⟩) (Nat.le_refl _) _).setCell (p := ⟨w.heap.size, 4, none⟩) (Nat.le_refl _) _).setCell (p := ⟨w.heap.size, 5, none⟩) (Nat.le_refl _) _).setCell (p := ⟨w.heap.size, 6, none⟩) (Nat.le_refl _) _).setCell (p := ⟨w.heap.size, 7, none⟩) (Nat.le_refl _) _
end Go.Proofs.Ytcjpbmfdgheolaa
