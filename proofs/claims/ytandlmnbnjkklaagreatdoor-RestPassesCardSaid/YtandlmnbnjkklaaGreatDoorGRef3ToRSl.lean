/- The walks of the document's own tags: a text's words. The walks of package tag: the tag of a text; what must be in any case. The walks of rings of keys: the bytes of a word, the least first; a text with its number ahead and its tag behind. -/
import Derived.Test.YtandlmnbnjkklaaGreatDoorGRef2ToGWds
import Derived.Test.YtandlmnbnjkklaaGreatDoorRRowToRPl
namespace Go.Proofs.YtandlmnbnjkklaaGreatDoor
open Go.RowKit

/-- the first j words, as the document's own loop makes them -/
def fst8 (l : List UInt8) (j : Nat) : List Tg.W := (List.range j).map (fun i => BitVec.ofNat 64 (Tg.part l i 8))
theorem fst8_succ (l : List UInt8) (j : Nat) : fst8 l (j + 1) = fst8 l j ++ [BitVec.ofNat 64 (Tg.part l j 8)] := by
  unfold fst8; rw [List.range_succ, List.map_append]; rfl
theorem fst8_length (l : List UInt8) (j : Nat) : (fst8 l j).length = j := by simp [fst8]
theorem words_fst8 (l : List UInt8) : Tg.words l = fst8 l (l.length / 8) ++ [BitVec.ofNat 64 (Tg.lst l)] := by
  unfold Tg.words fst8
  rw [List.range_succ, List.map_append]
  congr 1
  · apply List.map_congr_left
    intro i hi
    rw [List.mem_range] at hi
    unfold Tg.wn
    rw [if_pos hi]
  · show [BitVec.ofNat 64 (Tg.wn l (l.length / 8))] = _
    unfold Tg.wn
    rw [if_neg (Nat.lt_irrefl _)]
theorem horner (l : List UInt8) (j K n T : Nat) (h : Tg.part l j (K + 1) + n * 256 ^ (K + 1) = T) : Tg.part l j K + (n * 256 + (l.getD (8 * j + K) 0).toNat) * 256 ^ K = T := by
  rw [← h]
  show _ = Tg.part l j K + (l.getD (8 * j + K) 0).toNat * 256 ^ K + n * (256 ^ K * 256)
  generalize 256 ^ K = P
  rw [Nat.add_mul, Nat.mul_assoc n 256 P, Nat.mul_comm 256 P]
  omega
theorem horner_lt (p K n T : Nat) (h : p + n * 256 ^ K = T) (hT : T < 18446744073709551616) : n < 18446744073709551616 := by
  have : n ≤ n * 256 ^ K := Nat.le_mul_of_pos_right _ (Nat.pow_pos (by decide))
  omega
end Go.Proofs.YtandlmnbnjkklaaGreatDoor
namespace Go.Proofs.YtandlmnbnjkklaaGreatDoor
open Go.RowKit

theorem take_v (v : Tg.V) (m : Tg.W) (w : World) : Calls Tryz.prog 93 #[v4 v, .int .u64 (wd m)] w fun e w' => e = .returned (v4 (Tg.take v m)) ∧ Below w.heap.size w w' := take_any v.1 v.2.1 v.2.2.1 v.2.2.2 m w
theorem finish_v (v : Tg.V) (w : World) : Calls Tryz.prog 94 #[v4 v] w fun e w' => e = .returned (.int .u64 (wd (Tg.fin v))) ∧ Below w.heap.size w w' := finish_any v.1 v.2.1 v.2.2.1 v.2.2.2 w
/-- what lies there while words are taken: four words in block b, the words themselves behind -/
structure Tk (w : World) (b : Nat) (a : Option Addr) (ws : List Tg.W) (v : Tg.V) (W : World) : Prop where
  own : Own4 W b v
  row : RowN W (b + 1) a ws
  ge : w.heap.size ≤ b
  below : Below w.heap.size w W
theorem Tk.on {w W W' : World} {b : Nat} {a : Option Addr} {ws : List Tg.W} {v : Tg.V} (h : Tk w b a ws v W) (hb : Below W.heap.size W W') : Tk w b a ws v W' :=
  ⟨h.own.below hb, h.row.below hb, h.ge, below_on h.below (Nat.le_refl _) hb⟩
theorem Tk.set {w W : World} {b : Nat} {a : Option Addr} {ws : List Tg.W} {v : Tg.V} (h : Tk w b a ws v W) (u : Tg.V) :
    Tk w b a ws u ((((W.setCell ⟨b, 0, none⟩ (.int .u64 (wd u.1))).setCell ⟨b, 1, none⟩ (.int .u64 (wd u.2.1))).setCell ⟨b, 2, none⟩ (.int .u64 (wd u.2.2.1))).setCell ⟨b, 3, none⟩ (.int .u64 (wd u.2.2.2))) :=
  ⟨h.own.set u, h.row.set4 (Nat.lt_succ_self b) _ _ _ _, h.ge, below_set4 h.below h.ge _ _ _ _⟩
theorem Tk.drew {w W : World} {b : Nat} {a : Option Addr} {ws : List Tg.W} {v : Tg.V} (h : Tk w b a ws v W) : Tk w b a ws v W.drew := h.on (Below.refl _ _).drew
set_option maxRecDepth 100000 in
set_option maxHeartbeats 2000000 in
theorem of_any (A B : Tg.W) (s : ByteArray) (w : World) (hs : s.size ≤ 140737488351232) :
    Calls Tryz.prog 77 #[.agg #[.int .u64 (wd A), .int .u64 (wd B)], .string s] w fun e w' => e = .returned (.int .u64 (wd (Tg.of A B s.data.toList))) ∧ Below w.heap.size w w' := by
  have B0 : Hid (Below w.heap.size w (w.alloc (.cells #[.int .u64 (wd A), .int .u64 (wd B)] 30))) := below_box w _
  have HL : Hid ((Tg.words s.data.toList).length = s.size / 8 + 1) := by show _ = _; rw [Tg.words_length, len_list]
  have HT : Hid (Tg.of A B s.data.toList = Tg.fin (Tg.takes (Tg.start A B) (Tg.words s.data.toList))) := rfl
  have hn0 : (Tg.words s.data.toList).length ≤ 140737488351232 := by rw [HL.out]; omega
  go_enter Tryz.func77, Tryz.ntmps77
  go_wp2_with fail
  refine (start_any _ _ _).mono ?_; rintro e w1 ⟨rfl, hb1⟩
  have B1 : Hid (Below w.heap.size w w1) := below_on B0.out (Nat.le_refl _) hb1
  clear hb1 B0
  have O1 : Hid (Own4 (w1.alloc (.cells #[.int .u64 (wd (Tg.start A B).1), .int .u64 (wd (Tg.start A B).2.1), .int .u64 (wd (Tg.start A B).2.2.1), .int .u64 (wd (Tg.start A B).2.2.2)] 128)) w1.heap.size (Tg.start A B)) := Own4.new w1 _ _ _ _
  have B2 : Hid (Below w.heap.size w (w1.alloc (.cells #[.int .u64 (wd (Tg.start A B).1), .int .u64 (wd (Tg.start A B).2.1), .int .u64 (wd (Tg.start A B).2.2.1), .int .u64 (wd (Tg.start A B).2.2.2)] 128))) := below_on B1.out (Nat.le_refl _) (below_box w1 _)
  have hge : w.heap.size ≤ w1.heap.size := B1.out.size
  have HT' : Hid (Tg.takes (Tg.start A B) ((Tg.words s.data.toList).take 0) = Tg.start A B) := rfl
  generalize Tg.start A B = V at *
  go_wp2_with fail
  refine (words_any s _ hs).mono ?_; rintro e w2 ⟨a, cap, rfl, hr, hb2⟩
  have T2 : Hid (Tk w w1.heap.size a (Tg.words s.data.toList) V w2) := ⟨O1.out.below hb2, by rw [World.size_alloc] at hr; exact hr, hge, below_on B2.out (Nat.le_refl _) hb2⟩
  clear hb2 hr O1 B2
  generalize Tg.words s.data.toList = ws at *
  generalize hN : ws.length = N at *
  have HN : Hid (ws.length = N) := hN
  clear hN
  generalize w1.heap.size = b at *
  go_wp2
  go_loopw [7, 13] (fun _ iv wr => ∃ k : Nat, k ≤ N ∧ iv = .int .i64 k ∧ Tk w b a ws (Tg.takes V (ws.take k)) wr) (fun _ iv _ => N - (intOf iv).toNat)
  case atStart => exact ⟨0, Nat.zero_le _, rfl, T2.out⟩
  case round =>
    obtain ⟨k, hk, rfl, T⟩ := hrel
    obtain ⟨c0, c1, c2, c3⟩ := T.own.cells
    obtain ⟨f0, f1, f2, f3⟩ := T.own.frozen
    have hlt0 := T.own.lt
    have H : Hid (Tk w b a ws (Tg.takes V (ws.take k)) wr) := T
    clear T
    by_cases hlt : k < N
    · have hkz : (k : Int) < (N : Int) := by omega
      have hk0 : (0 : Int) ≤ (k : Int) := by omega
      obtain ⟨b', off, x, ea, -, hx, cx⟩ := H.out.row.1.at (k := k) (by rw [HN.out]; exact hlt)
      have HX : Hid (Tg.takes V (ws.take (k + 1)) = Tg.take (Tg.takes V (ws.take k)) x) := Tg.takes_snoc V ws k x hx
      clear hx
      subst ea
      generalize Tg.takes V (ws.take k) = U at *
      go_wp2_with (go_at_call 93; refine (take_v _ _ _).mono ?_; rintro e w3 ⟨rfl, hb⟩; obtain ⟨hc, hf⟩ := bcell hb; have HW : Hid (Below wr.heap.size wr w3) := hb; clear hb)
      go_roundw
      case rel => exact ⟨k + 1, by omega, by go_num, by rw [HX.out]; exact (H.out.on HW.out).set _⟩
      case measure => simp [intOf] <;> omega
    · obtain rfl : k = N := by omega
      have HE : Hid (Tg.takes V (ws.take k) = Tg.takes V ws) := by show _ = _; rw [List.take_of_length_le (by rw [HN.out]; exact Nat.le_refl _)]
      generalize Tg.takes V (ws.take k) = U at *
      go_wp2_with (go_at_call 94; refine (finish_v _ _).mono ?_; rintro e w3 ⟨rfl, hb⟩; have HW : Hid (Below wr.heap.size wr w3) := hb; clear hb)
      go_ret
      exact ⟨ret_int (by rw [HE.out, HT.out]), below_on H.out.below (Nat.le_refl _) HW.out⟩
theorem of_lit (x y n : Nat) (s : ByteArray) (w : World) (hx : x < 18446744073709551616) (hy : y < 18446744073709551616) (hs : s.size ≤ 140737488351232) (hn : (Tg.of (BitVec.ofNat 64 x) (BitVec.ofNat 64 y) s.data.toList).toNat = n) :
    Calls Tryz.prog 77 #[.agg #[.int .u64 (x : Int), .int .u64 (y : Int)], .string s] w fun e w' => e = .returned (.int .u64 (n : Int)) ∧ Below w.heap.size w w' := by
  have h := of_any (BitVec.ofNat 64 x) (BitVec.ofNat 64 y) s w hs
  rw [wd_of x hx, wd_of y hy] at h
  subst hn
  exact h
end Go.Proofs.YtandlmnbnjkklaaGreatDoor
namespace Go.Proofs.YtandlmnbnjkklaaGreatDoor
open Go.RowKit

/-- byte number k of a word -/
def Rg.by' (x : Tg.W) (k : Nat) : Nat := x.toNat / 256 ^ k % 256
theorem Rg.by_lt (x : Tg.W) (k : Nat) : Rg.by' x k < 256 := Nat.mod_lt _ (by decide)
theorem Rg.leN_by (x : Tg.W) (n : Nat) : Rg.leN x n = (List.range n).map fun k => UInt8.ofNat (Rg.by' x k) := by
  induction n with
  | zero => rfl
  | succ n ih => rw [List.range_succ, List.map_append, ← ih]; rfl
theorem by_out (x : Tg.W) (k : Nat) : wd x / 2 ^ (k * 8) % 256 = ((Rg.by' x k : Nat) : Int) := by
  unfold Rg.by' wd
  rw [Int.natCast_emod, Int.natCast_ediv, Int.natCast_pow, Nat.mul_comm k 8, Int.pow_mul]
  rfl
/-- block b holds eight bytes, and may be written -/
def Own8 (w : World) (b : Nat) (f : Nat → Nat) : Prop := w.rowIs b 116 8 (fun i => .int .u8 ((f i : Nat) : Int))
theorem Own8.lt {w : World} {b : Nat} {f : Nat → Nat} (h : Own8 w b f) : b < w.heap.size := World.rowIs.lt h
theorem Own8.zero (w : World) : Own8 (w.alloc (.cells #[.int .u8 0, .int .u8 0, .int .u8 0, .int .u8 0, .int .u8 0, .int .u8 0, .int .u8 0, .int .u8 0] 116)) w.heap.size (fun _ => 0) :=
  World.rowIs_alloc w _ _ _ (fun i hi => by
    match i, hi with
    | 0, _ => rfl
    | 1, _ => rfl
    | 2, _ => rfl
    | 3, _ => rfl
    | 4, _ => rfl
    | 5, _ => rfl
    | 6, _ => rfl
    | 7, _ => rfl)
set_option maxRecDepth 100000 in
set_option maxHeartbeats 2000000 in
theorem bytesOf_any (x : Tg.W) (w : World) :
    Calls Tryz.prog 76 #[.int .u64 (wd x)] w fun e w' => e = .returned (.agg #[.int .u8 (Rg.by' x 0 : Nat), .int .u8 (Rg.by' x 1 : Nat), .int .u8 (Rg.by' x 2 : Nat), .int .u8 (Rg.by' x 3 : Nat), .int .u8 (Rg.by' x 4 : Nat), .int .u8 (Rg.by' x 5 : Nat), .int .u8 (Rg.by' x 6 : Nat), .int .u8 (Rg.by' x 7 : Nat)]) ∧ Below w.heap.size w w' := by
  have HB0 : Hid (Below w.heap.size w ((w.alloc (.cells #[.int .u8 0, .int .u8 0, .int .u8 0, .int .u8 0, .int .u8 0, .int .u8 0, .int .u8 0, .int .u8 0] 116)).alloc (.cells #[.int .u8 0, .int .u8 0, .int .u8 0, .int .u8 0, .int .u8 0, .int .u8 0, .int .u8 0, .int .u8 0] 116))) := (below_box w _).alloc (by simp) _
  have HO0 : Hid (Own8 ((w.alloc (.cells #[.int .u8 0, .int .u8 0, .int .u8 0, .int .u8 0, .int .u8 0, .int .u8 0, .int .u8 0, .int .u8 0] 116)).alloc (.cells #[.int .u8 0, .int .u8 0, .int .u8 0, .int .u8 0, .int .u8 0, .int .u8 0, .int .u8 0, .int .u8 0] 116)) (w.heap.size + 1) (fun _ => 0)) := by
    have := Own8.zero (w.alloc (.cells #[.int .u8 0, .int .u8 0, .int .u8 0, .int .u8 0, .int .u8 0, .int .u8 0, .int .u8 0, .int .u8 0] 116))
    rw [World.size_alloc] at this
    exact this
  have HO1 : Hid (Own8 ((w.alloc (.cells #[.int .u8 0, .int .u8 0, .int .u8 0, .int .u8 0, .int .u8 0, .int .u8 0, .int .u8 0, .int .u8 0] 116)).alloc (.cells #[.int .u8 0, .int .u8 0, .int .u8 0, .int .u8 0, .int .u8 0, .int .u8 0, .int .u8 0, .int .u8 0] 116)) w.heap.size (fun _ => 0)) :=
    World.rowIs.alloc (Own8.zero w) _
  go_enter Tryz.func76, Tryz.ntmps76
  go_wp2
  go_loopw [4, 5] (fun _ i wr => ∃ k : Nat, k ≤ 8 ∧ i = .int .i64 k ∧ Own8 wr (w.heap.size + 1) (fun j => if j < k then Rg.by' x j else 0) ∧ Own8 wr w.heap.size (fun _ => 0) ∧ Below w.heap.size w wr) (fun _ i _ => 8 - (intOf i).toNat)
  case atStart => exact ⟨0, Nat.zero_le _, rfl, World.rowIs.congr HO0.out (fun i _ => by simp), HO1.out, HB0.out⟩
  case round =>
    obtain ⟨k, hk, rfl, ho, hz, hb⟩ := hrel
    have HO : Hid (Own8 wr (w.heap.size + 1) (fun j => if j < k then Rg.by' x j else 0)) := ho
    have HZ : Hid (Own8 wr w.heap.size (fun _ => 0)) := hz
    have HB : Hid (Below w.heap.size w wr) := hb
    clear hb
    by_cases hlt : k < 8
    · have hlt' : (k : Int) < 8 := by omega
      have hv := by_out x k
      have f1 := World.rowIs.frozen ho k
      have c1 := World.rowIs.cell ho (i := k) hlt
      have HN : Hid (∀ j, j < 8 → (if j = k then Rg.by' x k else if j < k then Rg.by' x j else 0) = if j < k + 1 then Rg.by' x j else 0) := by
        intro j hj
        by_cases c : j = k
        · subst c; rw [if_pos rfl, if_pos (by omega)]
        · rw [if_neg c]
          by_cases d : j < k
          · rw [if_pos d, if_pos (by omega)]
          · rw [if_neg d, if_neg (by omega)]
      simp only [Nat.lt_irrefl, if_false] at c1
      have hlt8 := ho.lt
      clear ho hz
      generalize Rg.by' x k = Y at hv HN
      go_wp2
      go_roundw
      case rel =>
        refine ⟨k + 1, by omega, by go_num, World.rowIs.congr (World.rowIs.set HO.out k (.int .u8 (Y : Int))) (fun j hj => ?_), World.rowIs.setOther HZ.out (a := ⟨w.heap.size + 1, k, none⟩) (by simp) _, HB.out.setCell (p := ⟨w.heap.size + 1, k, none⟩) (by simp) _⟩
        show _ = Value.int .u8 (((if j < k + 1 then Rg.by' x j else 0 : Nat)) : Int)
        rw [← HN.out j hj]
        split <;> rfl
      case measure => simp [intOf]; omega
    · obtain rfl : k = 8 := by omega
      replace ho : Own8 wr (w.heap.size + 1) (Rg.by' x) := World.rowIs.congr ho (fun i hi => by simp [hi])
      have c0 := World.rowIs.cell ho (i := 0) (by decide)
      have c1 := World.rowIs.cell ho (i := 1) (by decide)
      have c2 := World.rowIs.cell ho (i := 2) (by decide)
      have c3 := World.rowIs.cell ho (i := 3) (by decide)
      have c4 := World.rowIs.cell ho (i := 4) (by decide)
      have c5 := World.rowIs.cell ho (i := 5) (by decide)
      have c6 := World.rowIs.cell ho (i := 6) (by decide)
      have c7 := World.rowIs.cell ho (i := 7) (by decide)
      have z0 := World.rowIs.cell hz (i := 0) (by decide)
      have z1 := World.rowIs.cell hz (i := 1) (by decide)
      have z2 := World.rowIs.cell hz (i := 2) (by decide)
      have z3 := World.rowIs.cell hz (i := 3) (by decide)
      have z4 := World.rowIs.cell hz (i := 4) (by decide)
      have z5 := World.rowIs.cell hz (i := 5) (by decide)
      have z6 := World.rowIs.cell hz (i := 6) (by decide)
      have z7 := World.rowIs.cell hz (i := 7) (by decide)
      have g0 := World.rowIs.frozen hz 0
      have g1 := World.rowIs.frozen hz 1
      have g2 := World.rowIs.frozen hz 2
      have g3 := World.rowIs.frozen hz 3
      have g4 := World.rowIs.frozen hz 4
      have g5 := World.rowIs.frozen hz 5
      have g6 := World.rowIs.frozen hz 6
      have g7 := World.rowIs.frozen hz 7
      have hlt9 := hz.lt
      clear ho hz
      go_wp2
      refine bodyPost_ret (v := .agg #[.int .u8 (Rg.by' x 0 : Nat), .int .u8 (Rg.by' x 1 : Nat), .int .u8 (Rg.by' x 2 : Nat), .int .u8 (Rg.by' x 3 : Nat), .int .u8 (Rg.by' x 4 : Nat), .int .u8 (Rg.by' x 5 : Nat), .int .u8 (Rg.by' x 6 : Nat), .int .u8 (Rg.by' x 7 : Nat)]) (by simp [results, Tryz.results76, go_sem, World.cell?_setCell_same', z0, z1, z2, z3, z4, z5, z6, z7]) rfl ⟨rfl, ?_⟩
      exact (((((((HB.out.setCell (p := ⟨w.heap.size, 0, none⟩) (Nat.le_refl _) _).setCell (p := ⟨w.heap.size, 1, none⟩) (Nat.le_refl _) _).setCell (p := ⟨w.heap.size, 2, none⟩) (Nat.le_refl _) _).setCell (p := ⟨w.heap.size, 3, none⟩) (Nat.le_refl _) _).setCell (p := ⟨w.heap.size, 4, none⟩) (Nat.le_refl _) _).setCell (p := ⟨w.heap.size, 5, none⟩) (Nat.le_refl _) _).setCell (p := ⟨w.heap.size, 6, none⟩) (Nat.le_refl _) _).setCell (p := ⟨w.heap.size, 7, none⟩) (Nat.le_refl _) _
end Go.Proofs.YtandlmnbnjkklaaGreatDoor
