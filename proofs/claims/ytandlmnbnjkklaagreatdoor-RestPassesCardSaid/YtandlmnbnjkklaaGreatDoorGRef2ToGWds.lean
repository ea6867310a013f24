/- The walks of the document's own tags: a round, the start, a word taken, the end. Slices of words: read, and made by the call. The walks of package tag: a text's words. -/
import Derived.Test.YtandlmnbnjkklaaGreatDoorGRefToGTk
import Derived.Laws.OwnMore
import Derived.Deep.OwnRows
namespace Go.Proofs.YtandlmnbnjkklaaGreatDoor
open Go.RowKit

end Go.Proofs.YtandlmnbnjkklaaGreatDoor
namespace Go.Proofs.YtandlmnbnjkklaaGreatDoor
open Go.RowKit

theorem infoU : (Tryz.prog.info? 28).map (fun i => (i.zero, i.size, i.bytes)) = some (some (.int .u64 0), 1, 8) := by kernel_rfl
/-- A slice of words that lies there. -/
def RowU (w : World) (a : Option Addr) (l : List Tg.W) : Prop :=
  l = [] ∨ ∃ b off, a = some ⟨b, off, none⟩ ∧ b < w.heap.size ∧ ∀ i : Nat, i < l.length → w.cell? ⟨b, off + i, none⟩ = some (.int .u64 (wd (l.getD i 0)))
theorem RowU.at {w : World} {a : Option Addr} {l : List Tg.W} (hr : RowU w a l) {k : Nat} (hlt : k < l.length) :
    ∃ b off x, a = some ⟨b, off, none⟩ ∧ b < w.heap.size ∧ l[k]? = some x ∧ w.cell? ⟨b, off + k, none⟩ = some (.int .u64 (wd x)) := by
  rcases hr with rfl | ⟨b, off, rfl, hb, hc⟩
  · simp at hlt
  exact ⟨b, off, _, rfl, hb, by simp [List.getD, List.getElem?_eq_getElem hlt], hc k hlt⟩
theorem RowU.below {w w' : World} {a : Option Addr} {l : List Tg.W} (h : RowU w a l) (hb : Below w.heap.size w w') : RowU w' a l := by
  rcases h with h | ⟨b, off, rfl, hlt, hc⟩
  · exact .inl h
  · exact .inr ⟨b, off, rfl, Nat.lt_of_lt_of_le hlt hb.size, fun i hi => (hb.cell (p := ⟨b, _, none⟩) hlt).trans (hc i hi)⟩
/-- A slice of words that was made since the heap was B. -/
def RowN (w : World) (B : Nat) (a : Option Addr) (l : List Tg.W) : Prop := RowU w a l ∧ ∀ p, a = some p → B ≤ p.block
theorem RowN.below {w w' : World} {B : Nat} {a : Option Addr} {l : List Tg.W} (h : RowN w B a l) (hb : Below w.heap.size w w') : RowN w' B a l := ⟨h.1.below hb, h.2⟩
theorem RowN.set4 {w : World} {B b : Nat} {a : Option Addr} {l : List Tg.W} (h : RowN w B a l) (hb : b < B) (x0 x1 x2 x3 : Value) : RowN ((((w.setCell ⟨b, 0, none⟩ x0).setCell ⟨b, 1, none⟩ x1).setCell ⟨b, 2, none⟩ x2).setCell ⟨b, 3, none⟩ x3) B a l := by
  refine ⟨?_, h.2⟩
  rcases h.1 with h1 | ⟨c, off, rfl, hlt, hc⟩
  · exact .inl h1
  · have hne : c ≠ b := by have := h.2 _ rfl; dsimp at this; omega
    refine .inr ⟨c, off, rfl, Nat.lt_of_lt_of_le hlt (below_set4 (B := 0) (Below.refl 0 w) (Nat.zero_le b) x0 x1 x2 x3).size, fun i hi => ?_⟩
    have e : (((((w.setCell ⟨b, 0, none⟩ x0).setCell ⟨b, 1, none⟩ x1).setCell ⟨b, 2, none⟩ x2).setCell ⟨b, 3, none⟩ x3).heap)[c]? = w.heap[c]? := by
      rw [Below.heap_setCell _ _ _ _ hne, Below.heap_setCell _ _ _ _ hne, Below.heap_setCell _ _ _ _ hne, Below.heap_setCell _ _ _ _ hne]
    generalize ((((w.setCell ⟨b, 0, none⟩ x0).setCell ⟨b, 1, none⟩ x1).setCell ⟨b, 2, none⟩ x2).setCell ⟨b, 3, none⟩ x3) = W at e ⊢
    exact (World.cell?_of_block (w := w) (a := ⟨c, off + i, none⟩) e).trans (hc i hi)
/-- A slice of words that the call has made by append. -/
def OwnU (w : World) (B : Nat) (v : Value) (xs : List Tg.W) : Prop := w.ownsRow B 28 1 v xs.length (xs.map (fun x => Value.int .u64 (wd x)))
theorem OwnU.nil (w : World) (B : Nat) : OwnU w B (.slice none 0 0) [] := World.ownsRow_nil _ _ _ _
theorem OwnU.keep {w wr w1 : World} {B : Nat} {v v' : Value} {xs : List Tg.W} {x : Tg.W} {o : Obj} (hB : B ≤ wr.heap.size) (hown : OwnU wr B v xs) (hnx : Below B w wr)
    (hown' : w1.ownsRow B 28 1 v' (xs.length + 1) (xs.map (fun x => Value.int .u64 (wd x)) ++ [.int .u64 (wd x)])) (hgrow : (wr.alloc o).grownBy w1 v.ownBlock) :
    OwnU w1 B v' (xs ++ [x]) ∧ Below B w w1 :=
  ⟨by unfold OwnU; simpa using hown', (hnx.alloc hB o).grown hgrow (by simp; omega) (fun j hj => by have := (World.ownsRow.lt hown j hj).1; omega)⟩
theorem OwnU.row {w : World} {B : Nat} {v : Value} {xs : List Tg.W} (h : OwnU w B v xs) : ∃ a cap, v = .slice a xs.length cap ∧ RowN w B a xs := by
  unfold OwnU at h
  have hc := fun g hg => h.cells (g := g) hg
  have hlt := h.lt
  rcases h.2 with ⟨rfl, h0⟩ | ⟨g, cap, cur, rfl, _⟩
  · have : xs = [] := List.eq_nil_of_length_eq_zero h0
    subst this
    exact ⟨_, _, rfl, .inl rfl, fun p hp => by cases hp⟩
  · refine ⟨_, _, rfl, .inr ⟨g, 0, rfl, (hlt g rfl).2, fun i hi => ?_⟩, fun p hp => by cases hp; exact (hlt g rfl).1⟩
    have := hc g rfl i (.int .u64 (wd (xs.getD i 0))) (by simp [List.getD, List.getElem?_eq_getElem hi])
    rw [Nat.zero_add]
    cases i with
    | zero => exact this
    | succ i => simpa [Addr.add] using this
theorem cellU_new (w : World) (a : Value) (t : TypeId) : ∀ j u, [a][j]? = some u → (w.alloc (.cells #[a] t)).cell? ((⟨w.heap.size, 0, none⟩ : Addr).add j) = some u := by
  intro j u hj
  match j, hj with
  | 0, hj => simp at hj; subst hj; simp [Addr.add]
  | j + 1, hj => simp at hj
theorem oneU (x : Int) : ∀ u ∈ [Value.int .u64 x], u.oneCell' = true := by intro u hu; simp at hu; subst hu; rfl
/-- block b is a row of n words, F of the place, that may be written -/
def BlkU (w : World) (b n : Nat) (F : Nat → Nat) : Prop := w.rowIs b 28 n (fun i => .int .u64 ((F i : Nat) : Int))
theorem BlkU.cell {w : World} {b n : Nat} {F : Nat → Nat} (h : BlkU w b n F) {i : Nat} (hi : i < n) : w.cell? ⟨b, i, none⟩ = some (.int .u64 ((F i : Nat) : Int)) := World.rowIs.cell h hi
theorem BlkU.frozen {w : World} {b n : Nat} {F : Nat → Nat} (h : BlkU w b n F) (i : Nat) : w.frozen? ⟨b, i, none⟩ = false := World.rowIs.frozen h i
theorem BlkU.lt {w : World} {b n : Nat} {F : Nat → Nat} (h : BlkU w b n F) : b < w.heap.size := World.rowIs.lt h
theorem BlkU.congr {w : World} {b n : Nat} {F G : Nat → Nat} (h : BlkU w b n F) (e : ∀ i, i < n → F i = G i) : BlkU w b n G := World.rowIs.congr h (fun i hi => by rw [e i hi])
theorem BlkU.set {w : World} {b n : Nat} {F : Nat → Nat} (h : BlkU w b n F) (i x : Nat) : BlkU (w.setCell ⟨b, i, none⟩ (.int .u64 (x : Int))) b n (fun j => if j = i then x else F j) :=
  World.rowIs.congr (World.rowIs.set h i (.int .u64 (x : Int))) (fun j _ => by dsimp only; split <;> rfl)
theorem BlkU.drew {w : World} {b n : Nat} {F : Nat → Nat} (h : BlkU w b n F) : BlkU w.drew b n F := World.rowIs.drew h
theorem BlkU.made (w : World) (n : Nat) : BlkU (w.alloc (.cells (madeCells #[.int .u64 0] n) 28)) w.heap.size n (fun _ => 0) := World.rowIs_made w (.int .u64 0) n 28
theorem make_words (n : Nat) (h : n * 8 ≤ 140737488355328) (w : World) : (Instr.makeSlice 130 (.int .i64 (n : Int)) (.int .i64 (n : Int))).run Tryz.prog w = .ok (.slice (some ⟨w.heap.size, 0, none⟩) n n) (w.alloc (.cells (madeCells #[.int .u64 0] n) 28)) :=
  run_make_row' 130 28 (.int .u64 0) 8 Tryz.underlying130 infoU rfl .i64 .i64 n (by omega) (by omega) w
/-- what a text's words are, at the places of a block -/
theorem BlkU.words {w : World} {b : Nat} {l : List UInt8} (h : BlkU w b (l.length / 8 + 1) (Tg.wn l)) : RowU w (some ⟨b, 0, none⟩) (Tg.words l) := by
  refine .inr ⟨b, 0, rfl, h.lt, fun i hi => ?_⟩
  rw [Tg.words_length] at hi
  rw [Nat.zero_add, h.cell hi, List.getD_eq_getElem?_getD, Tg.words_get l i hi]
  show _ = some (Value.int .u64 (wd (BitVec.ofNat 64 (Tg.wn l i))))
  rw [wd_of _ (Tg.wn_lt l i)]
theorem take_eq_succ {l m : List Tg.W} {k : Nat} {x : Tg.W} (h : l.take k = m.take k) (hx : l[k]? = some x) (hy : m[k]? = some x) : l.take (k + 1) = m.take (k + 1) := by
  obtain ⟨h1, e1⟩ := List.getElem?_eq_some_iff.1 hx
  obtain ⟨h2, e2⟩ := List.getElem?_eq_some_iff.1 hy
  rw [List.take_succ_eq_append_getElem h1, List.take_succ_eq_append_getElem h2, h, e1, e2]
end Go.Proofs.YtandlmnbnjkklaaGreatDoor
namespace Go.Proofs.YtandlmnbnjkklaaGreatDoor
open Go.RowKit

theorem byte_at (s : ByteArray) (k : Nat) (h : k < s.size) : (s.data.toList.getD k 0) = s[k] := by
  rw [List.getD_eq_getElem?_getD, Array.getElem?_toList, Array.getElem?_eq_getElem (by simpa using h)]; rfl
theorem len_list (s : ByteArray) : s.data.toList.length = s.size := by rw [Array.length_toList]; rfl
theorem shift_num (c : Nat) (r : Nat) (hc : c < 256) (hr : r < 8) : IntKind.u64.wrap ((c : Int) * 2 ^ (8 * r)) = ((c * 256 ^ r : Nat) : Int) := by
  have e : (256 : Nat) ^ r = 2 ^ (8 * r) := by rw [Nat.pow_mul]
  have h1 : c * 2 ^ (8 * r) < 18446744073709551616 := by
    have a : 2 ^ (8 * r) ≤ 2 ^ 56 := Nat.pow_le_pow_right (by decide) (by omega)
    have b : c * 2 ^ (8 * r) ≤ 255 * 2 ^ 56 := Nat.mul_le_mul (by omega) a
    exact Nat.lt_of_le_of_lt b (by decide)
  rw [IntKind.wrap_u64, e, show ((c : Int) * 2 ^ (8 * r)) = ((c * 2 ^ (8 * r) : Nat) : Int) by rw [Int.natCast_mul, Int.natCast_pow]; rfl]
  generalize c * 2 ^ (8 * r) = X at *
  omega
theorem shift_byte (c : Nat) (r : Nat) (hc : c < 256) (hr : r < 8) : Op.shift .shl .u64 (c : Int) .i64 ((8 * r : Nat) : Int) = pure (.int .u64 ((c * 256 ^ r : Nat) : Int)) := by
  rw [shift_shl_any _ _ _ _ (by omega), Int.toNat_natCast]
  rw [show min (8 * r) IntKind.u64.bits = 8 * r from Nat.min_eq_left (by show 8 * r ≤ 64; omega)]
  rw [shift_num c r hc hr]
theorem or_part (P c r : Nat) (hP : P < 256 ^ r) (hc : c < 256) (hr : r < 8) : bits .or .u64 (P : Int) ((c * 256 ^ r : Nat) : Int) = ((P + c * 256 ^ r : Nat) : Int) := by
  have e : (256 : Nat) ^ r = 2 ^ (8 * r) := by rw [Nat.pow_mul]
  have a : 256 ^ r ≤ 256 ^ 7 := Nat.pow_le_pow_right (by decide) (by omega)
  have b : c * 256 ^ r ≤ 255 * 256 ^ 7 := Nat.mul_le_mul (by omega) a
  have d : (255 : Nat) * 256 ^ 7 < 18446744073709551616 := by decide
  have f : (256 : Nat) ^ 7 < 18446744073709551616 := by decide
  rw [bits_or_u64_nat _ _ (by omega) (by omega)]
  have := nat_join (8 * r) (c * 256 ^ r) P (by rw [e]; exact Nat.mul_mod_left _ _) (by rw [← e]; exact hP)
  rw [Nat.or_comm, this, Nat.add_comm]
theorem part_min (l : List UInt8) (k : Nat) : Tg.part l (k / 8) (min 8 (k - 8 * (k / 8))) = Tg.part l (k / 8) (k % 8) := by
  congr 1; omega
/-- the words behind one byte more -/
theorem part_next (l : List UInt8) (k j : Nat) : (if j = k / 8 then Tg.part l (k / 8) (k % 8) + (l.getD k 0).toNat * 256 ^ (k % 8) else Tg.part l j (min 8 (k - 8 * j))) = Tg.part l j (min 8 (k + 1 - 8 * j)) := by
  by_cases c : j = k / 8
  · subst c
    rw [if_pos rfl, show min 8 (k + 1 - 8 * (k / 8)) = k % 8 + 1 by omega]
    show _ = Tg.part l (k / 8) (k % 8) + (l.getD (8 * (k / 8) + k % 8) 0).toNat * 256 ^ (k % 8)
    rw [show 8 * (k / 8) + k % 8 = k by omega]
  · rw [if_neg c]
    congr 1
    omega
theorem part_last (l : List UInt8) (j : Nat) (h : j < l.length / 8 + 1) : (if j = l.length / 8 then Tg.part l (l.length / 8) (l.length % 8) + l.length % 256 * 256 ^ 7 else Tg.part l j (min 8 (l.length - 8 * j))) = Tg.wn l j := by
  unfold Tg.wn
  by_cases c : j = l.length / 8
  · subst c
    rw [if_pos rfl, if_neg (by omega)]
    unfold Tg.lst
    rw [Tg.part_zero l (l.length / 8) (l.length % 8) 7 (by omega) (by omega)]
  · rw [if_neg c, if_pos (by omega)]
    congr 1
    omega
set_option maxRecDepth 100000 in
set_option maxHeartbeats 2000000 in
theorem words_any (s : ByteArray) (w : World) (hs : s.size ≤ 140737488351232) :
    Calls Tryz.prog 92 #[.string s] w fun e w' => ∃ a cap, e = .returned (.slice a (Tg.words s.data.toList).length cap) ∧ RowN w' w.heap.size a (Tg.words s.data.toList) ∧ Below w.heap.size w w' := by
  rw [Tg.words_length, len_list]
  have hlen := len_list s
  have Hlen : Hid (s.data.toList.length = s.size) := hlen
  clear hlen
  obtain ⟨Q, hQ⟩ : ∃ Q, s.size / 8 = Q := ⟨_, rfl⟩
  have HQ : Hid (s.size / 8 = Q) := hQ
  have hQz : (s.size : Int) / 8 = (Q : Int) := by omega
  have hQ8 : 8 * Q ≤ s.size := by omega
  have hmk := make_words (Q + 1) (by omega)
  have hcast : ((Q + 1 : Nat) : Int) = (Q : Int) + 1 := by omega
  rw [hcast] at hmk
  rw [hQ]
  clear hcast hQ
  go_enter Tryz.func92, Tryz.ntmps92
  go_wp2
  go_loopw [4, 12] (fun _ iv wr => ∃ k : Nat, k ≤ s.size ∧ iv = .int .i64 k ∧ BlkU wr w.heap.size (Q + 1) (fun j => Tg.part s.data.toList j (min 8 (k - 8 * j))) ∧ Below w.heap.size w wr) (fun _ iv _ => s.size - (intOf iv).toNat)
  case atStart => exact ⟨0, Nat.zero_le _, rfl, (BlkU.made w (Q + 1)).congr (fun i _ => by simp [Tg.part]), below_box _ _⟩
  case round =>
    obtain ⟨k, hk, rfl, R, Bw⟩ := hrel
    have HR : Hid (BlkU wr w.heap.size (Q + 1) (fun j => Tg.part s.data.toList j (min 8 (k - 8 * j)))) := R
    have HB : Hid (Below w.heap.size w wr) := Bw
    clear Bw
    by_cases hlt : k < s.size
    · have hjQ : k / 8 < Q + 1 := by have := HQ.out; omega
      have c1 := R.cell hjQ
      have f1 := R.frozen (k / 8)
      rw [part_min] at c1
      have hby := byte_at s k hlt
      have hP : Tg.part s.data.toList (k / 8) (k % 8) < 256 ^ (k % 8) := Tg.part_lt _ _ _
      have hc : s[k].toNat < 256 := UInt8.toNat_lt _
      have hsh := shift_byte s[k].toNat (k % 8) hc (by omega)
      have hsn := shift_num s[k].toNat (k % 8) hc (by omega)
      have hor := or_part _ s[k].toNat (k % 8) hP hc (by omega)
      have hq64 : 8 * (k % 8) ≤ 64 := by omega
      have HN : Hid (∀ Y, Y = Tg.part s.data.toList (k / 8) (k % 8) + s[k].toNat * 256 ^ (k % 8) → ∀ j, j < Q + 1 → (if j = k / 8 then Y else Tg.part s.data.toList j (min 8 (k - 8 * j))) = Tg.part s.data.toList j (min 8 (k + 1 - 8 * j))) := by
        intro Y hY j _
        rw [← part_next s.data.toList k j, hby, hY]
      have e1 : (k : Int) / 8 = ((k / 8 : Nat) : Int) := by omega
      have e2 : (k : Int) % 8 * 8 = ((8 * (k % 8) : Nat) : Int) := by omega
      have hjz : ((k / 8 : Nat) : Int) < (Q : Int) + 1 := by omega
      have hkz : (k : Int) < (s.size : Int) := by omega
      clear hP hby R
      generalize Tg.part s.data.toList (k / 8) (k % 8) + s[k].toNat * 256 ^ (k % 8) = Y at hor HN
      generalize Tg.part s.data.toList (k / 8) (k % 8) = P at c1 hor
      generalize s[k].toNat * 256 ^ (k % 8) = X at hsh hor hsn
      generalize k / 8 = j at e1 hjz c1 f1 HN
      generalize 8 * (k % 8) = q at e2 hsh hsn hq64
      clear hjQ
      go_upto_region 5 with fail
      go_big_region
      go_wp2
      go_roundw
      case rel => exact ⟨k + 1, by omega, by go_num, BlkU.drew ((HR.out.set _ _).congr (HN.out _ rfl)), (HB.out.setCell (p := ⟨w.heap.size, _, none⟩) (Nat.le_refl _) _).drew⟩
      case measure => simp [intOf]; omega
    · obtain rfl : k = s.size := by omega
      have hjQ : s.size / 8 < Q + 1 := by have := HQ.out; omega
      have c1 := R.cell hjQ
      have f1 := R.frozen (s.size / 8)
      rw [part_min] at c1
      have hP : Tg.part s.data.toList (s.size / 8) (s.size % 8) < 256 ^ 7 := Nat.lt_of_lt_of_le (Tg.part_lt _ _ _) (Nat.pow_le_pow_right (by decide) (by omega))
      have hor := or_part _ (s.size % 256) 7 hP (Nat.mod_lt _ (by decide)) (by decide)
      have hsh : Op.shift .shl .u64 ((s.size % 256 : Nat) : Int) .u64 56 = pure (.int .u64 ((s.size % 256 * 256 ^ 7 : Nat) : Int)) := by
        have := shift_byte (s.size % 256) 7 (Nat.mod_lt _ (by decide)) (by decide)
        rw [shift_shl_any _ _ _ _ (by omega)] at this ⊢
        exact this
      have HN : Hid (∀ Y, Y = Tg.part s.data.toList (s.size / 8) (s.size % 8) + s.size % 256 * 256 ^ 7 → ∀ j, j < Q + 1 → (if j = s.size / 8 then Y else Tg.part s.data.toList j (min 8 (s.size - 8 * j))) = Tg.wn s.data.toList j) := by
        intro Y hY j hj
        have := part_last s.data.toList j (by rw [Hlen.out, HQ.out]; exact hj)
        rw [Hlen.out] at this
        rw [← this, hY]
      have e3 : (s.size : Int) % 256 = ((s.size % 256 : Nat) : Int) := by omega
      have hT : s.size % 256 < 256 := Nat.mod_lt _ (by decide)
      clear hP R
      generalize Tg.part s.data.toList (s.size / 8) (s.size % 8) + s.size % 256 * 256 ^ 7 = Y at hor HN
      generalize Tg.part s.data.toList (s.size / 8) (s.size % 8) = P at c1 hor
      generalize s.size % 256 * 256 ^ 7 = X at hsh hor
      generalize s.size % 256 = T at e3 hsh hT
      rw [HQ.out] at c1 f1
      have HN' : Hid (∀ j, j < Q + 1 → (if j = Q then Y else Tg.part s.data.toList j (min 8 (s.size - 8 * j))) = Tg.wn s.data.toList j) := by
        have := HN.out _ rfl
        rw [HQ.out] at this
        exact this
      clear HN hjQ
      go_wp2
      go_ret
      refine ⟨_, _, rfl, ?_, HB.out.setCell (p := ⟨w.heap.size, _, none⟩) (Nat.le_refl _) _⟩
      refine ⟨BlkU.words ?_, fun p hp => by cases hp; exact Nat.le_refl _⟩
      rw [Hlen.out, HQ.out]
      exact (HR.out.set Q Y).congr HN'.out
end Go.Proofs.YtandlmnbnjkklaaGreatDoor
