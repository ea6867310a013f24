/- Texts by their bytes; slices of small numbers that lie there; the text of such a slice. The walk of rings of keys: a text sealed by an epoch. The walks of the document's rings: the bytes of a word, a text sealed by an epoch. The walks of rings of keys: a text sealed with the last key. Where the functions of the standard library that the program calls lie in this dump, so that what is proved of them once can be used here. Made by shelf.py. -/
import Derived.Test.YtandlmnbnjkklaaGreatDoorBaseToAppAll
import Derived.Laws.BytesArg
import Derived.Test.YtandlmnbnjkklaaGreatDoorGRef3ToRSl
import Derived.Test.YtandlmnbnjkklaaGreatDoorRAd
import Derived.Shelf.SlGeneric
import Derived.Shelf.SlicesE.Clone
import Derived.Ground.SlgnProg
import Derived.Shelf.Strconv.Clone
import Derived.Ground.NamesProg
import Derived.Test.YtandlmnbnjkklaaGreatDoorProg
namespace Go.Proofs.YtandlmnbnjkklaaGreatDoor
open Go.RowKit

/-- A slice of small numbers that lies there. -/
def RowB (w : World) (a : Option Addr) (l : List Nat) : Prop :=
  l = [] ∨ ∃ b off, a = some ⟨b, off, none⟩ ∧ b < w.heap.size ∧ ∀ i : Nat, i < l.length → w.cell? ⟨b, off + i, none⟩ = some (.int .u8 ((l.getD i 0 : Nat) : Int))
theorem RowB.at {w : World} {a : Option Addr} {l : List Nat} (hr : RowB w a l) {k : Nat} (hlt : k < l.length) :
    ∃ b off x, a = some ⟨b, off, none⟩ ∧ b < w.heap.size ∧ l[k]? = some x ∧ w.cell? ⟨b, off + k, none⟩ = some (.int .u8 (x : Int)) := by
  rcases hr with rfl | ⟨b, off, rfl, hb, hc⟩
  · simp at hlt
  exact ⟨b, off, _, rfl, hb, by simp [List.getD, List.getElem?_eq_getElem hlt], hc k hlt⟩
theorem RowB.below {w w' : World} {a : Option Addr} {l : List Nat} (h : RowB w a l) (hb : Below w.heap.size w w') : RowB w' a l := by
  rcases h with h | ⟨b, off, rfl, hlt, hc⟩
  · exact .inl h
  · exact .inr ⟨b, off, rfl, Nat.lt_of_lt_of_le hlt hb.size, fun i hi => (hb.cell (p := ⟨b, _, none⟩) hlt).trans (hc i hi)⟩
theorem list_len (s : ByteArray) : s.data.toList.length = s.size := by rw [Array.length_toList]; rfl
theorem text_ex (l : List Nat) (N : Nat) (hN : l.length = N) (a : Option Addr) (cap : Nat) (w : World) (hr : RowB w a l) (ha : l = [] → a = none ∨ ∃ b off, a = some ⟨b, off, none⟩) :
    (convert 115 9 (.slice a N cap)).run Tryz.prog w = .ok (.string ⟨(l.map UInt8.ofNat).toArray⟩) w := by
  have key : ∀ b off, (∀ i : Nat, i < l.length → w.cell? ⟨b, off + i, none⟩ = some (.int .u8 ((l.getD i 0 : Nat) : Int))) → (convert 115 9 (.slice (some ⟨b, off, none⟩) N cap)).run Tryz.prog w = .ok (.string ⟨(l.map UInt8.ofNat).toArray⟩) w := by
    intro b off hc
    rw [run_convert_bytes_arg w 115 5 Tryz.underlying115 Tryz.underlying5 b off N cap (l.map fun (n : Nat) => (n : Int)) (by simpa using hN) (fun i hi => by
      rw [← hN] at hi
      rw [hc i hi]
      simp [List.getD, List.getElem?_map, List.getElem?_eq_getElem hi]) 9 Tryz.underlying9]
    unfold strOfNums
    rw [List.map_map]
    rfl
  rcases hr with rfl | ⟨b, off, rfl, _, hc⟩
  · rcases ha rfl with rfl | ⟨b, off, rfl⟩
    · rw [run_convert_bytes_nil w 115 5 Tryz.underlying115 Tryz.underlying5 N cap 9 Tryz.underlying9]
      rfl
    · exact key b off (fun i hi => by simp at hi)
  · exact key b off hc
/-- a text by its bytes -/
def bx (l : List UInt8) : ByteArray := ⟨l.toArray⟩
theorem bx_size (l : List UInt8) : (bx l).size = l.length := by unfold bx; simp [ByteArray.size]
theorem bx_list (l : List UInt8) : (bx l).data.toList = l := by unfold bx; simp
theorem bx_of (s : ByteArray) : bx s.data.toList = s := by unfold bx; cases s; simp
theorem bx_add (x y : List UInt8) (h : x.length + y.length ≤ 9223372036854775807) (w : World) : (Op.stringOp .add (bx x) (bx y)).run Tryz.prog w = .ok (.string (bx (x ++ y))) w := by
  have e := run_string_add_sum (P := Tryz.prog) w (bx x) (bx y) (by rw [bx_size, bx_size]; exact h)
  refine e.trans ?_
  congr 2
end Go.Proofs.YtandlmnbnjkklaaGreatDoor
namespace Go.Proofs.YtandlmnbnjkklaaGreatDoor
open Go.RowKit

theorem ret_bx {a b : List UInt8} (h : a = b) : Ending.returned (.string (bx a)) = .returned (.string (bx b)) := by rw [h]
theorem Rg.le8 (x : Tg.W) : Rg.leN x 8 = ([Rg.by' x 0, Rg.by' x 1, Rg.by' x 2, Rg.by' x 3, Rg.by' x 4, Rg.by' x 5, Rg.by' x 6, Rg.by' x 7] : List Nat).map UInt8.ofNat := by rw [Rg.leN_by]; rfl
set_option maxRecDepth 100000 in
set_option maxHeartbeats 2000000 in
theorem sealed_any (no : Nat) (A B : Tg.W) (s : List UInt8) (w : World) (hno : no < 256) (hs : s.length ≤ 111) :
    Calls Tryz.prog 62 #[.agg #[.int .i64 (no : Int), .int .u64 (wd A), .int .u64 (wd B)], .string (bx s)] w fun e w' => e = .returned (.string (bx (Rg.sl no A B s))) ∧ Below w.heap.size w w' := by
  have q : (no : Int) % 256 = (no : Int) := by omega
  have HB0 : Hid (Below w.heap.size w ((w.alloc (.cells #[.int .i64 (no : Int), .int .u64 (wd A), .int .u64 (wd B)] 52)).alloc (.cells #[.int .u8 (no : Int)] 5))) := (below_box w _).alloc (by simp) _
  have hcv := text_ex [no] 1 rfl (some ⟨w.heap.size + 1, 0, none⟩) 1 ((w.alloc (.cells #[.int .i64 (no : Int), .int .u64 (wd A), .int .u64 (wd B)] 52)).alloc (.cells #[.int .u8 (no : Int)] 5)) (.inr ⟨_, 0, rfl, by simp, fun i hi => by
    obtain rfl : i = 0 := by simp at hi; exact hi
    simp⟩) (fun h => by cases h)
  have hb : (⟨([no].map UInt8.ofNat).toArray⟩ : ByteArray) = bx [UInt8.ofNat no] := rfl
  rw [hb] at hcv
  clear hb
  have hadd := bx_add [UInt8.ofNat no] s (by simp; omega)
  have HU : Hid (Rg.sl no A B s = [UInt8.ofNat no] ++ s ++ Rg.leN (Tg.of A B ([UInt8.ofNat no] ++ s)) 8) := rfl
  have hul : ([UInt8.ofNat no] ++ s).length ≤ 112 := by simp; omega
  generalize [UInt8.ofNat no] ++ s = U at *
  generalize [UInt8.ofNat no] = V at *
  have hof := fun W => of_any A B (bx U) W (by rw [bx_size]; omega)
  rw [bx_list] at hof
  generalize Tg.of A B U = T at *
  have HOF : Hid (_) := hof
  have hadd2 := bx_add U (Rg.leN T 8) (by rw [Rg.leN_length]; omega)
  clear hof
  go_enter Tryz.func62, Tryz.ntmps62
  go_wp2_with fail
  refine (HOF.out _).mono ?_; rintro e w1 ⟨rfl, hb1⟩
  have B1 : Hid (Below w.heap.size w w1) := below_on HB0.out (Nat.le_refl _) hb1
  clear hb1 HB0 hcv hadd
  go_wp2_with fail
  refine (bytesOf_any T _).mono ?_; rintro e w2 ⟨rfl, hb2⟩
  have B2 : Hid (Below w.heap.size w w2) := below_on B1.out (Nat.le_refl _) hb2
  clear hb2 B1
  have hx : ∀ t', (convert 115 9 (.slice (some ⟨w2.heap.size, 0, none⟩) 8 8)).run Tryz.prog (w2.alloc (.cells #[.int .u8 (Rg.by' T 0 : Nat), .int .u8 (Rg.by' T 1 : Nat), .int .u8 (Rg.by' T 2 : Nat), .int .u8 (Rg.by' T 3 : Nat), .int .u8 (Rg.by' T 4 : Nat), .int .u8 (Rg.by' T 5 : Nat), .int .u8 (Rg.by' T 6 : Nat), .int .u8 (Rg.by' T 7 : Nat)] t')) = .ok (.string (bx (Rg.leN T 8))) (w2.alloc (.cells #[.int .u8 (Rg.by' T 0 : Nat), .int .u8 (Rg.by' T 1 : Nat), .int .u8 (Rg.by' T 2 : Nat), .int .u8 (Rg.by' T 3 : Nat), .int .u8 (Rg.by' T 4 : Nat), .int .u8 (Rg.by' T 5 : Nat), .int .u8 (Rg.by' T 6 : Nat), .int .u8 (Rg.by' T 7 : Nat)] t')) := by
    intro t'
    rw [text_ex [Rg.by' T 0, Rg.by' T 1, Rg.by' T 2, Rg.by' T 3, Rg.by' T 4, Rg.by' T 5, Rg.by' T 6, Rg.by' T 7] 8 rfl (some ⟨w2.heap.size, 0, none⟩) 8 _ (.inr ⟨_, 0, rfl, by simp, fun i hi => by
      match i, hi with
      | 0, _ => simp
      | 1, _ => simp
      | 2, _ => simp
      | 3, _ => simp
      | 4, _ => simp
      | 5, _ => simp
      | 6, _ => simp
      | 7, _ => simp⟩) (fun h => by cases h), Rg.le8]
    rfl
  have hx' := hx 116
  have hB3 : Hid (Below w.heap.size w (w2.alloc (.cells #[.int .u8 (Rg.by' T 0 : Nat), .int .u8 (Rg.by' T 1 : Nat), .int .u8 (Rg.by' T 2 : Nat), .int .u8 (Rg.by' T 3 : Nat), .int .u8 (Rg.by' T 4 : Nat), .int .u8 (Rg.by' T 5 : Nat), .int .u8 (Rg.by' T 6 : Nat), .int .u8 (Rg.by' T 7 : Nat)] 116))) := B2.out.alloc B2.out.size _
  clear hx
  go_wp2
  go_ret
  exact ⟨ret_bx HU.out.symm, hB3.out⟩
end Go.Proofs.YtandlmnbnjkklaaGreatDoor
namespace Go.Proofs.YtandlmnbnjkklaaGreatDoor
open Go.RowKit

end Go.Proofs.YtandlmnbnjkklaaGreatDoor
namespace Go.Proofs.YtandlmnbnjkklaaGreatDoor
open Go.RowKit

theorem Rg.last_ep {l : List Rg.Ep} (h : Rg.chk l = 0) {m : Nat} (hl : l.length = m + 1) : ∃ (no : Nat) (A B : Tg.W), l[m]? = some (((no : Nat) : Int), A, B) ∧ no < 256 ∧ l.getLast? = some (((no : Nat) : Int), A, B) := by
  obtain ⟨e, hx⟩ : ∃ e, l[m]? = some e := ⟨_, List.getElem?_eq_getElem (by omega)⟩
  have hu := Rg.up_mem l 0 ((Rg.chk_iff l).1 h).2 e (List.mem_of_getElem? hx)
  have he : e = (((e.1.toNat : Nat) : Int), e.2.1, e.2.2) := by rw [Int.toNat_of_nonneg (by omega)]
  refine ⟨e.1.toNat, e.2.1, e.2.2, by rw [← he, hx], by omega, ?_⟩
  rw [List.getLast?_eq_getElem?, hl, show m + 1 - 1 = m by omega, ← he, hx]
def Rg.seaV (l : List Rg.Ep) (s : List UInt8) : Value := .tuple #[.string (bx (Rg.sea l s).1), .int .i64 (Rg.sea l s).2]
theorem Rg.seaV_of {l : List Rg.Ep} {s x : List UInt8} {c : Int} (h : Rg.sea l s = (x, c)) : Ending.returned (.tuple #[.string (bx x), .int .i64 c]) = .returned (Rg.seaV l s) := by unfold Rg.seaV; rw [h]
theorem bx_nil : (⟨#[]⟩ : ByteArray) = bx [] := rfl
set_option maxRecDepth 100000 in
set_option maxHeartbeats 2000000 in
theorem seal_any (l : List Rg.Ep) (a : Option Addr) (cap : Nat) (s : List UInt8) (w : World) (hl : l.length ≤ maxLen) (hs : s.length ≤ 140737488351232) (hr : Row3 w a l) :
    Calls Tryz.prog 40 #[.slice a l.length cap, .string (bx s)] w fun e w' => e = .returned (Rg.seaV l s) ∧ Below w.heap.size w w' := by
  have HR : Hid (Row3 w a l) := hr
  have hck := check_any l a cap w hl hr
  have hsz := bx_size s
  clear hr
  by_cases hc : Rg.chk l = 0
  · have HCZ : Hid (Rg.chk l = 0) := hc
    have h8 : l.length ≤ 8 := ((Rg.chk_iff l).1 hc).1
    rw [hc] at hck
    clear hc hl
    obtain ⟨n, hLn⟩ : ∃ n, l.length = n := ⟨_, rfl⟩
    have HLn : Hid (l.length = n) := hLn
    rw [hLn] at hck h8 ⊢
    clear hLn
    cases n with
    | zero =>
      have HE : Hid (Rg.sea l s = ([], 5)) := by
        have : l = [] := List.eq_nil_of_length_eq_zero HLn.out
        subst this
        rfl
      go_enter Tryz.func40, Tryz.ntmps40
      go_wp2_with fail
      refine hck.mono ?_; rintro e w1 ⟨rfl, hb1⟩
      have HB1 : Hid (Below w.heap.size w w1) := hb1
      clear hb1 hck
      go_wp2
      go_ret2
      exact ⟨Rg.seaV_of HE.out, HB1.out⟩
    | succ m =>
      obtain ⟨no, A, B, hx, hno, hla⟩ := Rg.last_ep HCZ.out HLn.out
      by_cases hs2 : 111 < s.length
      · have HE : Hid (Rg.sea l s = ([], 2)) := by
          show _ = _
          unfold Rg.sea
          rw [if_neg (by rw [HCZ.out]; omega), hla]
          simp only
          rw [if_pos hs2]
        clear hla hx
        go_enter Tryz.func40, Tryz.ntmps40
        go_wp2_with fail
        refine hck.mono ?_; rintro e w1 ⟨rfl, hb1⟩
        have HB1 : Hid (Below w.heap.size w w1) := hb1
        clear hb1 hck
        go_wp2
        go_ret2
        exact ⟨Rg.seaV_of HE.out, HB1.out⟩
      · have HE : Hid (Rg.sea l s = (Rg.sl no A B s, 0)) := by
          show _ = _
          unfold Rg.sea
          rw [if_neg (by rw [HCZ.out]; omega), hla]
          simp only
          rw [if_neg hs2]
          rfl
        have hs3 : s.length ≤ 111 := by omega
        have hse := fun W => sealed_any no A B s W hno hs3
        have HSE : Hid (_) := hse
        clear hla hse
        go_enter Tryz.func40, Tryz.ntmps40
        go_wp2_with fail
        refine hck.mono ?_; rintro e w1 ⟨rfl, hb1⟩
        obtain ⟨b, off, n', A', B', rfl, hbs, hx', c1, c2, c3⟩ := (HR.out.below hb1).at (k := m) (by rw [HLn.out]; omega)
        rw [hx] at hx'
        injection hx' with hx'
        injection hx' with e1 e2
        injection e2 with e2 e3
        subst e1 e2 e3
        have HB1 : Hid (Below w.heap.size w w1) := hb1
        clear hb1 hck hx
        go_wp2_with fail
        refine (HSE.out _).mono ?_; rintro e w2 ⟨rfl, hb2⟩
        have HB2 : Hid (Below w.heap.size w w2) := below_on HB1.out (Nat.le_refl _) hb2
        clear hb2 HSE
        go_wp2
        go_ret2
        exact ⟨Rg.seaV_of HE.out, HB2.out⟩
  · have HE : Hid (Rg.sea l s = ([], Rg.chk l)) := by show _ = _; unfold Rg.sea; rw [if_pos hc]
    generalize Rg.chk l = C at *
    have hc' : (C != 0) = true := by simpa using hc
    go_enter Tryz.func40, Tryz.ntmps40
    go_wp2_with fail
    refine hck.mono ?_; rintro e w1 ⟨rfl, hb1⟩
    have HB1 : Hid (Below w.heap.size w w1) := hb1
    clear hb1 hck
    go_wp2
    go_ret2
    exact ⟨Rg.seaV_of HE.out, HB1.out⟩
end Go.Proofs.YtandlmnbnjkklaaGreatDoor
namespace Go.Proofs
open Go.Shelf
def Tryz.lclo_ren : Go.Shelf.Ren := ⟨fun | 41 => 28 | n => n, fun | 22 => 27 | 23 => 52 | 4 => 4 | n => n, fun | n => n⟩
theorem Tryz.lclo : Go.Proofs.SlLaysE0.n41 Tryz.prog Tryz.lclo_ren := {
  mixed := by kernel_rfl
  f41 := ⟨Tryz.f28.name, by decide, Tryz.func28.trans (congrArg some (by kernel_rfl))⟩
  t4 := Tryz.underlying4
  a4 := Tryz.isAgg4
  z4 := Tryz.sizeOf4
  v4 := Tryz.zeroValue4
  t22 := Tryz.underlying27
  a22 := Tryz.isAgg27
  z22 := Tryz.sizeOf27
  v22 := Tryz.zeroValue27 }
def Tryz.lscl_ren : Go.Shelf.Ren := ⟨fun | 316 => 80 | n => n, fun | 9 => 9 | 3 => 3 | 4 => 4 | 37 => 115 | 0 => 0 | 127 => 134 | 5 => 5 | n => n, fun | n => n⟩
theorem Tryz.lscl : Go.Proofs.LaysM.n316 Tryz.prog Tryz.lscl_ren := {
  mixed := by kernel_rfl
  f316 := Tryz.func80.trans (congrArg some (by kernel_rfl))
  t0 := Tryz.underlying0
  a0 := Tryz.isAgg0
  z0 := Tryz.sizeOf0
  v0 := Tryz.zeroValue0
  t3 := Tryz.underlying3
  a3 := Tryz.isAgg3
  z3 := Tryz.sizeOf3
  v3 := Tryz.zeroValue3
  t4 := Tryz.underlying4
  a4 := Tryz.isAgg4
  z4 := Tryz.sizeOf4
  v4 := Tryz.zeroValue4
  t9 := Tryz.underlying9
  a9 := Tryz.isAgg9
  z9 := Tryz.sizeOf9
  v9 := Tryz.zeroValue9
  t37 := Tryz.underlying115
  a37 := Tryz.isAgg115
  z37 := Tryz.sizeOf115
  v37 := Tryz.zeroValue115
  t127 := Tryz.underlying134
  a127 := Tryz.isAgg134
  z127 := Tryz.sizeOf134
  v127 := Tryz.zeroValue134
  t5 := Tryz.underlying5
  a5 := Tryz.isAgg5
  z5 := Tryz.sizeOf5
  v5 := Tryz.zeroValue5
  i0 := by kernel_rfl
  i3 := by kernel_rfl
  i4 := by kernel_rfl
  i5 := by kernel_rfl
  i9 := by kernel_rfl
  i37 := by kernel_rfl
  i127 := by kernel_rfl }
end Go.Proofs
