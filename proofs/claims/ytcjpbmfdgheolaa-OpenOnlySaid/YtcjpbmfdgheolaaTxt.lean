/- Texts by their bytes; slices of small numbers that lie there; the text of such a slice. -/
import Derived.Test.YtcjpbmfdgheolaaBase
import Derived.Laws.BytesArg
namespace Go.Proofs.Ytcjpbmfdgheolaa
open Go.RowKit

/-- A slice of small numbers that lies there. -/
def RowB (w : World) (a : Option Addr) (l : List Nat) : Prop :=
  l = [] ∨ ∃ b off, a = some ⟨b, off, none⟩ ∧ b < w.heap.size ∧ ∀ i : Nat, i < l.length → w.cell? ⟨b, off + i, none⟩ = some (.int .u8 ((l.getD i 0 : Nat) : Int))
theorem RowB.at {w : World} {a : Option Addr} {l : List Nat} (hr : RowB w a l) {k : Nat} (hlt : k < l.length) :
    ∃ b off x, a = some ⟨b, off, none⟩ ∧ b < w.heap.size ∧ l[k]? = some x ∧ w.cell? ⟨b, off + k, none⟩ = some (.int .u8 (x : Int)) := by
  rcases hr with rfl | ⟨b, off, rfl, hb, hc⟩
  · simp at hlt
  exact ⟨b, off, _, rfl, hb, by simp [List.getD, List.getElem?_eq_getElem hlt], hc k hlt⟩
theorem RowB.below {w w' : World} {a : Option Addr} {l : List Nat} (h : RowB w a l) (hb : Below w.heap.size w w') : RowB w' a l := by
  rcases h with h | ⟨b, off, rfl, hlt, hc⟩
  · exact .inl h
  · exact .inr ⟨b, off, rfl, Nat.lt_of_lt_of_le hlt hb.size, fun i hi => (hb.cell (p := ⟨b, _, none⟩) hlt).trans (hc i hi)⟩
theorem list_len (s : ByteArray) : s.data.toList.length = s.size := by rw [Array.length_toList]; rfl
theorem text_ex (l : List Nat) (N : Nat) (hN : l.length = N) (a : Option Addr) (cap : Nat) (w : World) (hr : RowB w a l) (ha : l = [] → a = none ∨ ∃ b off, a = some ⟨b, off, none⟩) :
    (convert 56 9 (.slice a N cap)).run Try.prog w = .ok (.string ⟨(l.map UInt8.ofNat).toArray⟩) w := by
  have key : ∀ b off, (∀ i : Nat, i < l.length → w.cell? ⟨b, off + i, none⟩ = some (.int .u8 ((l.getD i 0 : Nat) : Int))) → (convert 56 9 (.slice (some ⟨b, off, none⟩) N cap)).run Try.prog w = .ok (.string ⟨(l.map UInt8.ofNat).toArray⟩) w := by
    intro b off hc
    rw [run_convert_bytes_arg w 56 5 Try.underlying56 Try.underlying5 b off N cap (l.map fun (n : Nat) => (n : Int)) (by simpa using hN) (fun i hi => by
      rw [← hN] at hi
      rw [hc i hi]
      simp [List.getD, List.getElem?_map, List.getElem?_eq_getElem hi]) 9 Try.underlying9]
    unfold strOfNums
    rw [List.map_map]
    rfl
  rcases hr with rfl | ⟨b, off, rfl, _, hc⟩
  · rcases ha rfl with rfl | ⟨b, off, rfl⟩
    · rw [run_convert_bytes_nil w 56 5 Try.underlying56 Try.underlying5 N cap 9 Try.underlying9]
      rfl
    · exact key b off (fun i hi => by simp at hi)
  · exact key b off hc
/-- a text by its bytes -/
def bx (l : List UInt8) : ByteArray := ⟨l.toArray⟩
theorem bx_size (l : List UInt8) : (bx l).size = l.length := by unfold bx; simp [ByteArray.size]
theorem bx_list (l : List UInt8) : (bx l).data.toList = l := by unfold bx; simp
theorem bx_of (s : ByteArray) : bx s.data.toList = s := by unfold bx; cases s; simp
theorem bx_add (x y : List UInt8) (h : x.length + y.length ≤ 9223372036854775807) (w : World) : (Op.stringOp .add (bx x) (bx y)).run Try.prog w = .ok (.string (bx (x ++ y))) w := by
  have e := run_string_add_sum (P := Try.prog) w (bx x) (bx y) (by rw [bx_size, bx_size]; exact h)
  refine e.trans ?_
  congr 2
set_option maxRecDepth 100000 in
theorem one_any (n : Nat) (hn : n < 256) (w : World) : Calls Try.prog 34 #[.int .i64 (n : Int)] w fun e w' => e = .returned (.string (bx [UInt8.ofNat n])) ∧ Below w.heap.size w w' := by
  have q : (n : Int) % 256 = (n : Int) := by omega
  have hcv := text_ex [n] 1 rfl (some ⟨w.heap.size, 0, none⟩) 1 (w.alloc (.cells #[.int .u8 (n : Int)] 5)) (.inr ⟨_, 0, rfl, by simp, fun i hi => by
    obtain rfl : i = 0 := by simp at hi; exact hi
    simp⟩) (fun h => by cases h)
  have hb : (⟨([n].map UInt8.ofNat).toArray⟩ : ByteArray) = bx [UInt8.ofNat n] := rfl
  rw [hb] at hcv
  clear hb
  go_enter Try.func34, Try.ntmps34
  go_wp2
  go_ret
  exact ⟨rfl, (Below.refl _ w).alloc (Nat.le_refl _) _⟩
end Go.Proofs.Ytcjpbmfdgheolaa
