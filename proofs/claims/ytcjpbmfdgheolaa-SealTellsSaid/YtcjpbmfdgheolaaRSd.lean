/- The walk of rings of keys: a text sealed by an epoch. -/
import Derived.Test.YtcjpbmfdgheolaaRSl
import Derived.Test.YtcjpbmfdgheolaaTxt
namespace Go.Proofs.Ytcjpbmfdgheolaa
open Go.RowKit

theorem ret_bx {a b : List UInt8} (h : a = b) : Ending.returned (.string (bx a)) = .returned (.string (bx b)) := by rw [h]
theorem Rg.le8 (x : Tg.W) : Rg.leN x 8 = ([Rg.by' x 0, Rg.by' x 1, Rg.by' x 2, Rg.by' x 3, Rg.by' x 4, Rg.by' x 5, Rg.by' x 6, Rg.by' x 7] : List Nat).map UInt8.ofNat := by rw [Rg.leN_by]; rfl
set_option maxRecDepth 100000 in
set_option maxHeartbeats 2000000 in
theorem sealed_any (no : Nat) (A B : Tg.W) (s : List UInt8) (w : World) (hno : no < 256) (hs : s.length ≤ 111) :
    Calls Try.prog 25 #[.agg #[.int .i64 (no : Int), .int .u64 (wd A), .int .u64 (wd B)], .string (bx s)] w fun e w' => e = .returned (.string (bx (Rg.sl no A B s))) ∧ Below w.heap.size w w' := by
  have q : (no : Int) % 256 = (no : Int) := by omega
  have HB0 : Hid (Below w.heap.size w ((w.alloc (.cells #[.int .i64 (no : Int), .int .u64 (wd A), .int .u64 (wd B)] 40)).alloc (.cells #[.int .u8 (no : Int)] 5))) := (below_box w _).alloc (by simp) _
  have hcv := text_ex [no] 1 rfl (some ⟨w.heap.size + 1, 0, none⟩) 1 ((w.alloc (.cells #[.int .i64 (no : Int), .int .u64 (wd A), .int .u64 (wd B)] 40)).alloc (.cells #[.int .u8 (no : Int)] 5)) (.inr ⟨_, 0, rfl, by simp, fun i hi => by
    obtain rfl : i = 0 := by simp at hi; exact hi
    simp⟩) (fun h => by cases h)
  have hb : (⟨([no].map UInt8.ofNat).toArray⟩ : ByteArray) = bx [UInt8.ofNat no] := rfl
  rw [hb] at hcv
  clear hb
  have hadd := bx_add [UInt8.ofNat no] s (by simp; omega)
  have HU : Hid (Rg.sl no A B s = [UInt8.ofNat no] ++ s ++ Rg.leN (Tg.of A B ([UInt8.ofNat no] ++ s)) 8) := rfl
  have hul : ([UInt8.ofNat no] ++ s).length ≤ 112 := by simp; omega
  generalize [UInt8.ofNat no] ++ s = U at *
  generalize [UInt8.ofNat no] = V at *
  have hof := fun W => of_any A B (bx U) W (by rw [bx_size]; omega)
  rw [bx_list] at hof
  generalize Tg.of A B U = T at *
  have HOF : Hid (_) := hof
  have hadd2 := bx_add U (Rg.leN T 8) (by rw [Rg.leN_length]; omega)
  clear hof
  go_enter Try.func25, Try.ntmps25
  go_wp2_with fail
  refine (HOF.out _).mono ?_; rintro e w1 ⟨rfl, hb1⟩
  have B1 : Hid (Below w.heap.size w w1) := below_on HB0.out (Nat.le_refl _) hb1
  clear hb1 HB0 hcv hadd
  go_wp2_with fail
  refine (bytesOf_any T _).mono ?_; rintro e w2 ⟨rfl, hb2⟩
  have B2 : Hid (Below w.heap.size w w2) := below_on B1.out (Nat.le_refl _) hb2
  clear hb2 B1
  have hx : ∀ t', (convert 56 9 (.slice (some ⟨w2.heap.size, 0, none⟩) 8 8)).run Try.prog (w2.alloc (.cells #[.int .u8 (Rg.by' T 0 : Nat), .int .u8 (Rg.by' T 1 : Nat), .int .u8 (Rg.by' T 2 : Nat), .int .u8 (Rg.by' T 3 : Nat), .int .u8 (Rg.by' T 4 : Nat), .int .u8 (Rg.by' T 5 : Nat), .int .u8 (Rg.by' T 6 : Nat), .int .u8 (Rg.by' T 7 : Nat)] t')) = .ok (.string (bx (Rg.leN T 8))) (w2.alloc (.cells #[.int .u8 (Rg.by' T 0 : Nat), .int .u8 (Rg.by' T 1 : Nat), .int .u8 (Rg.by' T 2 : Nat), .int .u8 (Rg.by' T 3 : Nat), .int .u8 (Rg.by' T 4 : Nat), .int .u8 (Rg.by' T 5 : Nat), .int .u8 (Rg.by' T 6 : Nat), .int .u8 (Rg.by' T 7 : Nat)] t')) := by
    intro t'
    rw [text_ex [Rg.by' T 0, Rg.by' T 1, Rg.by' T 2, Rg.by' T 3, Rg.by' T 4, Rg.by' T 5, Rg.by' T 6, Rg.by' T 7] 8 rfl (some ⟨w2.heap.size, 0, none⟩) 8 _ (.inr ⟨_, 0, rfl, by simp, fun i hi => by
      match i, hi with
      | 0, _ => simp
      | 1, _ => simp
      | 2, _ => simp
      | 3, _ => simp
      | 4, _ => simp
      | 5, _ => simp
      | 6, _ => simp
      | 7, _ => simp⟩) (fun h => by cases h), Rg.le8]
    rfl
  have hx' := hx 57
  have hB3 : Hid (Below w.heap.size w (w2.alloc (.cells #[.int .u8 (Rg.by' T 0 : Nat), .int .u8 (Rg.by' T 1 : Nat), .int .u8 (Rg.by' T 2 : Nat), .int .u8 (Rg.by' T 3 : Nat), .int .u8 (Rg.by' T 4 : Nat), .int .u8 (Rg.by' T 5 : Nat), .int .u8 (Rg.by' T 6 : Nat), .int .u8 (Rg.by' T 7 : Nat)] 57))) := B2.out.alloc B2.out.size _
  clear hx
  go_wp2
  go_ret
  exact ⟨ret_bx HU.out.symm, hB3.out⟩
end Go.Proofs.Ytcjpbmfdgheolaa
