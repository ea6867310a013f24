/- Walks over slices of whole numbers: read, and built by append. -/
import Derived.Test.YtandlmnbnjkklaaDoorBaseToRow1
import Derived.Test.YtandlmnbnjkklaaDoorRow2
namespace Go.Proofs.YtandlmnbnjkklaaDoor
open Go.RowKit

namespace Spn
def insStep (n : Int) (s : List Int × Bool) (x : Int) : List Int × Bool :=
  ((if s.2 = false ∧ n ≤ x then s.1 ++ [n] else s.1) ++ (if x = n then [] else [x]), s.2 || decide (n ≤ x))
def insAt (l : List Int) (n : Int) (k : Nat) : List Int × Bool := (l.take k).foldl (insStep n) ([], false)
/-- a rising list with a number, once -/
def ins (l : List Int) (n : Int) : List Int := if (insAt l n l.length).2 = true then (insAt l n l.length).1 else (insAt l n l.length).1 ++ [n]
theorem insAt_succ (l : List Int) (n : Int) (k : Nat) (x : Int) (h : l[k]? = some x) : insAt l n (k + 1) = insStep n (insAt l n k) x := by
  unfold insAt; rw [List.take_add_one, h, List.foldl_append]; rfl
theorem insStep_len (n : Int) (s : List Int × Bool) (x : Int) : (insStep n s x).1.length ≤ s.1.length + 2 := by
  unfold insStep; split <;> split <;> simp
theorem insAt_len (l : List Int) (n : Int) : ∀ k, (insAt l n k).1.length ≤ 2 * k
  | 0 => by simp [insAt]
  | k + 1 => by
    have ih := insAt_len l n k
    cases h : l[k]? with
    | none =>
      have : insAt l n (k + 1) = insAt l n k := by unfold insAt; rw [List.take_add_one, h]; simp
      rw [this]; omega
    | some x =>
      rw [insAt_succ l n k x h]
      have := insStep_len n (insAt l n k) x; omega
end Spn
set_option maxHeartbeats 1000000 in
theorem withInt_any (l : List Int) (a : Option Addr) (cap : Nat) (n : Int) (w : World) (hl : l.length ≤ 100000) (hr : Row1 w a l) :
    Calls Tryd.prog 77 #[.slice a l.length cap, .int .i64 n] w fun e w' => ∃ v, e = .returned v ∧ OwnI w' w.heap.size v (Spn.ins l n) ∧ Below w.heap.size w w' := by
  obtain ⟨i0, hi, hz0, hz1, hz2⟩ := info_parts infoInt
  go_enter Tryd.func77, Tryd.ntmps77
  go_wp2
  go_loopw [5, 6, 7] (fun v dn i wr => ∃ k : Nat, k ≤ l.length ∧ i = .int .i64 k ∧ dn = .bool (Spn.insAt l n k).2 ∧ OwnI wr w.heap.size v (Spn.insAt l n k).1 ∧ Below w.heap.size w wr) (fun _ _ i _ => l.length - (intOf i).toNat)
  case atStart => exact ⟨0, Nat.zero_le _, rfl, rfl, OwnI.nil _ _, Below.refl _ _⟩
  case round =>
    obtain ⟨k, hk, rfl, rfl, hown, hnx⟩ := hrel
    have hlen := Spn.insAt_len l n k
    by_cases hlt : k < l.length
    · obtain ⟨b, off, x, rfl, hb, hx, c1⟩ := hr.at hlt
      have c1r : wr.cell? ⟨b, off + k, none⟩ = some (.int .i64 x) := (hnx.cell (p := ⟨b, off + k, none⟩) hb).trans c1
      have hlt' : (k : Int) < (l.length : Int) := by omega
      have hS := Spn.insAt_succ l n k x hx
      have HS : Hid (Spn.insAt l n (k + 1) = Spn.insStep n (Spn.insAt l n k) x) := hS
      have hsz : w.heap.size ≤ wr.heap.size := hnx.size
      clear hS hx
      obtain ⟨out, dn, hD⟩ : ∃ out dn, Spn.insAt l n k = (out, dn) := ⟨_, _, rfl⟩
      rw [hD] at hown hlen HS ⊢
      clear hD
      dsimp only at hown hlen ⊢
      have HL : Hid (out.length ≤ 2 * k) := hlen
      cases dn with
      | true =>
        by_cases hxn : x = n
        · have HE : Hid (Spn.insAt l n (k + 1) = (out, true)) := by unfold Hid; rw [HS.out]; simp [Spn.insStep, hxn]
          have hxn' : (x != n) = false := by simpa using hxn
          go_wp2
          go_roundw
          case rel => exact ⟨k + 1, by omega, by go_num, by rw [HE.out], by rw [HE.out]; exact hown, hnx⟩
          case measure => simp [intOf]; omega
        · have HE : Hid (Spn.insAt l n (k + 1) = (out ++ [x], true)) := by unfold Hid; rw [HS.out]; simp [Spn.insStep, hxn]
          have hxn' : (x != n) = true := by simpa using hxn
          go_wp2_with (at_builtin; refine wpList_append_own _ rfl (.tmp 34) (.tmp 39) 73 rfl w.heap.size 3 i0 (.int .i64 0) 1 8 Tryd.underlying73 hi hz0 hz1 hz2 rfl (by decide) _ _ _ rfl (World.ownsRow.alloc hown _) ⟨wr.heap.size, 0, none⟩ 1 1 [.int .i64 x] rfl rfl (cell1_new _ _ _) (one1 _) (by unfold maxLen; omega) (by omega) (by first | omega | (simp; omega)) ?_; intro v1 w1 own1 grow1 _)
          have R := OwnI.keep hsz hown hnx own1 grow1
          clear own1 grow1 hown
          go_wp2
          go_roundw
          case rel => exact ⟨k + 1, by omega, by go_num, by rw [HE.out], by rw [HE.out]; exact R.1, R.2⟩
          case measure => simp [intOf]; omega
      | false =>
        by_cases hnx1 : n ≤ x
        · by_cases hxn : x = n
          · have HE : Hid (Spn.insAt l n (k + 1) = (out ++ [n], true)) := by unfold Hid; rw [HS.out]; simp [Spn.insStep, hxn]
            have hxn' : (x != n) = false := by simpa using hxn
            have HC : Hid (w.cell? ⟨b, off + k, none⟩ = some (.int .i64 x)) := c1
            clear c1
            go_wp2_with (at_builtin; refine wpList_append_own _ rfl (.tmp 24) (.tmp 26) 73 rfl w.heap.size 3 i0 (.int .i64 0) 1 8 Tryd.underlying73 hi hz0 hz1 hz2 rfl (by decide) _ _ _ rfl (World.ownsRow.alloc hown _) ⟨wr.heap.size, 0, none⟩ 1 1 [.int .i64 n] rfl rfl (cell1_new _ _ _) (one1 _) (by unfold maxLen; omega) (by omega) (by first | omega | (simp; omega)) ?_; intro v1 w1 own1 grow1 _; have R := OwnI.keep hsz hown hnx own1 grow1; clear own1 grow1 hown; have c2 := (R.2.cell (p := ⟨b, off + k, none⟩) hb).trans HC.out)
            go_roundw
            case rel => exact ⟨k + 1, by omega, by go_num, by rw [HE.out], by rw [HE.out]; exact R.1, R.2⟩
            case measure => simp [intOf]; omega
          · have HE : Hid (Spn.insAt l n (k + 1) = (out ++ [n] ++ [x], true)) := by unfold Hid; rw [HS.out]; simp [Spn.insStep, hxn, hnx1]
            have hxn' : (x != n) = true := by simpa using hxn
            have HC : Hid (w.cell? ⟨b, off + k, none⟩ = some (.int .i64 x)) := c1
            clear c1
            have hlen1 : (out ++ [n]).length ≤ 2 * k + 1 := by simp; omega
            go_wp2_with (first
              | (at_builtin; refine wpList_append_own _ rfl (.tmp 24) (.tmp 26) 73 rfl w.heap.size 3 i0 (.int .i64 0) 1 8 Tryd.underlying73 hi hz0 hz1 hz2 rfl (by decide) _ _ _ rfl (World.ownsRow.alloc hown _) ⟨wr.heap.size, 0, none⟩ 1 1 [.int .i64 n] rfl rfl (cell1_new _ _ _) (one1 _) (by unfold maxLen; omega) (by omega) (by first | omega | (simp; omega)) ?_; intro v1 w1 own1 grow1 _; have R := OwnI.keep hsz hown hnx own1 grow1; clear own1 grow1 hown; have c2 := (R.2.cell (p := ⟨b, off + k, none⟩) hb).trans HC.out; have hsz1 := R.2.size)
              | (at_builtin; refine wpList_append_own _ rfl (.tmp 34) (.tmp 39) 73 rfl w.heap.size 3 i0 (.int .i64 0) 1 8 Tryd.underlying73 hi hz0 hz1 hz2 rfl (by decide) _ _ _ rfl (World.ownsRow.alloc R.1 _) ⟨w1.heap.size, 0, none⟩ 1 1 [.int .i64 x] rfl rfl (cell1_new _ _ _) (one1 _) (by unfold maxLen; omega) (by omega) (by first | omega | (simp; omega)) ?_; intro v2 w2 own2 grow2 _))
            have R2 := OwnI.keep hsz1 R.1 R.2 own2 grow2
            clear own2 grow2
            go_roundw
            case rel => exact ⟨k + 1, by omega, by go_num, by rw [HE.out], by rw [HE.out]; exact R2.1, R2.2⟩
            case measure => simp [intOf]; omega
        · have hxn : ¬ x = n := by omega
          have HE : Hid (Spn.insAt l n (k + 1) = (out ++ [x], false)) := by unfold Hid; rw [HS.out]; simp [Spn.insStep, hxn, hnx1]
          have hxn' : (x != n) = true := by simpa using hxn
          have hnx2 : decide (n ≤ x) = false := by simpa using hnx1
          go_wp2_with (at_builtin; refine wpList_append_own _ rfl (.tmp 34) (.tmp 39) 73 rfl w.heap.size 3 i0 (.int .i64 0) 1 8 Tryd.underlying73 hi hz0 hz1 hz2 rfl (by decide) _ _ _ rfl (World.ownsRow.alloc hown _) ⟨wr.heap.size, 0, none⟩ 1 1 [.int .i64 x] rfl rfl (cell1_new _ _ _) (one1 _) (by unfold maxLen; omega) (by omega) (by first | omega | (simp; omega)) ?_; intro v1 w1 own1 grow1 _)
          have R := OwnI.keep hsz hown hnx own1 grow1
          clear own1 grow1 hown
          go_wp2
          go_roundw
          case rel => exact ⟨k + 1, by omega, by go_num, by rw [HE.out], by rw [HE.out]; exact R.1, R.2⟩
          case measure => simp [intOf]; omega
    · obtain rfl : k = l.length := by omega
      have hsz : w.heap.size ≤ wr.heap.size := hnx.size
      cases hD : (Spn.insAt l n l.length).2 with
      | true =>
        have HE : Hid (Spn.ins l n = (Spn.insAt l n l.length).1) := by unfold Hid Spn.ins; rw [if_pos hD]
        go_wp2
        go_ret
        exact ⟨_, rfl, by rw [HE.out]; exact hown, hnx⟩
      | false =>
        have HE : Hid (Spn.ins l n = (Spn.insAt l n l.length).1 ++ [n]) := by unfold Hid Spn.ins; rw [if_neg (by rw [hD]; decide)]
        go_wp2_with (at_builtin; refine wpList_append_own _ rfl (.tmp 43) (.tmp 45) 73 rfl w.heap.size 3 i0 (.int .i64 0) 1 8 Tryd.underlying73 hi hz0 hz1 hz2 rfl (by decide) _ _ _ rfl (World.ownsRow.alloc hown _) ⟨wr.heap.size, 0, none⟩ 1 1 [.int .i64 n] rfl rfl (cell1_new _ _ _) (one1 _) (by unfold maxLen; omega) (by omega) (by first | omega | (simp; omega)) ?_; intro v1 w1 own1 grow1 _)
        have R := OwnI.keep hsz hown hnx own1 grow1
        clear own1 grow1 hown
        go_wp2
        go_ret
        exact ⟨_, rfl, by rw [HE.out]; exact R.1, R.2⟩
end Go.Proofs.YtandlmnbnjkklaaDoor
