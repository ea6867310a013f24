/- The walks over rings that are only read, further: the place of an epoch; are two rings one. -/
import Derived.Test.YtcjpbmfdgheolaaRWk
import Derived.Shelf.Abstract
namespace Go.Proofs.Ytcjpbmfdgheolaa
open Go.RowKit

theorem isEp (no n : Int) (A B : Tg.W) (b : Nat) (w : World) (hb : b < w.heap.size) (hc : w.cell? ⟨b, 0, none⟩ = some (.int .i64 no)) :
    Calls Try.prog 29 #[.agg #[.int .i64 n, .int .u64 (wd A), .int .u64 (wd B)], .pointer (some ⟨b, 0, none⟩)] w fun e w' => e = .returned (.bool (decide (n = no))) ∧ Below w.heap.size w w' := by
  have hne : b ≠ w.heap.size := by omega
  by_cases h : n = no
  · subst h
    go_enter Try.func29, Try.ntmps29
    go_wp2
    go_ret
    exact ⟨ret_bool (by simp), below_box w _⟩
  · have h' : (n == no) = false := by simpa using h
    go_enter Try.func29, Try.ntmps29
    go_wp2
    go_ret
    exact ⟨ret_bool (by simp [h]), below_box w _⟩
def Rg.plc (no : Int) (l : List Rg.Ep) : Int := match Rg.find no l with
  | none => -1
  | some p => (p.1 : Int)
set_option maxRecDepth 100000 in
set_option maxHeartbeats 1000000 in
theorem index_any (l : List Rg.Ep) (a : Option Addr) (cap : Nat) (no : Int) (b : Nat) (w : World) (hl : l.length ≤ maxLen) (hr : Row3 w a l) (hbl : b < w.heap.size) (hc : w.cell? ⟨b, 0, none⟩ = some (.int .i64 no)) :
    Calls Try.prog 28 #[.slice a l.length cap, .func (.func 29) #[] #[.pointer (some ⟨b, 0, none⟩)]] w fun e w' => e = .returned (.int .i64 (Rg.plc no l)) ∧ Below w.heap.size w w' := by
  unfold maxLen at hl
  have eg : ∀ args w, (callFunc 29 args).run Try.prog w = .ok (.enter 29 args) w := enters_of Try.func29 (by kernel_rfl) rfl
  have HR : Hid (Row3 w a l) := hr
  have HC : Hid (w.cell? ⟨b, 0, none⟩ = some (.int .i64 no)) := hc
  clear hr hc
  go_enter Try.func28, Try.ntmps28
  go_wp2
  go_loopw [5, 8] (fun _ i wr => ∃ (k : Nat), k ≤ l.length ∧ i = .int .i64 k ∧ (∀ j, j < k → ∀ e, l[j]? = some e → e.1 ≠ no) ∧ Below w.heap.size w wr) (fun _ i _ => l.length - (intOf i).toNat)
  case atStart => exact ⟨0, Nat.zero_le _, rfl, fun j hj => by omega, Below.refl _ _⟩
  case round =>
    obtain ⟨k, hk, rfl, hm, hb⟩ := hrel
    have HM : Hid (∀ j, j < k → ∀ e, l[j]? = some e → e.1 ≠ no) := hm
    have HB : Hid (Below w.heap.size w wr) := hb
    clear hm
    by_cases hlt : k < l.length
    · have hlt' : (k : Int) < (l.length : Int) := by omega
      obtain ⟨b', off, n, A, B, rfl, hbs, hx, c1, c2, c3⟩ := (HR.out.below hb).at hlt
      have HX : Hid (l[k]? = some (n, A, B)) := hx
      have hcl := isEp no n A B b wr (Nat.lt_of_lt_of_le hbl hb.size) ((hb.cell (p := ⟨b, 0, none⟩) hbl).trans HC.out)
      clear hx hb
      by_cases h1 : n = no
      · have HE : Hid ((k : Int) = Rg.plc no l) := by show _ = _; unfold Rg.plc; rw [Rg.find_is l no k (A, B) (by rw [← h1]; exact HX.out) HM.out]
        rw [show decide (n = no) = true by simpa using h1] at hcl
        clear h1
        go_wp2_with (go_at_fn 29; refine hcl.mono ?_; rintro e w3 ⟨rfl, hb3⟩; have HB3 : Hid (Below wr.heap.size wr w3) := hb3; clear hb3)
        go_ret
        exact ⟨ret_int HE.out, below_on HB.out (Nat.le_refl _) HB3.out⟩
      · have HE : Hid (∀ j, j < k + 1 → ∀ e, l[j]? = some e → e.1 ≠ no) := by
          intro j hj e he
          by_cases c : j = k
          · subst c; rw [HX.out] at he; cases he; exact h1
          · exact HM.out j (by omega) e he
        rw [show decide (n = no) = false by simpa using h1] at hcl
        clear h1
        go_wp2_with (go_at_fn 29; refine hcl.mono ?_; rintro e w3 ⟨rfl, hb3⟩; have HB3 : Hid (Below wr.heap.size wr w3) := hb3; clear hb3)
        go_roundw
        case rel => exact ⟨k + 1, by omega, by go_num, HE.out, below_on HB.out (Nat.le_refl _) HB3.out⟩
        case measure => simp [intOf]; omega
    · have HE : Hid (-1 = Rg.plc no l) := by
        show _ = _
        unfold Rg.plc
        rw [(Rg.find_none l no).2 fun e he => by
          obtain ⟨j, hj, he⟩ := List.getElem_of_mem he
          exact HM.out j (by omega) e (by rw [List.getElem?_eq_getElem hj, he])]
      go_wp2
      go_ret
      exact ⟨ret_int HE.out, HB.out⟩
set_option maxHeartbeats 1000000 in
theorem place_any (l : List Rg.Ep) (a : Option Addr) (cap : Nat) (no : Int) (w : World) (hl : l.length ≤ maxLen) (hr : Row3 w a l) :
    Calls Try.prog 22 #[.slice a l.length cap, .int .i64 no] w fun e w' => e = .returned (.int .i64 (Rg.plc no l)) ∧ Below w.heap.size w w' := by
  have hi := index_any l a cap no w.heap.size (w.alloc (.cells #[.int .i64 no] 3)) hl (hr.below (below_box w _)) (by simp) (by simp)
  have HB : Hid (Below w.heap.size w (w.alloc (.cells #[.int .i64 no] 3))) := below_box w _
  clear hr
  go_enter Try.func22, Try.ntmps22
  go_wp2_with (go_at_call 28; refine hi.mono ?_; rintro e w3 ⟨rfl, hb3⟩; have HB3 : Hid (Below _ _ w3) := hb3; clear hb3)
  go_ret
  exact ⟨rfl, below_on HB.out (Nat.le_refl _) HB3.out⟩
theorem Rg.plc_none {no : Int} {l : List Rg.Ep} (h : Rg.find no l = none) : Rg.plc no l = -1 := by unfold Rg.plc; rw [h]
theorem Rg.plc_some {no : Int} {l : List Rg.Ep} {p : Nat × Tg.W × Tg.W} (h : Rg.find no l = some p) : Rg.plc no l = (p.1 : Int) := by unfold Rg.plc; rw [h]
end Go.Proofs.Ytcjpbmfdgheolaa
