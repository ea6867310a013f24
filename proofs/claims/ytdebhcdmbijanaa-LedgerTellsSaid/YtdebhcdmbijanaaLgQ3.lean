/- The program's place of a posting by its id; its look over a ledger. -/
import Derived.Test.YtdebhcdmbijanaaLgQ2
import Derived.Test.YtdebhcdmbijanaaLgW6
import Derived.Shelf.Abstract
namespace Go.Proofs.Ytdebhcdmbijanaa
open Go.RowKit Go.BigFrame

namespace Lg
def plcr (id : Int) : List Ps → Nat → Int
  | [], _ => -1
  | p :: r, k => if p.1 = id then (k : Int) else plcr id r (k + 1)
/-- the place of the first posting of an id, -1 where there is none -/
def plc (l : List Ps) (id : Int) : Int := plcr id l 0
def plat (l : List Ps) (id : Int) (k : Nat) : Int := plcr id (l.drop k) k
theorem plat_end (l : List Ps) (id : Int) : plat l id l.length = -1 := by unfold plat; rw [List.drop_length]; rfl
theorem plat_step (l : List Ps) (id : Int) (k : Nat) (p : Ps) (h : l[k]? = some p) : plat l id k = if p.1 = id then (k : Int) else plat l id (k + 1) := by
  unfold plat
  rw [drop_cons l k p h]
  rfl
theorem plcr_is (id : Int) : ∀ (l : List Ps) (k : Nat), (plcr id l k = -1 ∧ look l id = none ∧ hasI l id = false) ∨ ∃ (j : Nat) (ls : List Ln), plcr id l k = (k + j : Nat) ∧ l[j]? = some (id, ls) ∧ look l id = some (id, ls) ∧ hasI l id = true
  | [], k => .inl ⟨rfl, rfl, rfl⟩
  | p :: r, k => by
    by_cases h : p.1 = id
    · refine .inr ⟨0, p.2, ?_, ?_, ?_, ?_⟩
      · unfold plcr; rw [if_pos h]; rfl
      · subst h; rfl
      · unfold look; rw [List.find?_cons, decide_eq_true h]; subst h; rfl
      · unfold hasI; rw [List.any_cons, decide_eq_true h]; rfl
    · have e1 : plcr id (p :: r) k = plcr id r (k + 1) := by
        show (if p.1 = id then (k : Int) else plcr id r (k + 1)) = _
        rw [if_neg h]
      have e2 : look (p :: r) id = look r id := by unfold look; rw [List.find?_cons, decide_eq_false h]
      have e3 : hasI (p :: r) id = hasI r id := by unfold hasI; rw [List.any_cons, decide_eq_false h]; rfl
      rw [e1, e2, e3]
      rcases plcr_is id r (k + 1) with h1 | ⟨j, ls, h1, h2, h3, h4⟩
      · exact .inl h1
      · exact .inr ⟨j + 1, ls, by rw [h1]; congr 1; omega, by simpa using h2, h3, h4⟩
theorem plc_is (l : List Ps) (id : Int) : (plc l id = -1 ∧ look l id = none ∧ hasI l id = false) ∨ ∃ (j : Nat) (ls : List Ln), plc l id = j ∧ l[j]? = some (id, ls) ∧ look l id = some (id, ls) ∧ hasI l id = true := by
  rcases plcr_is id l 0 with h | ⟨j, ls, h1, h2⟩
  · exact .inl h
  · exact .inr ⟨j, ls, by unfold plc; rw [h1]; congr 1; omega, h2⟩
end Lg
theorem isPs (id n : Int) (v : Value) (b : Nat) (w : World) (hb : b < w.heap.size) (hc : w.cell? ⟨b, 0, none⟩ = some (.int .i64 id)) :
    Calls Try.prog 31 #[.agg #[.int .i64 n, v], .pointer (some ⟨b, 0, none⟩)] w fun e w' => e = .returned (.bool (decide (n = id))) ∧ Below w.heap.size w w' := by
  have hne : b ≠ w.heap.size := by omega
  by_cases h : n = id
  · subst h
    go_enter Try.func31, Try.ntmps31
    go_wp2
    go_ret
    exact ⟨ret_bool (by simp), below_box w _⟩
  · have h' : (n == id) = false := by simpa using h
    go_enter Try.func31, Try.ntmps31
    go_wp2
    go_ret
    exact ⟨ret_bool (by simp [h]), below_box w _⟩
set_option maxRecDepth 100000 in
set_option maxHeartbeats 1000000 in
theorem lindex_any (l : List Lg.Ps) (a : Option Addr) (cap : Nat) (id : Int) (b : Nat) (w : World) (hl : l.length ≤ maxLen) (hr : RowG w a l) (hbl : b < w.heap.size) (hc : w.cell? ⟨b, 0, none⟩ = some (.int .i64 id)) :
    Calls Try.prog 30 #[.slice a l.length cap, .func (.func 31) #[] #[.pointer (some ⟨b, 0, none⟩)]] w fun e w' => e = .returned (.int .i64 (Lg.plc l id)) ∧ Below w.heap.size w w' := by
  unfold maxLen at hl
  have eg : ∀ args w, (callFunc 31 args).run Try.prog w = .ok (.enter 31 args) w := enters_of Try.func31 (by kernel_rfl) rfl
  have HR : Hid (RowG w a l) := hr
  have HC : Hid (w.cell? ⟨b, 0, none⟩ = some (.int .i64 id)) := hc
  clear hr hc
  go_enter Try.func30, Try.ntmps30
  go_wp2
  go_loopw [5, 8] (fun _ i wr => ∃ (k : Nat), k ≤ l.length ∧ i = .int .i64 k ∧ Lg.plc l id = Lg.plat l id k ∧ Below w.heap.size w wr) (fun _ i _ => l.length - (intOf i).toNat)
  case atStart => exact ⟨0, Nat.zero_le _, rfl, rfl, Below.refl _ _⟩
  case round =>
    obtain ⟨k, hk, rfl, hm, hb⟩ := hrel
    have HM : Hid (Lg.plc l id = Lg.plat l id k) := hm
    have HB : Hid (Below w.heap.size w wr) := hb
    clear hm
    by_cases hlt : k < l.length
    · have hlt' : (k : Int) < (l.length : Int) := by omega
      obtain ⟨b', off, n, ls, la, lc, rfl, hbs, hx, c1, c2, -, -⟩ := (HR.out.below hb).at hlt
      have HS : Hid (_) := Lg.plat_step l id k (n, ls) hx
      have hcl := isPs id n (.slice la ls.length lc) b wr (Nat.lt_of_lt_of_le hbl hb.size) ((hb.cell (p := ⟨b, 0, none⟩) hbl).trans HC.out)
      clear hx hb
      by_cases h1 : n = id
      · have HE : Hid ((k : Int) = Lg.plc l id) := by show _ = _; rw [HM.out, HS.out, if_pos h1]
        rw [show decide (n = id) = true by simpa using h1] at hcl
        clear h1
        go_wp2_with (go_at_fn 31; refine hcl.mono ?_; rintro e w3 ⟨rfl, hb3⟩; have HB3 : Hid (Below wr.heap.size wr w3) := hb3; clear hb3)
        go_ret
        exact ⟨ret_int HE.out, below_on HB.out (Nat.le_refl _) HB3.out⟩
      · have HE : Hid (Lg.plc l id = Lg.plat l id (k + 1)) := by show _ = _; rw [HM.out, HS.out, if_neg h1]
        rw [show decide (n = id) = false by simpa using h1] at hcl
        clear h1
        go_wp2_with (go_at_fn 31; refine hcl.mono ?_; rintro e w3 ⟨rfl, hb3⟩; have HB3 : Hid (Below wr.heap.size wr w3) := hb3; clear hb3)
        go_roundw
        case rel => exact ⟨k + 1, by omega, by go_num, HE.out, below_on HB.out (Nat.le_refl _) HB3.out⟩
        case measure => simp [intOf]; omega
    · have HE : Hid (-1 = Lg.plc l id) := by
        have : k = l.length := by omega
        show _ = _; rw [HM.out, this]; exact (Lg.plat_end l id).symm
      go_wp2
      go_ret
      exact ⟨ret_int HE.out, HB.out⟩
set_option maxHeartbeats 1000000 in
theorem lfind_at (l : List Lg.Ps) (n : Nat) (K : Int) (a : Option Addr) (cap : Nat) (id : Int) (w : World) (hn : l.length = n) (hl : n ≤ maxLen) (hk : Lg.plc l id = K) (hr : RowG w a l) :
    Calls Try.prog 19 #[.slice a n cap, .int .i64 id] w fun e w' => e = .returned (.int .i64 K) ∧ Below w.heap.size w w' := by
  subst hn hk
  have hi := lindex_any l a cap id w.heap.size (w.alloc (.cells #[.int .i64 id] 3)) hl (hr.below (below_box w _)) (by simp) (by simp)
  have HB : Hid (Below w.heap.size w (w.alloc (.cells #[.int .i64 id] 3))) := below_box w _
  clear hr
  go_enter Try.func19, Try.ntmps19
  go_wp2_with (go_at_call 30; refine hi.mono ?_; rintro e w3 ⟨rfl, hb3⟩; have HB3 : Hid (Below _ _ w3) := hb3; clear hb3)
  go_ret
  exact ⟨rfl, below_on HB.out (Nat.le_refl _) HB3.out⟩
theorem RowG.take {w : World} {a : Option Addr} {l : List Lg.Ps} (h : RowG w a l) (k : Nat) : RowG w a (l.take k) := by
  obtain ⟨us, h1, h2⟩ := h
  refine ⟨us.take k, ⟨by simp [h1.1], fun i u p hu hp => ?_⟩, ?_⟩
  · have hi : i < k := by
      rcases Nat.lt_or_ge i k with c | c
      · exact c
      · rw [List.getElem?_eq_none (by simp; omega)] at hu; cases hu
    rw [List.getElem?_take_of_lt hi] at hu hp
    exact h1.2 i u p hu hp
  · rcases h2 with rfl | ⟨b, off, e, hlt, hc⟩
    · exact .inl (by simp)
    · refine .inr ⟨b, off, e, hlt, fun j v hj => hc j v ?_⟩
      have e2 : flatP us = flatP (us.take k) ++ flatP (us.drop k) := by rw [← flatP_append, List.take_append_drop]
      have hjl : j < (flatP (us.take k)).length := by
        rcases Nat.lt_or_ge j (flatP (us.take k)).length with c | c
        · exact c
        · rw [List.getElem?_eq_none c] at hj; cases hj
      rw [e2, List.getElem?_append_left hjl]
      exact hj
end Go.Proofs.Ytdebhcdmbijanaa
