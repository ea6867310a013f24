/- Slices of postings that lie there: their ids, and their lines' slices. The document's words on lines and postings: are two the same; the look over a posting. The document's words on ledgers: the look over one, are two the same, a balance. -/
import Derived.Test.YtandlmnbnjkklaaGreatDoorRSmToLRow
import Derived.Test.YtandlmnbnjkklaaGreatDoorLg2ToPen
import Derived.Deep.QuietTactic
import Derived.BigQuiet
namespace Go.Proofs.YtandlmnbnjkklaaGreatDoor
open Go.RowKit

theorem infoPs : (Tryz.prog.info? 34).map (fun i => (i.zero, i.size, i.bytes)) = some (some (.agg #[.int .i64 0, .slice none 0 0]), 2, 32) := by kernel_rfl
/-- a posting's cells -/
abbrev Pu := Int × Value
/-- two cells read as a posting -/
def RdP (w : World) (u : Pu) (p : Lg.Ps) : Prop := u.1 = p.1 ∧ ∃ la lc, u.2 = .slice la p.2.length lc ∧ p.2.length ≤ lc ∧ RowL w la p.2
theorem RdP.below {w w' : World} {u : Pu} {p : Lg.Ps} (h : RdP w u p) (hb : Below w.heap.size w w') : RdP w' u p := by
  obtain ⟨h1, la, lc, h2, h3, h4⟩ := h
  exact ⟨h1, la, lc, h2, h3, h4.below hb⟩
def flatP (us : List Pu) : List Value := us.flatMap fun u => [.int .i64 u.1, u.2]
theorem flatP_append (a b : List Pu) : flatP (a ++ b) = flatP a ++ flatP b := by unfold flatP; rw [List.flatMap_append]
theorem flatP_len : ∀ l : List Pu, (flatP l).length = l.length * 2
  | [] => rfl
  | s :: l => by
    have := flatP_len l
    unfold flatP at *
    rw [List.flatMap_cons, List.length_append, this, List.length_cons]; simp; omega
theorem flatP_at : ∀ (l : List Pu) (i : Nat) (s : Pu), l[i]? = some s → (flatP l)[i * 2]? = some (.int .i64 s.1) ∧ (flatP l)[i * 2 + 1]? = some s.2
  | [], i, s, h => by simp at h
  | t :: l, 0, s, h => by
    simp at h; subst h
    exact ⟨rfl, rfl⟩
  | t :: l, i + 1, s, h => by
    have := flatP_at l i s (by simpa using h)
    have e : flatP (t :: l) = [.int .i64 t.1, t.2] ++ flatP l := rfl
    have e1 : (i + 1) * 2 = i * 2 + 2 := by omega
    rw [e, e1]
    exact ⟨by simpa using this.1, by simpa [Nat.add_right_comm] using this.2⟩
/-- what the cells read as, each -/
def RdAll (w : World) (us : List Pu) (l : List Lg.Ps) : Prop := us.length = l.length ∧ ∀ (i : Nat) (u : Pu) (p : Lg.Ps), us[i]? = some u → l[i]? = some p → RdP w u p
theorem RdAll.below {w w' : World} {us : List Pu} {l : List Lg.Ps} (h : RdAll w us l) (hb : Below w.heap.size w w') : RdAll w' us l := ⟨h.1, fun i u p hu hp => (h.2 i u p hu hp).below hb⟩
theorem RdAll.nil (w : World) : RdAll w [] [] := ⟨rfl, fun i u p hu _ => by simp at hu⟩
theorem RdAll.snoc {w : World} {us : List Pu} {l : List Lg.Ps} (h : RdAll w us l) {u : Pu} {p : Lg.Ps} (hp : RdP w u p) : RdAll w (us ++ [u]) (l ++ [p]) := by
  refine ⟨by simp [h.1], fun i v q hv hq => ?_⟩
  rcases Nat.lt_or_ge i us.length with c | c
  · rw [List.getElem?_append_left c] at hv
    rw [List.getElem?_append_left (by have := h.1; omega)] at hq
    exact h.2 i v q hv hq
  · rw [List.getElem?_append_right c] at hv
    rw [List.getElem?_append_right (by have := h.1; omega)] at hq
    have h1 := h.1
    rw [← h1] at hq
    match hk : i - us.length, hv, hq with
    | 0, hv, hq => simp at hv hq; subst hv hq; exact hp
    | k + 1, hv, hq => simp at hv
theorem RdAll.cells {w : World} {us : List Pu} {l : List Lg.Ps} (h : RdAll w us l) : ∀ v ∈ flatP us, v.oneCell' = true := by
  intro v hv
  unfold flatP at hv
  rw [List.mem_flatMap] at hv
  obtain ⟨u, hu, hv⟩ := hv
  obtain ⟨i, hi, rfl⟩ := List.mem_iff_getElem.1 hu
  have hil : i < l.length := by have := h.1; omega
  obtain ⟨_, la, lc, e, _, _⟩ := h.2 i _ _ (List.getElem?_eq_getElem hi) (List.getElem?_eq_getElem hil)
  simp at hv
  rcases hv with rfl | rfl
  · rfl
  · rw [e]; rfl
/-- A slice of postings that lies there. -/
def RowG (w : World) (a : Option Addr) (l : List Lg.Ps) : Prop :=
  ∃ us, RdAll w us l ∧ (l = [] ∨ ∃ b off, a = some ⟨b, off, none⟩ ∧ b < w.heap.size ∧ ∀ j v, (flatP us)[j]? = some v → w.cell? ⟨b, off + j, none⟩ = some v)
theorem RowG.nil (w : World) (a : Option Addr) : RowG w a [] := ⟨[], RdAll.nil w, .inl rfl⟩
theorem RowG.below {w w' : World} {a : Option Addr} {l : List Lg.Ps} (h : RowG w a l) (hb : Below w.heap.size w w') : RowG w' a l := by
  obtain ⟨us, h1, h2⟩ := h
  refine ⟨us, h1.below hb, ?_⟩
  rcases h2 with h2 | ⟨b, off, e, hlt, hc⟩
  · exact .inl h2
  · exact .inr ⟨b, off, e, Nat.lt_of_lt_of_le hlt hb.size, fun j v hj => (hb.cell (p := ⟨b, _, none⟩) hlt).trans (hc j v hj)⟩
theorem RowG.at {w : World} {a : Option Addr} {l : List Lg.Ps} (h : RowG w a l) {k : Nat} (hk : k < l.length) :
    ∃ b off id ls la lc, a = some ⟨b, off, none⟩ ∧ b < w.heap.size ∧ l[k]? = some (id, ls) ∧ w.cell? ⟨b, off + k * 2, none⟩ = some (.int .i64 id) ∧ w.cell? ⟨b, off + k * 2 + 1, none⟩ = some (.slice la ls.length lc) ∧ ls.length ≤ lc ∧ RowL w la ls := by
  obtain ⟨us, h1, h2⟩ := h
  rcases h2 with rfl | ⟨b, off, e, hlt, hc⟩
  · simp at hk
  have hu : k < us.length := by have := h1.1; omega
  have eu : us[k]? = some us[k] := List.getElem?_eq_getElem hu
  have ep : l[k]? = some l[k] := List.getElem?_eq_getElem hk
  obtain ⟨r1, la, lc, r2, r3, r4⟩ := h1.2 k _ _ eu ep
  obtain ⟨f1, f2⟩ := flatP_at us k _ eu
  have c1 := hc _ _ f1
  have c2 := hc _ _ f2
  rw [r1] at c1
  rw [r2] at c2
  exact ⟨b, off, l[k].1, l[k].2, la, lc, e, hlt, by rw [ep], c1, by rw [Nat.add_assoc]; exact c2, r3, r4⟩
/-- A slice of postings that the call has made. -/
def OwnG (w : World) (B : Nat) (v : Value) (us : List Pu) : Prop := w.ownsRow B 34 2 v us.length (flatP us)
theorem OwnG.row {w : World} {B : Nat} {v : Value} {us : List Pu} {l : List Lg.Ps} (h : OwnG w B v us) (hr : RdAll w us l) : ∃ a cap, v = .slice a l.length cap ∧ l.length ≤ cap ∧ (a = none → l = [] ∧ cap = 0) ∧ RowG w a l := by
  have hlt := World.ownsRow.lt h
  rcases h.2 with ⟨h1, h2⟩ | ⟨g, cap, cur, h1, h2, h3, h4, _⟩
  · have : us = [] := List.eq_nil_of_length_eq_zero h2
    subst this
    have hl : l = [] := List.eq_nil_of_length_eq_zero (by rw [← hr.1]; rfl)
    subst hl
    exact ⟨none, 0, h1, Nat.le_refl _, fun _ => ⟨rfl, rfl⟩, RowG.nil _ _⟩
  · refine ⟨some ⟨g, 0, none⟩, cap, by rw [h1, hr.1], by rw [← hr.1]; exact h4, (fun e => by cases e), us, hr, .inr ⟨g, 0, rfl, ?_, fun j v' hj => ?_⟩⟩
    · subst h1; exact (hlt g rfl).2
    · subst h1
      have hj2 : j < us.length * 2 := by
        rcases Nat.lt_or_ge j (us.length * 2) with c | c
        · exact c
        · rw [List.getElem?_eq_none (by rw [flatP_len]; exact c)] at hj; cases hj
      have := World.ownsRow.cellAt h j hj2
      rw [Nat.zero_add]
      exact this.trans hj
end Go.Proofs.YtandlmnbnjkklaaGreatDoor
namespace Go.Proofs.YtandlmnbnjkklaaGreatDoor
open Go.RowKit

theorem ext_takeL (l r : List Lg.Ln) (h : l.length = r.length) (k : Nat) (hk : l.length ≤ k) (e : l.take k = r.take k) : l = r := by
  rw [List.take_of_length_le hk, List.take_of_length_le (by omega)] at e; exact e
set_option maxHeartbeats 1000000 in
theorem sameLines_any (l r : List Lg.Ln) (a a' : Option Addr) (cap cap' : Nat) (w : World) (hl : l.length ≤ maxLen) (hl' : r.length ≤ maxLen) (hr : RowL w a l) (hr' : RowL w a' r) :
    Calls Tryz.prog 47 #[.slice a l.length cap, .slice a' r.length cap'] w fun e w' => e = .returned (.bool (decide (l = r))) ∧ ∃ m, w' = w.drewN m := by
  unfold maxLen at hl hl'
  by_cases hlen : l.length = r.length
  · have HL : Hid (l.length = r.length) := hlen
    go_enter Tryz.func47, Tryz.ntmps47
    rw [← hlen]
    clear hlen
    go_wp2
    go_loopw [5] (fun i wr => ∃ k : Nat, k ≤ l.length ∧ i = .int .i64 k ∧ l.take k = r.take k ∧ ∃ m, wr = w.drewN m) (fun i _ => l.length - (intOf i).toNat)
    case atStart => exact ⟨0, Nat.zero_le _, rfl, rfl, 0, rfl⟩
    case round =>
      obtain ⟨k, hk, rfl, hm, m, rfl⟩ := hrel
      have HM : Hid (l.take k = r.take k) := hm
      clear hm
      by_cases hlt : k < l.length
      · have hlt' : (k : Int) < (l.length : Int) := by omega
        obtain ⟨b, off, x, y, rfl, hx, c1, c2⟩ := hr.at hlt
        obtain ⟨b', off', x', y', rfl, hx', c1', c2'⟩ := hr'.at (k := k) (by have := HL.out; omega)
        have HX : Hid (l[k]? = some (x, y) ∧ r[k]? = some (x', y')) := ⟨hx, hx'⟩
        clear hx hx'
        by_cases e1 : x = x'
        · by_cases e2 : y = y'
          · subst e1 e2
            have HE : Hid (l.take (k + 1) = r.take (k + 1)) := by
              unfold Hid; rw [Lg.take_snoc l k (x, y) HX.out.1, Lg.take_snoc r k (x, y) HX.out.2, HM.out]
            go_wp2
            go_quiet (fail)
            go_wp2
            go_roundw
            case rel => exact ⟨k + 1, by omega, by go_num, HE.out, _, by first | rfl | simp only [World.drewN_drewN]⟩
            case measure => simp [intOf]; omega
          · subst e1
            have HE : Hid (decide (l = r) = false) := by
              unfold Hid
              simp only [decide_eq_false_iff_not]
              rintro rfl
              have := HX.out.1.symm.trans HX.out.2
              simp at this
              exact e2 this
            go_wp2
            go_quiet (fail)
            go_wp2
            go_ret
            refine ⟨ret_bool HE.out.symm, ?_⟩
            first | exact ⟨_, rfl⟩ | (rw [World.drewN_drewN]; exact ⟨_, rfl⟩)
        · have HE : Hid (decide (l = r) = false) := by
            unfold Hid
            simp only [decide_eq_false_iff_not]
            rintro rfl
            have := HX.out.1.symm.trans HX.out.2
            simp at this
            exact e1 this.1
          go_wp2
          go_quiet (fail)
          go_wp2
          go_ret
          refine ⟨ret_bool HE.out.symm, ?_⟩
          first | exact ⟨_, rfl⟩ | (rw [World.drewN_drewN]; exact ⟨_, rfl⟩)
      · go_wp2
        go_ret
        exact ⟨ret_bool (by simpa using ext_takeL l r HL.out k (by omega) HM.out), m, rfl⟩
  · have HE : Hid (decide (l = r) = false) := by
      unfold Hid
      simp only [decide_eq_false_iff_not]
      rintro rfl
      exact hlen rfl
    have hne : ((l.length : Int) != (r.length : Int)) = true := by simp; omega
    go_enter Tryz.func47, Tryz.ntmps47
    go_wp2
    go_ret
    exact ⟨ret_bool HE.out.symm, 0, rfl⟩
theorem sameLines_at (l r : List Lg.Ln) (a a' : Option Addr) (n n' cap cap' : Nat) (b : Bool) (w : World) (hn : l.length = n) (hn' : r.length = n') (hl : l.length ≤ maxLen) (hl' : r.length ≤ maxLen) (hb : decide (l = r) = b) (hr : RowL w a l) (hr' : RowL w a' r) :
    Calls Tryz.prog 47 #[.slice a n cap, .slice a' n' cap'] w fun e w' => e = .returned (.bool b) ∧ ∃ m, w' = w.drewN m := by
  subst hn hn' hb; exact sameLines_any l r a a' cap cap' w hl hl' hr hr'
namespace Lg
theorem sum_take (l : List Ln) (k : Nat) (x : Ln) (h : l[k]? = some x) : sum (l.take (k + 1)) = sum (l.take k) + x.2 := by
  rw [take_snoc l k x h]; unfold sum; rw [List.map_append, List.sum_append]; simp
theorem sum_bd (l : List Ln) : (∀ x ∈ l, -1099511627776 ≤ x.2 ∧ x.2 ≤ 1099511627776) → -(l.length * 1099511627776) ≤ sum l ∧ sum l ≤ l.length * 1099511627776 := by
  induction l with
  | nil => intro _; unfold sum; simp
  | cons x l ih =>
    intro h
    have h1 := ih (fun y hy => h y (.tail _ hy))
    have h2 := h x (.head _)
    unfold sum at *
    rw [List.map_cons, List.sum_cons, List.length_cons]
    omega
end Lg
end Go.Proofs.YtandlmnbnjkklaaGreatDoor
namespace Go.Proofs.YtandlmnbnjkklaaGreatDoor
open Go.RowKit Go.BigFrame

/-- no lines are longer than can be -/
def Fit (l : List Lg.Ps) : Prop := ∀ p ∈ l, p.2.length ≤ maxLen
theorem Fit.at {l : List Lg.Ps} (h : Fit l) {k : Nat} {p : Lg.Ps} (hk : l[k]? = some p) : p.2.length ≤ maxLen := h p (List.mem_of_getElem? hk)
namespace Lg
theorem bal_drop (l : List Ps) (k : Nat) (p : Ps) (h : l[k]? = some p) (a : Int) : bal (l.drop k) a = lsum p.2 a + bal (l.drop (k + 1)) a := by
  rw [drop_cons l k p h, bal_cons]
theorem lsum_take (l : List Ln) (k : Nat) (x : Ln) (h : l[k]? = some x) (a : Int) : lsum (l.take (k + 1)) a = lsum (l.take k) a + if x.1 = a then x.2 else 0 := by
  rw [take_snoc l k x h]; unfold lsum; rw [List.map_append, List.sum_append]; simp
end Lg
end Go.Proofs.YtandlmnbnjkklaaGreatDoor
