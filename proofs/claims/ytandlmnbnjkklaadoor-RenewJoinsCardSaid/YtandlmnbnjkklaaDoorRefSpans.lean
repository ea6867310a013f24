/- The reference's entry points on sets of days: the sweep's answer, or why not. -/
import Derived.Test.YtandlmnbnjkklaaDoorSpansBy
namespace Go.Proofs.YtandlmnbnjkklaaDoor
open Go.RowKit Go.BigFrame

namespace Spn
/-- the look over spans that may stand however they like -/
def chkO : List Sp → Int
  | [] => 0
  | s :: l => if (far s.1 || far s.2) = true then 3 else if s.2 < s.1 then 1 else chkO l
def chkOf (l : List Sp) : Int := if 64 < l.length then 2 else chkO l
theorem chkO_end (l : List Sp) (k : Nat) (h : l.length ≤ k) : chkO (l.drop k) = 0 := by rw [List.drop_eq_nil_of_le h]; rfl
theorem drop_at (l : List Sp) (k : Nat) (x y : Int) (h : l[k]? = some (x, y)) : l.drop k = (x, y) :: l.drop (k + 1) := by
  have hk : k < l.length := by
    rcases Nat.lt_or_ge k l.length with c | c
    · exact c
    · rw [List.getElem?_eq_none c] at h; cases h
  rw [List.drop_eq_getElem_cons hk]
  rw [List.getElem?_eq_getElem hk] at h
  rw [Option.some.inj h]
theorem chkO_succ (l : List Sp) (k : Nat) (x y : Int) (h : l[k]? = some (x, y)) : chkO (l.drop k) = if (far x || far y) = true then 3 else if y < x then 1 else chkO (l.drop (k + 1)) := by
  rw [drop_at l k x y h]; rfl
theorem size_take (l : List Sp) (k : Nat) (x y : Int) (h : l[k]? = some (x, y)) : size (l.drop k) = (y - x) + size (l.drop (k + 1)) := by
  rw [drop_at l k x y h]; rfl
theorem far_bd (n : Int) (h : far n = false) : -1099511627776 ≤ n ∧ n ≤ 1099511627776 := by
  simp [far] at h; omega
theorem size_bd : ∀ (l : List Sp), (∀ s ∈ l, far s.1 = false ∧ far s.2 = false ∧ s.1 ≤ s.2) → 0 ≤ size l ∧ size l ≤ 2199023255552 * l.length
  | [], _ => by simp [size]
  | s :: l, h => by
    have ih := size_bd l (fun t ht => h t (List.mem_cons_of_mem _ ht))
    have hs := h s List.mem_cons_self
    have b1 := far_bd s.1 hs.1
    have b2 := far_bd s.2 hs.2.1
    simp only [size, List.length_cons]
    omega
end Spn
set_option maxHeartbeats 1000000 in
theorem daysOf_any (l : List Spn.Sp) (a : Option Addr) (cap : Nat) (w : World) (hl : l.length ≤ 64) (hs : ∀ s ∈ l, Spn.far s.1 = false ∧ Spn.far s.2 = false ∧ s.1 ≤ s.2) (hr : Row2 w a l) :
    Calls Tryd.prog 22 #[.slice a l.length cap] w fun e w' => e = .returned (.int .i64 (Spn.size l)) ∧ ∃ m, w' = w.drewN m := by
  have HS : Hid (∀ s ∈ l, Spn.far s.1 = false ∧ Spn.far s.2 = false ∧ s.1 ≤ s.2) := hs
  clear hs
  go_enter Tryd.func22, Tryd.ntmps22
  go_wp2
  go_loopw [3, 4] (fun s i wr => ∃ k : Nat, k ≤ l.length ∧ i = .int .i64 ((k : Int) - 1) ∧ s = .int .i64 (Spn.size (l.drop k)) ∧ ∃ m, wr = w.drewN m) (fun _ i _ => (intOf i + 1).toNat)
  case atStart => exact ⟨l.length, Nat.le_refl _, rfl, by rw [List.drop_length]; rfl, 0, rfl⟩
  case round =>
    obtain ⟨k, hk, rfl, rfl, m, rfl⟩ := hrel
    cases k with
    | zero =>
      go_wp2
      go_ret
      exact ⟨rfl, m, rfl⟩
    | succ k =>
      obtain ⟨b, off, x, y, rfl, hx, c1, c2⟩ := hr.at (k := k) (by omega)
      have hm := HS.out (x, y) (List.mem_of_getElem? hx)
      have b1 := Spn.far_bd x hm.1
      have b2 := Spn.far_bd y hm.2.1
      have HZ : Hid (Spn.size (l.drop k) = (y - x) + Spn.size (l.drop (k + 1))) := Spn.size_take l k x y hx
      have hz := Spn.size_bd (l.drop (k + 1)) (fun s h => HS.out s (List.mem_of_mem_drop h))
      have hz2 : (l.drop (k + 1)).length ≤ 64 := by rw [List.length_drop]; omega
      have hz3 : 0 ≤ Spn.size (l.drop (k + 1)) ∧ Spn.size (l.drop (k + 1)) ≤ 140737488355328 := by omega
      clear hz hz2 hm hx
      have e1 : ((k + 1 : Nat) : Int) - 1 = (k : Int) := by omega
      rw [e1]
      have hlt' : (k : Int) < (l.length : Int) := by omega
      have h0 : (0 : Int) ≤ (k : Int) := by omega
      generalize Spn.size (l.drop (k + 1)) = Z at hz3 HZ ⊢
      go_wp2
      go_quiet (fail)
      go_wp2
      go_roundw
      case rel => exact ⟨k, by omega, by go_num, by rw [HZ.out]; go_num, _, by first | rfl | rw [World.drewN_drewN]⟩
      case measure => simp [intOf]
set_option maxHeartbeats 1000000 in
theorem refBoth_ok (la lb : List Spn.Sp) (a b : Option Addr) (ca cb : Nat) (op : Int) (w : World) (hna : a = none → ca = 0 ∧ la = []) (hnb : b = none → cb = 0 ∧ lb = [])
    (hop : op = 0 ∨ op = 1 ∨ op = 2) (ra : Row2 w a la) (rb : Row2 w b lb) (hca : Spn.chk la = 0) (hcb : Spn.chk lb = 0) :
    Calls Tryd.prog 45 #[.slice a la.length ca, .slice b lb.length cb, .int .i64 op] w fun e w' => ∃ v r, Spn.canon r ∧ (∀ n, Spn.memB r n = Spn.opB op (Spn.memB la n) (Spn.memB lb n)) ∧ r.length ≤ 256 ∧
      ((r.length ≤ 64 ∧ e = .returned (.tuple #[v, .int .i64 0]) ∧ OwnS w' w.heap.size v r) ∨ (64 < r.length ∧ e = .returned (.tuple #[.slice none 0 0, .int .i64 2]))) ∧ Below w.heap.size w w' := by
  have la64 := ((Spn.chk_zero la).1 hca).1
  have lb64 := ((Spn.chk_zero lb).1 hcb).1
  go_enter Tryd.func45, Tryd.ntmps45
  go_wp2_with fail
  refine (spansCheck_any la a ca w (by unfold maxLen; omega) ra).mono ?_
  rintro e w1 ⟨rfl, d1⟩
  have b1 := drewN_below d1
  rw [hca]
  clear d1
  go_wp2_with fail
  refine (spansCheck_any lb b cb w1 (by unfold maxLen; omega) (rb.below b1)).mono ?_
  rintro e w2 ⟨rfl, d2⟩
  have b2 := below_on b1 (Nat.le_refl _) (drewN_below d2)
  rw [hcb]
  clear d2 b1
  go_wp2_with fail
  refine (spansBy_any la lb a b ca cb op w2 la64 lb64 hna hnb hop (ra.below b2) (rb.below b2)).mono ?_
  rintro e w3 ⟨v, r, rfl, hc, hm, hl, own, b3⟩
  have B := below_on b2 (Nat.le_refl _) b3
  have own' := own.weak b2.size
  clear own b3 b2
  obtain ⟨av, cv, rfl, _, _⟩ := own'.row
  have HM : Hid (∀ n, Spn.memB r n = Spn.opB op (Spn.memB la n) (Spn.memB lb n)) := hm
  clear hm hna hnb
  by_cases h64 : 64 < r.length
  · have h64' : (64 : Int) < (r.length : Int) := by omega
    go_wp2
    go_ret2
    exact ⟨.slice av r.length cv, r, hc, HM.out, hl, .inr ⟨h64, rfl⟩, B⟩
  · have h64' : (r.length : Int) ≤ 64 := by omega
    go_wp2
    go_ret2
    exact ⟨.slice av r.length cv, r, hc, HM.out, hl, .inl ⟨by omega, rfl, own'⟩, B⟩
set_option maxHeartbeats 1000000 in
theorem refBoth_errA (la lb : List Spn.Sp) (a b : Option Addr) (ca cb : Nat) (op : Int) (w : World) (hl : la.length ≤ maxLen) (ra : Row2 w a la) (hca : ¬ Spn.chk la = 0) :
    Calls Tryd.prog 45 #[.slice a la.length ca, .slice b lb.length cb, .int .i64 op] w fun e w' => e = .returned (.tuple #[.slice none 0 0, .int .i64 (Spn.chk la)]) ∧ Below w.heap.size w w' := by
  go_enter Tryd.func45, Tryd.ntmps45
  go_wp2_with fail
  refine (spansCheck_any la a ca w hl ra).mono ?_
  rintro e w1 ⟨rfl, d1⟩
  have b1 := drewN_below d1
  clear d1
  have hne : (Spn.chk la == 0) = false := by simpa using hca
  have hne2 : (Spn.chk la != 0) = true := by simpa using hca
  go_wp2
  go_ret2
  exact ⟨rfl, b1⟩
set_option maxHeartbeats 1000000 in
theorem refBoth_errB (la lb : List Spn.Sp) (a b : Option Addr) (ca cb : Nat) (op : Int) (w : World) (hl : lb.length ≤ maxLen) (ra : Row2 w a la) (rb : Row2 w b lb) (hca : Spn.chk la = 0) (hcb : ¬ Spn.chk lb = 0) :
    Calls Tryd.prog 45 #[.slice a la.length ca, .slice b lb.length cb, .int .i64 op] w fun e w' => e = .returned (.tuple #[.slice none 0 0, .int .i64 (Spn.chk lb)]) ∧ Below w.heap.size w w' := by
  have la64 := ((Spn.chk_zero la).1 hca).1
  go_enter Tryd.func45, Tryd.ntmps45
  go_wp2_with fail
  refine (spansCheck_any la a ca w (by unfold maxLen; omega) ra).mono ?_
  rintro e w1 ⟨rfl, d1⟩
  have b1 := drewN_below d1
  rw [hca]
  clear d1
  go_wp2_with fail
  refine (spansCheck_any lb b cb w1 hl (rb.below b1)).mono ?_
  rintro e w2 ⟨rfl, d2⟩
  have b2 := below_on b1 (Nat.le_refl _) (drewN_below d2)
  clear d2 b1
  have hne : (Spn.chk lb == 0) = false := by simpa using hcb
  have hne2 : (Spn.chk lb != 0) = true := by simpa using hcb
  go_wp2
  go_ret2
  exact ⟨rfl, b2⟩
end Go.Proofs.YtandlmnbnjkklaaDoor
