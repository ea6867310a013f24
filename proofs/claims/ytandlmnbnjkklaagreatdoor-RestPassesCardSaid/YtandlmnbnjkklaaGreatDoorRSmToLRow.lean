/- The walk of the document's rings: are two rings one. What must be in any case, of rings. Slices of lines: those that lie there, and those that a call makes. -/
import Derived.Test.YtandlmnbnjkklaaGreatDoorRRowToRPl
import Derived.Laws.StructEq
import Derived.Test.YtandlmnbnjkklaaGreatDoorROfToRDr2
import Derived.Test.YtandlmnbnjkklaaGreatDoorBaseToAppAll
import Derived.Test.YtandlmnbnjkklaaGreatDoorLg
import Derived.Laws.OwnMore
import Derived.Deep.AppendLies
namespace Go.Proofs.YtandlmnbnjkklaaGreatDoor
open Go.RowKit

theorem eqEp (n n' : Int) (A A' B B' : Tg.W) (w : World) : (Op.equalIn 10000 52 (.agg #[.int .i64 n, .int .u64 (wd A), .int .u64 (wd B)]) (.agg #[.int .i64 n', .int .u64 (wd A'), .int .u64 (wd B')])).run Tryz.prog w = .ok (decide ((n, A, B) = (n', A', B'))) w := by
  have u3 := Tryz.underlying3
  have a3 := Tryz.isAgg3
  have z3 := Tryz.sizeOf3
  have uk := Tryz.underlying30
  have ak := Tryz.isAgg30
  have zk := Tryz.sizeOf30
  have uu := Tryz.underlying28
  have au := Tryz.isAgg28
  have zu := Tryz.sizeOf28
  have hS : Tryz.prog.underlying 52 = some (.struct (Tryz.prog.fieldsOf 52)) := by kernel_rfl
  have hp : Tryz.prog.stoodInHeld 52 = false := by kernel_rfl
  have hS' : Tryz.prog.underlying 30 = some (.struct (Tryz.prog.fieldsOf 30)) := by kernel_rfl
  have hp' : Tryz.prog.stoodInHeld 30 = false := by kernel_rfl
  rw [show (10000 : Nat) = 9999 + 1 from rfl, run_equalIn_agg w 9999 52 _ _ hS hp]
  simp only [Program.fieldsOf, Tryz.underlying52]
  go_simp
  simp only [wd_inj]
  by_cases h1 : n = n' <;> by_cases h2 : A = A' <;> by_cases h3 : B = B' <;> simp [h1, h2, h3]
theorem Rg.take_succ_of (l : List Rg.Ep) (k : Nat) (e : Rg.Ep) (h : l[k]? = some e) : l.take (k + 1) = l.take k ++ [e] := by
  obtain ⟨hk, he⟩ := List.getElem?_eq_some_iff.1 h
  rw [List.take_succ_eq_append_getElem hk, he]
set_option maxRecDepth 100000 in
set_option maxHeartbeats 2000000 in
theorem sameRing_any (l r : List Rg.Ep) (a a' : Option Addr) (cap cap' : Nat) (w : World) (hl : l.length ≤ maxLen) (hl' : r.length ≤ maxLen) (hr : Row3 w a l) (hr' : Row3 w a' r) :
    Calls Tryz.prog 16 #[.slice a l.length cap, .slice a' r.length cap'] w fun e w' => e = .returned (.bool (decide (l = r))) ∧ ∃ m, w' = w.drewN m := by
  unfold maxLen at hl hl'
  by_cases hlen : l.length = r.length
  · have HL : Hid (l.length = r.length) := hlen
    go_enter Tryz.func16, Tryz.ntmps16
    rw [← hlen]
    clear hlen
    go_wp2
    go_loopw [5] (fun i wr => ∃ k : Nat, k ≤ l.length ∧ i = .int .i64 k ∧ l.take k = r.take k ∧ ∃ m, wr = w.drewN m) (fun i _ => l.length - (intOf i).toNat)
    case atStart => exact ⟨0, Nat.zero_le _, rfl, rfl, 0, rfl⟩
    case round =>
      obtain ⟨k, hk, rfl, hm, m, rfl⟩ := hrel
      have HM : Hid (l.take k = r.take k) := hm
      clear hm
      by_cases hlt : k < l.length
      · have hlt' : (k : Int) < (l.length : Int) := by omega
        obtain ⟨b, off, n, A, B, rfl, hbs, hx, c1, c2, c3⟩ := hr.at hlt
        obtain ⟨b', off', n', A', B', rfl, hbs', hx', c1', c2', c3'⟩ := hr'.at (k := k) (by have := HL.out; omega)
        have HX : Hid (l[k]? = some (n, A, B) ∧ r[k]? = some (n', A', B')) := ⟨hx, hx'⟩
        clear hx hx'
        have heq := fun W => eqEp n n' A A' B B' W
        by_cases e : (n, A, B) = (n', A', B')
        · rw [show decide ((n, A, B) = (n', A', B')) = true from by simpa using e] at heq
          have HE : Hid (l.take (k + 1) = r.take (k + 1)) := by
            unfold Hid; rw [Rg.take_succ_of l k _ HX.out.1, Rg.take_succ_of r k _ HX.out.2, HM.out, e]
          clear e
          go_wp2
          go_quiet (fail)
          go_wp2
          go_roundw
          case rel => exact ⟨k + 1, by omega, by go_num, HE.out, _, by first | rfl | simp only [World.drewN_drewN]⟩
          case measure => simp [intOf]; omega
        · rw [show decide ((n, A, B) = (n', A', B')) = false from by simpa using e] at heq
          have HE : Hid (decide (l = r) = false) := by
            unfold Hid
            simp only [decide_eq_false_iff_not]
            rintro rfl
            exact e (Option.some.inj (HX.out.1.symm.trans HX.out.2))
          clear e
          go_wp2
          go_quiet (fail)
          go_wp2
          go_ret
          exact ⟨ret_bool HE.out.symm, m + nq, by first | rfl | simp only [World.drewN_drewN]⟩
      · obtain rfl : k = l.length := by omega
        have HE : Hid (decide (l = r) = true) := by
          unfold Hid
          have := HM.out
          rw [List.take_of_length_le (Nat.le_refl _), List.take_of_length_le (by rw [HL.out]; exact Nat.le_refl _)] at this
          simpa using this
        go_wp2
        go_ret
        exact ⟨ret_bool HE.out.symm, _, rfl⟩
  · have HE : Hid (decide (l = r) = false) := by
      unfold Hid
      simp only [decide_eq_false_iff_not]
      rintro rfl
      exact hlen rfl
    have hne : ((l.length : Int) != (r.length : Int)) = true := by simp; omega
    clear hlen
    go_enter Tryz.func16, Tryz.ntmps16
    go_wp2
    go_ret
    exact ⟨ret_bool HE.out.symm, 0, rfl⟩
end Go.Proofs.YtandlmnbnjkklaaGreatDoor
namespace Go.Proofs.YtandlmnbnjkklaaGreatDoor
open Go.RowKit

namespace Rg
def ks : List Ep := [(3, 1#64, 2#64), (7, 3#64, 4#64)]
def k1 : List Ep := [(3, 1#64, 2#64)]
def k2 : List Ep := [(3, 1#64, 2#64), (4, 9#64, 0#64)]
def wren : List UInt8 := [119, 114, 101, 110]
def wx : List UInt8 := sl 7 3#64 4#64 wren
theorem chk_ks : chk ks = 0 := by decide +kernel
theorem chk_k1 : chk k1 = 0 := by decide +kernel
theorem sea_ks : sea ks wren = (wx, 0) := rfl
theorem wx_len : wx.length = 13 := by unfold wx; rw [sl_length]; rfl
theorem opn_ks : opn ks wx = (wren, 7, 0) := opn_of ks 7 3#64 4#64 wren chk_ks (by decide) (by decide)
theorem opn_k1 : opn k1 wx = ([], 0, 5) := opn_no k1 7 3#64 4#64 wren chk_k1 (by decide) (by decide) (by decide)
theorem drp_ks : drp ks 7 = (k1, 0) := by decide +kernel
theorem add_k1 : add k1 9#64 0#64 = (k2, 0) := by decide +kernel
theorem chk_22 : chk [(2, 0#64, 0#64), (2, 0#64, 0#64)] = 4 := by decide +kernel
end Rg
theorem keys_any (w : World) : Calls Tryz.prog 41 #[] w fun e w' => ∃ b, e = .returned (.slice (some ⟨b, 0, none⟩) 2 2) ∧ Row3 w' (some ⟨b, 0, none⟩) Rg.ks ∧ Below w.heap.size w w' := by
  have HR : Hid (Row3 (w.alloc (.cells #[.int .i64 3, .int .u64 1, .int .u64 2, .int .i64 7, .int .u64 3, .int .u64 4] 52)) (some ⟨w.heap.size, 0, none⟩) Rg.ks) := Row3.lit w Rg.ks _ rfl (by decide)
  go_enter Tryz.func41, Tryz.ntmps41
  go_wp2
  go_ret
  exact ⟨_, rfl, HR.out, below_box w _⟩
theorem OwnE.row' {w : World} {B : Nat} {v : Value} {xs : List Rg.Ep} (h : OwnE w B v xs) : ∃ a cap, v = .slice a xs.length cap ∧ Row3 w a xs ∧ xs.length ≤ cap ∧ (a = none → xs = [] ∧ cap = 0) ∧ (∀ p, a = some p → B ≤ p.block ∧ p.block < w.heap.size) := by
  obtain ⟨a, cap, e, hr⟩ := h.row
  have hlt := World.ownsRow.lt h
  refine ⟨a, cap, e, hr, ?_, fun hn => ?_, fun p hp => ?_⟩
  · rcases h.2 with ⟨rfl, h0⟩ | ⟨g, c, cur, rfl, _, _, hc, _⟩
    · injection e with e1 e2 e3; omega
    · injection e with e1 e2 e3; omega
  · rcases h.2 with ⟨rfl, h0⟩ | ⟨g, c, cur, rfl, _⟩
    · injection e with e1 e2 e3; exact ⟨List.eq_nil_of_length_eq_zero h0, e3.symm⟩
    · subst hn; injection e with e1 e2 e3; cases e1
  · subst hp
    exact hlt p.block (by rw [e]; rfl)
set_option maxRecDepth 100000 in
set_option maxHeartbeats 4000000 in
theorem ringBegun_any (w : World) : Calls Tryz.prog 11 #[] w fun e w' => e = .returned (.bool true) ∧ Below w.heap.size w w' := by
  have hsea : Rg.seaV Rg.ks Rg.wren = .tuple #[.string (bx Rg.wx), .int .i64 0] := by unfold Rg.seaV; rw [Rg.sea_ks]
  have hop1 : Rg.opnV Rg.ks Rg.wx = .tuple #[.string ⟨#[119, 114, 101, 110]⟩, .int .i64 7, .int .i64 0] := by unfold Rg.opnV; rw [Rg.opn_ks]; rfl
  have hop2 : Rg.opnV Rg.k1 Rg.wx = .tuple #[.string (bx []), .int .i64 0, .int .i64 5] := by unfold Rg.opnV; rw [Rg.opn_k1]
  have hlen : (bx Rg.wx).size = 13 := by rw [bx_size, Rg.wx_len]
  have hwl : Rg.wx.length ≤ 140737488351232 := by rw [Rg.wx_len]; decide
  have HWL : Hid (Rg.wx.length ≤ 140737488351232) := hwl
  generalize Rg.wx = X at *
  have heq : ∀ W, (Op.equalIn 10000 52 (.agg #[.int .i64 4, .int .u64 9, .int .u64 0]) (.agg #[.int .i64 4, .int .u64 9, .int .u64 0])).run Tryz.prog W = .ok true W := fun W => eqEp 4 4 9#64 9#64 0#64 0#64 W
  have HS : Hid (_) := hsea
  have HO1 : Hid (_) := hop1
  have HO2 : Hid (_) := hop2
  clear hsea hop1 hop2 hwl
  go_enter Tryz.func11, Tryz.ntmps11
  go_wp2_with fail
  refine (keys_any _).mono ?_; rintro e w1 ⟨b1, rfl, hr1, hb1⟩
  have B1 : Hid (Below w.heap.size w w1) := hb1
  have R1 : Hid (Row3 w1 (some ⟨b1, 0, none⟩) Rg.ks) := hr1
  clear hb1 hr1
  go_wp2_with fail
  refine (seal_any Rg.ks _ 2 Rg.wren _ (by decide) (by decide) R1.out).mono ?_; rintro e w2 ⟨rfl, hb2⟩
  have B2 : Hid (Below w.heap.size w w2) := below_on B1.out (Nat.le_refl _) hb2
  clear hb2 B1 R1
  rw [HS.out]
  go_wp2_with fail
  refine (keys_any _).mono ?_; rintro e w3 ⟨b3, rfl, hr3, hb3⟩
  have B3 : Hid (Below w.heap.size w w3) := below_on B2.out (Nat.le_refl _) hb3
  have R3 : Hid (Row3 w3 (some ⟨b3, 0, none⟩) Rg.ks) := hr3
  clear hb3 hr3 B2
  go_wp2_with fail
  refine (open_any Rg.ks _ 2 X _ (by decide) HWL.out R3.out).mono ?_; rintro e w4 ⟨rfl, hb4⟩
  have B4 : Hid (Below w.heap.size w w4) := below_on B3.out (Nat.le_refl _) hb4
  clear hb4 B3 R3
  rw [HO1.out]
  go_wp2_with fail
  refine (keys_any _).mono ?_; rintro e w5 ⟨b5, rfl, hr5, hb5⟩
  have B5 : Hid (Below w.heap.size w w5) := below_on B4.out (Nat.le_refl _) hb5
  have R5 : Hid (Row3 w5 (some ⟨b5, 0, none⟩) Rg.ks) := hr5
  clear hb5 hr5 B4
  go_wp2_with fail
  refine (drop_any Rg.ks _ 2 7 _ (by decide) (by decide) R5.out).mono ?_; rintro e w6 ⟨v6, he6, ho6, hb6⟩
  rw [Rg.drp_ks] at he6 ho6
  obtain ⟨a6, c6, hv6, hr6, hc6, hn6, -⟩ := OwnE.row' ho6
  replace hv6 : v6 = .slice a6 1 c6 := hv6
  subst hv6
  subst he6
  have B6 : Hid (Below w.heap.size w w6) := below_on B5.out (Nat.le_refl _) hb6
  have R6 : Hid (Row3 w6 a6 Rg.k1) := hr6
  have N6 : Hid (a6 = none → Rg.k1 = [] ∧ c6 = 0) := hn6
  clear hb6 ho6 hr6 hc6 hn6 B5 R5
  go_wp2_with fail
  refine (open_any Rg.k1 a6 c6 X _ (by decide) HWL.out R6.out).mono ?_; rintro e w7 ⟨rfl, hb7⟩
  have B7 : Hid (Below w.heap.size w w7) := below_on B6.out (Nat.le_refl _) hb7
  have R7 : Hid (Row3 w7 a6 Rg.k1) := R6.out.below hb7
  clear hb7 B6 R6
  rw [HO2.out]
  go_wp2_with fail
  refine (add_any Rg.k1 a6 c6 9#64 0#64 _ (by decide) (fun h => (N6.out h).1) R7.out).mono ?_; rintro e w8 ⟨v8, he8, ho8, hb8⟩
  rw [Rg.add_k1] at he8 ho8
  obtain ⟨a8, c8, hv8, hr8, -, -, -⟩ := OwnE.row' ho8
  replace hv8 : v8 = .slice a8 2 c8 := hv8
  subst hv8
  subst he8
  have B8 : Hid (Below w.heap.size w w8) := below_on B7.out (Nat.le_refl _) hb8
  obtain ⟨b, off, n, A, B, rfl, hbs, hx, d1, d2, d3⟩ := hr8.at (k := 1) (by decide)
  obtain ⟨rfl, rfl, rfl⟩ : n = 4 ∧ A = 9#64 ∧ B = 0#64 := by
    have := Option.some.inj hx
    simp at this
    exact ⟨this.1.symm, this.2.1.symm, this.2.2.symm⟩
  rw [show wd 9#64 = 9 from rfl] at d2
  rw [show wd 0#64 = 0 from rfl] at d3
  clear hb8 ho8 hr8 hx B7 R7
  have hck := fun W => check_any [(2, 0#64, 0#64), (2, 0#64, 0#64)] (some ⟨W.heap.size, 0, none⟩) 2 (W.alloc (.cells #[.int .i64 2, .int .u64 0, .int .u64 0, .int .i64 2, .int .u64 0, .int .u64 0] 52)) (by decide) (Row3.lit W _ _ rfl (by decide))
  rw [Rg.chk_22] at hck
  have HCK : Hid (_) := hck
  clear hck
  go_wp2_with (go_at_call 27; refine (HCK.out w8).mono ?_; rintro e w9 ⟨rfl, hb9⟩; have B9 : Hid (Below w.heap.size w w9) := below_on (B8.out.alloc B8.out.size _) (Nat.le_refl _) hb9; clear hb9)
  go_ret
  exact ⟨rfl, B9.out⟩
end Go.Proofs.YtandlmnbnjkklaaGreatDoor
namespace Go.Proofs.YtandlmnbnjkklaaGreatDoor
open Go.RowKit

/-- A slice of lines that lies there: what its elements read as. -/
def RowL (w : World) (a : Option Addr) (l : List Lg.Ln) : Prop :=
  l = [] ∨ ∃ b off, a = some ⟨b, off, none⟩ ∧ b < w.heap.size ∧ ∀ i : Nat, i < l.length → w.cell? ⟨b, off + i * 2, none⟩ = some (.int .i64 (l.getD i (0, 0)).1) ∧ w.cell? ⟨b, off + i * 2 + 1, none⟩ = some (.int .i64 (l.getD i (0, 0)).2)

theorem RowL.at {w : World} {a : Option Addr} {l : List Lg.Ln} (hr : RowL w a l) {k : Nat} (hlt : k < l.length) :
    ∃ b off x y, a = some ⟨b, off, none⟩ ∧ l[k]? = some (x, y) ∧ w.cell? ⟨b, off + k * 2, none⟩ = some (.int .i64 x) ∧ w.cell? ⟨b, off + k * 2 + 1, none⟩ = some (.int .i64 y) := by
  rcases hr with rfl | ⟨b, off, rfl, hb, hc⟩
  · simp at hlt
  obtain ⟨c1, c2⟩ := hc k hlt
  exact ⟨b, off, _, _, rfl, by simp [List.getD, List.getElem?_eq_getElem hlt], c1, c2⟩
theorem RowL.lies {w : World} {a : Option Addr} {l : List Lg.Ln} (hr : RowL w a l) {k : Nat} (hlt : k < l.length) :
    ∃ b off x y, a = some ⟨b, off, none⟩ ∧ b < w.heap.size ∧ l[k]? = some (x, y) ∧ w.cell? ⟨b, off + k * 2, none⟩ = some (.int .i64 x) ∧ w.cell? ⟨b, off + k * 2 + 1, none⟩ = some (.int .i64 y) := by
  rcases hr with rfl | ⟨b, off, rfl, hb, hc⟩
  · simp at hlt
  obtain ⟨c1, c2⟩ := hc k hlt
  exact ⟨b, off, _, _, rfl, hb, by simp [List.getD, List.getElem?_eq_getElem hlt], c1, c2⟩
theorem infoLn : (Tryz.prog.info? 54).map (fun i => (i.zero, i.size, i.bytes)) = some (some (.agg #[.int .i64 0, .int .i64 0]), 2, 16) := by kernel_rfl
def flatL (l : List Lg.Ln) : List Value := l.flatMap fun s => [.int .i64 s.1, .int .i64 s.2]
theorem flatL_append (a b : List Lg.Ln) : flatL (a ++ b) = flatL a ++ flatL b := by unfold flatL; rw [List.flatMap_append]
theorem flatL_len : ∀ l : List Lg.Ln, (flatL l).length = l.length * 2
  | [] => rfl
  | s :: l => by
    have := flatL_len l
    unfold flatL at *
    rw [List.flatMap_cons, List.length_append, this, List.length_cons]; simp; omega
theorem flatL_at : ∀ (l : List Lg.Ln) (i : Nat) (s : Lg.Ln), l[i]? = some s → (flatL l)[i * 2]? = some (.int .i64 s.1) ∧ (flatL l)[i * 2 + 1]? = some (.int .i64 s.2)
  | [], i, s, h => by simp at h
  | t :: l, 0, s, h => by
    simp at h; subst h
    exact ⟨rfl, rfl⟩
  | t :: l, i + 1, s, h => by
    have := flatL_at l i s (by simpa using h)
    have e : flatL (t :: l) = [.int .i64 t.1, .int .i64 t.2] ++ flatL l := rfl
    have e1 : (i + 1) * 2 = i * 2 + 2 := by omega
    rw [e, e1]
    exact ⟨by simpa using this.1, by simpa [Nat.add_right_comm] using this.2⟩
theorem flatL_one (l : List Lg.Ln) : ∀ u ∈ flatL l, u.oneCell' = true := by
  intro u hu
  unfold flatL at hu
  rw [List.mem_flatMap] at hu
  obtain ⟨s, _, hu⟩ := hu
  simp at hu
  rcases hu with rfl | rfl <;> rfl
/-- A slice of lines that the call has made. -/
def OwnL (w : World) (B : Nat) (v : Value) (xs : List Lg.Ln) : Prop := w.ownsRow B 54 2 v xs.length (flatL xs)
theorem OwnL.nil (w : World) (B : Nat) : OwnL w B (.slice none 0 0) [] := World.ownsRow_nil _ _ _ _
theorem OwnL.weak {w : World} {B B' : Nat} {v : Value} {xs : List Lg.Ln} (h : OwnL w B v xs) (hB : B' ≤ B) : OwnL w B' v xs := by
  obtain ⟨h1, h2⟩ := h
  refine ⟨h1, ?_⟩
  rcases h2 with h2 | ⟨g, cap, cur, a, b, c⟩
  · exact .inl h2
  · exact .inr ⟨g, cap, cur, a, Nat.le_trans hB b, c⟩
theorem OwnL.form {w : World} {B : Nat} {v : Value} {xs : List Lg.Ln} (h : OwnL w B v xs) : (v = .slice none 0 0 ∧ xs = []) ∨ ∃ g cap, v = .slice (some ⟨g, 0, none⟩) xs.length cap ∧ B ≤ g ∧ g < w.heap.size := by
  have hlt := World.ownsRow.lt h
  rcases h.2 with ⟨h1, h2⟩ | ⟨g, cap, cur, h1, h2, _⟩
  · exact .inl ⟨h1, List.eq_nil_of_length_eq_zero h2⟩
  · exact .inr ⟨g, cap, h1, h2, by subst h1; exact (hlt g rfl).2⟩
/-- What was made can be read. -/
theorem OwnL.row {w : World} {B : Nat} {v : Value} {xs : List Lg.Ln} (h : OwnL w B v xs) : ∃ a cap, v = .slice a xs.length cap ∧ (a = none → cap = 0 ∧ xs = []) ∧ RowL w a xs := by
  rcases h.form with ⟨rfl, rfl⟩ | ⟨g, cap, rfl, hB, hg⟩
  · exact ⟨_, _, rfl, fun _ => ⟨rfl, rfl⟩, .inl rfl⟩
  · refine ⟨_, _, rfl, (fun e => by cases e), .inr ⟨g, 0, rfl, hg, fun i hi => ?_⟩⟩
    have hs : xs[i]? = some (xs.getD i (0, 0)) := by simp [List.getD, List.getElem?_eq_getElem hi]
    have hf := flatL_at xs i _ hs
    have c1 := World.ownsRow.cellAt h (i * 2) (by omega)
    have c2 := World.ownsRow.cellAt h (i * 2 + 1) (by omega)
    rw [Nat.zero_add]
    exact ⟨c1.trans hf.1, c2.trans hf.2⟩
theorem RowL.below {w w' : World} {a : Option Addr} {l : List Lg.Ln} (h : RowL w a l) (hb : Below w.heap.size w w') : RowL w' a l := by
  rcases h with h | ⟨b, off, rfl, hlt, hc⟩
  · exact .inl h
  · exact .inr ⟨b, off, rfl, Nat.lt_of_lt_of_le hlt hb.size, fun i hi => ⟨(hb.cell (p := ⟨b, _, none⟩) hlt).trans (hc i hi).1, (hb.cell (p := ⟨b, _, none⟩) hlt).trans (hc i hi).2⟩⟩
/-- Behind an append of a whole slice of lines. -/
theorem OwnL.join {w wr w1 : World} {B : Nat} {v v' : Value} {xs ys : List Lg.Ln} (hB : B ≤ wr.heap.size) (hown : OwnL wr B v xs) (hnx : Below B w wr)
    (hown' : w1.ownsRow B 54 2 v' (xs.length + ys.length) (flatL xs ++ flatL ys)) (hgrow : wr.grownBy w1 v.ownBlock) :
    OwnL w1 B v' (xs ++ ys) ∧ Below B w w1 :=
  ⟨by unfold OwnL; rw [flatL_append, List.length_append]; exact hown', hnx.grown hgrow hB (fun j hj => (World.ownsRow.lt hown j hj).1)⟩
/-- Behind an append of one line, in a statement that draws its order. -/
theorem OwnL.keep {w W w1 : World} {B n : Nat} {v v' : Value} {xs : List Lg.Ln} {x y : Int} {o : Obj} (hn : xs.length = n) (hB : B ≤ W.heap.size) (hown : OwnL W B v xs) (hnx : Below B w W)
    (hown' : w1.ownsRow B 54 2 v' (n + 1) (flatL xs ++ [.int .i64 x, .int .i64 y])) (hgrow : ((W.alloc o).drew).grownBy w1 v.ownBlock) :
    OwnL w1 B v' (xs ++ [(x, y)]) ∧ Below B w w1 := by
  subst hn
  refine ⟨by unfold OwnL; rw [flatL_append, List.length_append]; exact hown', ?_⟩
  exact ((hnx.alloc hB o).drew).grown hgrow (by simp; omega) (fun j hj => (World.ownsRow.lt hown j hj).1)
theorem cellL_behind {W w1 : World} {o : Obj} {row : Option Nat} {b off : Nat} {v : Value} (hg : ((W.alloc o).drew).grownBy w1 row) (hb : b < W.heap.size) (h : W.cell? ⟨b, off, none⟩ = some v) (hne : some b ≠ row) : w1.cell? ⟨b, off, none⟩ = some v :=
  hg.cell (show ((W.alloc o).drew).cell? ⟨b, off, none⟩ = some v from (World.cell?_alloc_past _ _ _ hb).trans h) hne
theorem flatL_set (l : List Lg.Ln) (s : Lg.Ln) (y : Int) : (flatL (l ++ [s])).set (l.length * 2 + 1) (.int .i64 y) = flatL (l ++ [(s.1, y)]) := by
  rw [flatL_append, flatL_append, List.set_append_right _ _ (by rw [flatL_len]; omega), flatL_len]
  have e : l.length * 2 + 1 - l.length * 2 = 1 := by omega
  rw [e]; rfl
/-- Behind a store into the last line's end. -/
theorem OwnL.stretch {w W : World} {B g cap : Nat} {l : List Lg.Ln} {s : Lg.Ln} {y : Int} (hown : OwnL W B (.slice (some ⟨g, 0, none⟩) (l.length + 1) cap) (l ++ [s])) (hnx : Below B w W) :
    OwnL (W.setCell ⟨g, l.length * 2 + 1, none⟩ (.int .i64 y)) B (.slice (some ⟨g, 0, none⟩) (l.length + 1) cap) (l ++ [(s.1, y)]) ∧ Below B w (W.setCell ⟨g, l.length * 2 + 1, none⟩ (.int .i64 y)) := by
  have hlt := World.ownsRow.lt hown g rfl
  unfold OwnL at hown ⊢
  rw [List.length_append] at hown ⊢
  have st := World.ownsRow.stored hown (l.length * 2 + 1) (.int .i64 y)
  rw [flatL_set] at st
  exact ⟨st.1, hnx.setCell hlt.1 _⟩
theorem OwnL.last {W : World} {B g cap : Nat} {l : List Lg.Ln} {s : Lg.Ln} (hown : OwnL W B (.slice (some ⟨g, 0, none⟩) (l.length + 1) cap) (l ++ [s])) :
    W.cell? ⟨g, l.length * 2 + 1, none⟩ = some (.int .i64 s.2) ∧ W.frozen? ⟨g, l.length * 2 + 1, none⟩ = false := by
  unfold OwnL at hown
  rw [List.length_append] at hown
  have h1 := World.ownsRow.cellAt hown (l.length * 2 + 1) (by omega)
  have h2 := World.ownsRow.frozenAt hown (l.length * 2 + 1)
  have hf := flatL_at (l ++ [s]) l.length s (by simp)
  exact ⟨h1.trans hf.2, h2⟩
theorem RowL.news {w : World} {a : Option Addr} {l : List Lg.Ln} (h : RowL w a l) : ∀ ad, a = some ad → ∀ j u, (flatL l)[j]? = some u → w.cell? (ad.add j) = some u := by
  rintro ad rfl j u hj
  have hjl : j < l.length * 2 := by
    rcases Nat.lt_or_ge j (l.length * 2) with c | c
    · exact c
    · rw [List.getElem?_eq_none (by rw [flatL_len]; exact c)] at hj; cases hj
  have hi : j / 2 < l.length := by omega
  rcases h with rfl | ⟨b, off, e, hlt, hc⟩
  · simp at hi
  · cases e
    have hs : l[j / 2]? = some (l.getD (j / 2) (0, 0)) := by simp [List.getD, List.getElem?_eq_getElem hi]
    have hf := flatL_at l (j / 2) _ hs
    have hcc := hc (j / 2) hi
    have ha : ∀ k, (⟨b, off, none⟩ : Addr).add k = ⟨b, off + k, none⟩ := by
      intro k
      cases k with
      | zero => rfl
      | succ k => simp [Addr.add]
    rw [ha]
    rcases Nat.mod_two_eq_zero_or_one j with c | c
    · have e : j = j / 2 * 2 := by omega
      rw [e] at hj ⊢
      have e2 : j / 2 * 2 / 2 = j / 2 := by omega
      rw [hf.1] at hj
      rw [← Option.some.inj hj]
      exact hcc.1
    · have e : j = j / 2 * 2 + 1 := by omega
      rw [e] at hj ⊢
      rw [hf.2] at hj
      rw [← Option.some.inj hj]
      exact hcc.2
theorem cellL_new (w : World) (a b : Value) (t : TypeId) : ∀ j u, [a, b][j]? = some u → (w.alloc (.cells #[a, b] t)).cell? ((⟨w.heap.size, 0, none⟩ : Addr).add j) = some u := by
  intro j u hj
  match j, hj with
  | 0, hj => simp at hj; subst hj; simp [Addr.add]
  | 1, hj => simp at hj; subst hj; simp [Addr.add]
  | j + 2, hj => simp at hj
theorem cellL_at (w : World) (n : Nat) (hn : w.heap.size = n) (a b : Value) (t : TypeId) : ∀ j u, [a, b][j]? = some u → (w.alloc (.cells #[a, b] t)).cell? ((⟨n, 0, none⟩ : Addr).add j) = some u := by
  subst hn; exact cellL_new w a b t
theorem oneL (x y : Int) : ∀ u ∈ [Value.int .i64 x, Value.int .i64 y], u.oneCell' = true := by intro u hu; simp at hu; rcases hu with rfl | rfl <;> rfl
theorem lit_rowL (w : World) (l : List Lg.Ln) (cs : Array Value) (h : cs.toList = flatL l) (hl : l.length ≤ maxLen) : RowL (w.alloc (.cells cs 54)) (some ⟨w.heap.size, 0, none⟩) l := by
  have hs : cs.size = l.length * 2 := by rw [← Array.length_toList, h, flatL_len]
  have o : OwnL (w.alloc (.cells cs 54)) w.heap.size (.slice (some ⟨w.heap.size, 0, none⟩) l.length l.length) l := by
    have := World.ownsRow_lit (base := w.heap.size) (e := 54) (size := 2) w cs l.length (Nat.le_refl _) hl hs
    unfold OwnL; rw [← h]; exact this
  obtain ⟨a, c, e, _, r⟩ := o.row
  cases e
  exact r
/-- Behind an append of one line. -/
theorem OwnL.snoc {w W w1 : World} {B : Nat} {v v' : Value} {xs : List Lg.Ln} {x y : Int} {o : Obj} (hB : B ≤ W.heap.size) (hown : OwnL W B v xs) (hnx : Below B w W)
    (hown' : w1.ownsRow B 54 2 v' (xs.length + 1) (flatL xs ++ [.int .i64 x, .int .i64 y])) (hgrow : (W.alloc o).grownBy w1 v.ownBlock) :
    OwnL w1 B v' (xs ++ [(x, y)]) ∧ Below B w w1 := by
  refine ⟨by unfold OwnL; rw [flatL_append, List.length_append]; exact hown', ?_⟩
  exact (hnx.alloc hB o).grown hgrow (by simp; omega) (fun j hj => (World.ownsRow.lt hown j hj).1)
theorem OwnL.still {w w' : World} {B : Nat} {v : Value} {xs : List Lg.Ln} (h : OwnL w B v xs) (hb : Below w.heap.size w w') : OwnL w' B v xs := by
  have hlt := World.ownsRow.lt h
  obtain ⟨h1, h2⟩ := h
  refine ⟨h1, ?_⟩
  rcases h2 with h2 | ⟨g, cap, cur, rfl, b, c, d⟩
  · exact .inl h2
  · exact .inr ⟨g, cap, cur, rfl, b, (hb.block g (hlt g rfl).2).trans c, d⟩
end Go.Proofs.YtandlmnbnjkklaaGreatDoor
