/- The program's look at a calendar; an almanac opened; a day of rest. -/
import Derived.Test.YtehopfpcikbaiaaDoorWLeaf
namespace Go.Proofs.YtehopfpcikbaiaaDoor
open Go.RowKit

/-- A slice of rules that lies there. -/
def Row4 (w : World) (a : Option Addr) (l : List Wk.Rl) : Prop :=
  l = [] ∨ ∃ b off, a = some ⟨b, off, none⟩ ∧ b < w.heap.size ∧ ∀ i : Nat, i < l.length → w.cell? ⟨b, off + i * 4, none⟩ = some (.int .i64 (l.getD i (0, 0, 0, 0)).1) ∧ w.cell? ⟨b, off + i * 4 + 1, none⟩ = some (.int .i64 (l.getD i (0, 0, 0, 0)).2.1) ∧ w.cell? ⟨b, off + i * 4 + 2, none⟩ = some (.int .i64 (l.getD i (0, 0, 0, 0)).2.2.1) ∧ w.cell? ⟨b, off + i * 4 + 3, none⟩ = some (.int .i64 (l.getD i (0, 0, 0, 0)).2.2.2)
theorem Row4.lies {w : World} {a : Option Addr} {l : List Wk.Rl} (hr : Row4 w a l) {k : Nat} (hlt : k < l.length) :
    ∃ b off x1 x2 x3 x4, a = some ⟨b, off, none⟩ ∧ b < w.heap.size ∧ l[k]? = some (x1, x2, x3, x4) ∧ w.cell? ⟨b, off + k * 4, none⟩ = some (.int .i64 x1) ∧ w.cell? ⟨b, off + k * 4 + 1, none⟩ = some (.int .i64 x2) ∧ w.cell? ⟨b, off + k * 4 + 2, none⟩ = some (.int .i64 x3) ∧ w.cell? ⟨b, off + k * 4 + 3, none⟩ = some (.int .i64 x4) := by
  rcases hr with rfl | ⟨b, off, rfl, hb, hc⟩
  · simp at hlt
  obtain ⟨c1, c2, c3, c4⟩ := hc k hlt
  exact ⟨b, off, _, _, _, _, rfl, hb, by simp [List.getD, List.getElem?_eq_getElem hlt], c1, c2, c3, c4⟩
theorem Row4.below {w w' : World} {a : Option Addr} {l : List Wk.Rl} (h : Row4 w a l) (hb : Below w.heap.size w w') : Row4 w' a l := by
  rcases h with h | ⟨b, off, rfl, hlt, hc⟩
  · exact .inl h
  · refine .inr ⟨b, off, rfl, Nat.lt_of_lt_of_le hlt hb.size, fun i hi => ?_⟩
    obtain ⟨c1, c2, c3, c4⟩ := hc i hi
    exact ⟨(hb.cell (p := ⟨b, _, none⟩) hlt).trans c1, (hb.cell (p := ⟨b, _, none⟩) hlt).trans c2, (hb.cell (p := ⟨b, _, none⟩) hlt).trans c3, (hb.cell (p := ⟨b, _, none⟩) hlt).trans c4⟩
theorem below_in {B : Nat} {a W w' : World} (h : Below B a W) (hB : B ≤ a.heap.size) (hb : Below W.heap.size W w') : Below B a w' := below_next h hB hb
/-- a calendar as a value -/
abbrev calV (R : Wk.Rst) (a : Option Addr) (n c : Nat) : Value := .agg #[.bool R.b0, .bool R.b1, .bool R.b2, .bool R.b3, .bool R.b4, .bool R.b5, .bool R.b6, .slice a n c]
/-- an almanac as a value -/
abbrev almV (R : Wk.Rst) (a : Option Addr) (n c bm : Nat) : Value := .agg #[.bool R.b0, .bool R.b1, .bool R.b2, .bool R.b3, .bool R.b4, .bool R.b5, .bool R.b6, .slice a n c, .map (some bm)]
set_option maxHeartbeats 1000000 in
theorem eqRest (b0 b1 b2 b3 b4 b5 b6 : Bool) (w : World) : (Op.equalIn 10000 22 (.agg #[.bool b0, .bool b1, .bool b2, .bool b3, .bool b4, .bool b5, .bool b6]) (.agg #[.bool true, .bool true, .bool true, .bool true, .bool true, .bool true, .bool true])).run Tryd.prog w = .ok (b0 && b1 && b2 && b3 && b4 && b5 && b6) w := by
  have u4 := Tryd.underlying4
  have a4 := Tryd.isAgg4
  have z4 := Tryd.sizeOf4
  rw [show (10000 : Nat) = 9999 + 1 from rfl, Op.equalIn]
  simp only [Sem.run_bind, run_underlying Tryd.underlying22, Result.andThen_ok]
  simp only [Std.Legacy.Range.forIn_eq_forIn_range', Std.Legacy.Range.size, Nat.sub_zero, Nat.add_sub_cancel, Nat.div_one, List.range'_succ, List.range'_zero, List.forIn_cons, List.forIn_nil]
  go_simp
  cases b0
  · simp
  cases b1
  · simp
  cases b2
  · simp
  cases b3
  · simp
  cases b4
  · simp
  cases b5
  · simp
  cases b6 <;> simp
set_option maxRecDepth 100000 in
set_option maxHeartbeats 2000000 in
theorem wCheck (R : Wk.Rst) (l : List Wk.Rl) (a : Option Addr) (cap : Nat) (w : World) (hl : l.length ≤ maxLen) (hw : Laid w) (hr : Row4 w a l) :
    Calls Tryd.prog 25 #[calV R a l.length cap] w fun e w' => e = .returned (.int .i64 (Wk.cchk R l)) ∧ Below w.heap.size w w' := by
  have heq := fun W => eqRest R.b0 R.b1 R.b2 R.b3 R.b4 R.b5 R.b6 W
  have e0 : (R.b0 && R.b1 && R.b2 && R.b3 && R.b4 && R.b5 && R.b6) = R.all := rfl
  rw [e0] at heq
  clear e0
  have HR : Hid (Row4 w a l) := hr
  clear hr
  have bA := below_box w (.cells #[.bool R.b0, .bool R.b1, .bool R.b2, .bool R.b3, .bool R.b4, .bool R.b5, .bool R.b6, .slice a l.length cap] 25)
  unfold maxLen at hl
  cases hR : R.all with
  | true =>
    have e : Wk.cchk R l = 1 := by unfold Wk.cchk; rw [if_pos hR]
    rw [e]; clear e
    rw [hR] at heq
    clear hR
    go_enter Tryd.func25, Tryd.ntmps25
    go_wp2
    go_ret
    exact ⟨rfl, bA⟩
  | false =>
    by_cases h12 : 12 < l.length
    · have e : Wk.cchk R l = 2 := by unfold Wk.cchk; rw [if_neg (by rw [hR]; decide), if_pos h12]
      rw [e]; clear e
      rw [hR] at heq
      clear hR
      have h12' : (12 : Int) < (l.length : Int) := by omega
      go_enter Tryd.func25, Tryd.ntmps25
      go_wp2
      go_ret
      exact ⟨rfl, bA⟩
    · have e : Wk.cchk R l = Wk.lchk (l.drop 0) := by unfold Wk.cchk; rw [if_neg (by rw [hR]; decide), if_neg h12]; rfl
      rw [e]; clear e
      rw [hR] at heq
      clear hR
      have h12' : (l.length : Int) ≤ 12 := by omega
      go_enter Tryd.func25, Tryd.ntmps25
      go_wp2
      clear heq
      go_loopw [17] (fun i wr => ∃ k : Nat, k ≤ l.length ∧ i = .int .i64 k ∧ Wk.lchk (l.drop 0) = Wk.lchk (l.drop k) ∧ Below w.heap.size w wr) (fun i _ => l.length - (intOf i).toNat)
      case atStart => exact ⟨0, Nat.zero_le _, rfl, rfl, bA⟩
      case round =>
        obtain ⟨k, hk, rfl, hm, hnx⟩ := hrel
        have HM : Hid (Wk.lchk (l.drop 0) = Wk.lchk (l.drop k)) := hm
        clear hm
        by_cases hlt : k < l.length
        · have hlt' : (k : Int) < (l.length : Int) := by omega
          obtain ⟨b, off, x1, x2, x3, x4, rfl, hb, hx, c1, c2, c3, c4⟩ := (HR.out.below hnx).lies hlt
          have HS : Hid (_) := Wk.lchk_succ l k _ hx
          clear hx
          have nx1 : Below w.heap.size w (wr.alloc (.cells #[.int .i64 x1, .int .i64 x2, .int .i64 x3, .int .i64 x4] 74)) := hnx.alloc hnx.size _
          have hw1 := (hw.below hnx).alloc (.cells #[.int .i64 x1, .int .i64 x2, .int .i64 x3, .int .i64 x4] 74)
          go_wp2_with fail
          refine (checkRule_any x1 x2 x3 x4 _ hw1).mono ?_
          rintro e w1 ⟨rfl, b1⟩
          have nx2 := below_next nx1 (Nat.le_refl _) b1
          clear b1 nx1 hw1
          by_cases hc : Wk.rchk (x1, x2, x3, x4) = 0
          · have HE : Hid (Wk.lchk (l.drop 0) = Wk.lchk (l.drop (k + 1))) := by unfold Hid; rw [HM.out, HS.out, if_pos hc]
            rw [hc]
            clear hc
            go_wp2
            go_roundw
            case rel => exact ⟨k + 1, by omega, by go_num, HE.out, nx2⟩
            case measure => simp [intOf]; omega
          · have HE : Hid (Wk.lchk (l.drop 0) = Wk.rchk (x1, x2, x3, x4)) := by unfold Hid; rw [HM.out, HS.out, if_neg hc]
            have hc' : (Wk.rchk (x1, x2, x3, x4) != 0) = true := by simpa using hc
            go_wp2
            go_ret
            exact ⟨ret_int HE.out.symm, nx2⟩
        · obtain rfl : k = l.length := by omega
          have HE : Hid (Wk.lchk (l.drop 0) = 0) := by unfold Hid; rw [HM.out, List.drop_length]; rfl
          go_wp2
          go_ret
          exact ⟨ret_int HE.out.symm, hnx⟩
end Go.Proofs.YtehopfpcikbaiaaDoor
