/- The iterator of package fare: all ranges of zones, the shorter ones first: its contract. -/
import Derived.Test.YtcaibonnkfhkmaaFen
import Derived.Test.YtcaibonnkfhkmaaFr
namespace Go.Proofs.Ytcaibonnkfhkmaa
open Go.RowKit Go.Shelf
attribute [local go_sem] Oper.semAt_some

namespace Fr
/-- a range that is one -/
def cl (n : Nat) (q : Nat × Nat) : Nat × Nat := if q.1 ≤ q.2 ∧ q.2 < n then q else (0, 0)
theorem cl_ok {n : Nat} (hn : 1 ≤ n) (q : Nat × Nat) : (cl n q).1 ≤ (cl n q).2 ∧ (cl n q).2 < n := by
  unfold cl
  split
  · assumption
  · exact ⟨Nat.le_refl _, hn⟩
theorem cl_id {n : Nat} {q : Nat × Nat} (h : q.1 ≤ q.2 ∧ q.2 < n) : cl n q = q := by unfold cl; rw [if_pos h]
def rowp (m j : Nat) : List (Nat × Nat) := (List.range j).map fun a => (a, a + m)
def rgp (n m : Nat) : List (Nat × Nat) := (List.range m).flatMap fun m => (List.range (n - m)).map fun a => (a, a + m)
theorem rgp_all (n : Nat) : rgp n n = rg n := rfl
theorem rgp_zero (n : Nat) : rgp n 0 = [] := rfl
theorem rgp_succ (n m : Nat) : rgp n (m + 1) = rgp n m ++ rowp m (n - m) := by unfold rgp rowp; rw [List.range_succ, List.flatMap_append]; simp
theorem rowp_zero (m : Nat) : rowp m 0 = [] := rfl
theorem rowp_succ (m j : Nat) : rowp m (j + 1) = rowp m j ++ [(j, j + m)] := by unfold rowp; rw [List.range_succ, List.map_append]; rfl
theorem rgp_le (n m : Nat) : ∀ k, rgp n m <+: rgp n (m + k)
  | 0 => List.prefix_refl _
  | k + 1 => (rgp_le n m k).trans (by rw [show m + (k + 1) = m + k + 1 by omega, rgp_succ]; exact List.prefix_append _ _)
theorem rowp_le (m j : Nat) : ∀ k, rowp m j <+: rowp m (j + k)
  | 0 => List.prefix_refl _
  | k + 1 => (rowp_le m j k).trans (by rw [show j + (k + 1) = j + k + 1 by omega, rowp_succ]; exact List.prefix_append _ _)
theorem pre_of {n m j : Nat} (hm : m < n) (hj : j ≤ n - m) : rgp n m ++ rowp m j <+: rg n := by
  have h1 : rowp m j <+: rowp m (n - m) := by have := rowp_le m j (n - m - j); rwa [show j + (n - m - j) = n - m by omega] at this
  have h2 : rgp n m ++ rowp m j <+: rgp n (m + 1) := by rw [rgp_succ]; exact (List.prefix_append_right_inj _).2 h1
  have h3 := rgp_le n (m + 1) (n - (m + 1))
  rw [show m + 1 + (n - (m + 1)) = n by omega] at h3
  exact h2.trans h3
theorem pre_lt {n m j : Nat} (hm : m < n) (hj : j < n - m) : (rgp n m ++ rowp m j).length < (rg n).length := by
  have := (pre_of hm (show j + 1 ≤ n - m from hj)).length_le
  rw [rowp_succ, ← List.append_assoc, List.length_append] at this
  simp only [List.length_cons, List.length_nil] at this
  omega
end Fr
/-- what a round must keep: the box of the number of zones -/
def KB (B : Nat) (W W' : World) : Prop := W'.heap[B]? = W.heap[B]?
theorem KB.trans {B : Nat} {A W W' : World} (h : KB B A W) (k : KB B W W') : KB B A W' := Eq.trans k h
theorem KB.put {B : Nat} {w : World} (hB : B < w.heap.size) (W : World) (l : Nat) (o o' : Obj) (hl : w.heap.size ≤ l) (_ : W.heap[l]? = some o) (_ : o.isCells = false) (_ : o.isWalk = false) : KB B W (W.putObj l o') :=
  World.putObj_heap_other (by omega)
theorem KB.cell {B : Nat} {W W' : World} {o : Nat} {v : Value} (h : KB B W W') (hc : W.cell? ⟨B, o, none⟩ = some v) : W'.cell? ⟨B, o, none⟩ = some v := (World.cell?_of_block (a := ⟨B, o, none⟩) h).trans hc
/-- what a round is handed -/
def enR (n : Nat) (q : Nat × Nat) : Array Value := #[.int .i64 ((Fr.cl n q).1 : Int), .int .i64 ((Fr.cl n q).2 : Int)]
theorem enR_id {n : Nat} {q : Nat × Nat} (h : q.1 ≤ q.2 ∧ q.2 < n) : enR n q = #[.int .i64 (q.1 : Int), .int .i64 (q.2 : Int)] := by unfold enR; rw [Fr.cl_id h]
set_option maxRecDepth 100000 in
set_option maxHeartbeats 2000000 in
theorem ranges1_in (l n B : Nat) (hn6 : n ≤ 6) (J Jx : List (Nat × Nat) → World → Prop)
    (hY : ∀ pre x W, J pre W → pre.length < (Fr.rg n).length → YieldAt Fence.wide 0 Try.prog l (enR n x) W fun e W' =>
      (e = .returned (.bool true) ∧ J (pre ++ [x]) W' ∧ KB B W W') ∨ (e = .returned (.bool false) ∧ Jx (pre ++ [x]) W'))
    (W : World) (hBs : W.cell? ⟨B, 0, none⟩ = some (.int .i64 (n : Int))) (h0 : J [] W) :
    CallsIn Fence.wide 1 Try.prog 29 #[.func (.yield l) #[] #[], .pointer (some ⟨B, 0, none⟩)] W fun e W' => (∃ v, e = .returned v) ∧
      ((∃ ys, ys = Fr.rg n ∧ J ys W') ∨ (∃ pre, pre <+: Fr.rg n ∧ Jx pre W')) := by
  have HY : Hid (_) := hY
  clear hY
  refine callsIn_of_wp Try.func29 rfl trivial ?_ rfl
  simp only [Try.ntmps29, List.size_toArray, List.length_cons, List.length_nil, Nat.reduceAdd, Nat.reduceSub, Array.replicate_succ, Array.replicate_zero, List.push_toArray, List.append_toArray, List.nil_append, List.cons_append]
  gi_wp2
  gi_loopw [6] (fun i wr => ∃ m : Nat, m ≤ n ∧ i = .int .i64 m ∧ J (Fr.rgp n m) wr ∧ KB B W wr) (fun i _ => n - (intOf i).toNat)
  case atStart => exact ⟨0, Nat.zero_le _, rfl, h0, rfl⟩
  case round =>
    obtain ⟨m, hm, rfl, hJs, hnx⟩ := hrel
    have hcz : wr.cell? ⟨B, 0, none⟩ = some (.int .i64 (n : Int)) := hnx.cell hBs
    by_cases hlt : m < n
    · have hlt' : (m : Int) < (n : Int) := by omega
      have HJ : Hid (J (Fr.rgp n m) wr) := hJs
      have HX : Hid (KB B W wr) := hnx
      clear hJs hnx
      gi_wp2
      gi_loopw [12] (fun i wq => ∃ j : Nat, j ≤ n - m ∧ i = .int .i64 j ∧ J (Fr.rgp n m ++ Fr.rowp m j) wq ∧ KB B W wq) (fun i _ => n - m - (intOf i).toNat)
      case atStart => exact ⟨0, Nat.zero_le _, rfl, by rw [Fr.rowp_zero, List.append_nil]; exact HJ.out, HX.out⟩
      case round =>
        obtain ⟨j, hj, rfl, hJq, hnq⟩ := hrel
        by_cases hlj : j < n - m
        · have hlj' : (j : Int) < (n : Int) - (m : Int) := by omega
          obtain ⟨fn, tmps, assign, body, hy, hR⟩ := HY.out _ (j, j + m) wr hJq (Fr.pre_lt hlt hlj)
          rw [enR_id (show (j, j + m).1 ≤ (j, j + m).2 ∧ (j, j + m).2 < n from ⟨by simp, by simp; omega⟩)] at hy
          have hcast : ((j + m : Nat) : Int) = (j : Int) + (m : Int) := by omega
          dsimp only at hy
          rw [hcast] at hy
          have HQ : Hid (KB B W wr) := hnq
          clear hJq hnq hcast
          gi_wp2
          refine hR.mono ?_
          rintro e W3 (⟨rfl, hJ3, hk3⟩ | ⟨rfl, hJx3⟩)
          · have H3 : Hid (KB B W W3) := HQ.out.trans hk3
            have HJ3 : Hid (J ((Fr.rgp n m ++ Fr.rowp m j) ++ [(j, j + m)]) W3) := hJ3
            clear hk3 hJ3
            gi_wp2
            go_roundw
            case rel => exact ⟨j + 1, by omega, by simp, by rw [Fr.rowp_succ, ← List.append_assoc]; exact HJ3.out, H3.out⟩
            case measure => simp [intOf]; omega
          · gi_wp2
            refine bodyPost_ret (results_none rfl _ _ _) rfl ?_
            refine ⟨⟨_, rfl⟩, .inr ⟨_, ?_, hJx3⟩⟩
            have := Fr.pre_of hlt (show j + 1 ≤ n - m from hlj)
            rw [Fr.rowp_succ, ← List.append_assoc] at this
            exact this
        · obtain rfl : j = n - m := by omega
          have hlj' : ¬ ((n - m : Nat) : Int) < (n : Int) - (m : Int) := by omega
          have HQ : Hid (KB B W wr) := hnq
          have HJ3 : Hid (J (Fr.rgp n (m + 1)) wr) := by show J _ _; rw [Fr.rgp_succ]; exact hJq
          clear hJq hnq
          gi_wp2
          go_roundw
          case rel => exact ⟨m + 1, by omega, by simp, HJ3.out, HQ.out⟩
          case measure => simp [intOf]; omega
    · obtain rfl : m = n := by omega
      gi_wp2
      go_end0
      exact ⟨⟨_, rfl⟩, .inl ⟨_, rfl, hJs⟩⟩
/-- ranges(n): the number is boxed; the function value captures the box -/
theorem ranges_in (n : Nat) (w : World) : Calls Try.prog 21 #[.int .i64 (n : Int)] w fun e w' => e = .returned (.func (.func 29) #[] #[.pointer (some ⟨w.heap.size, 0, none⟩)]) ∧ w' = w.alloc (.cells #[.int .i64 (n : Int)] 3) := by
  go_enter Try.func21, Try.ntmps21
  go_wp2
  go_ret
  exact ⟨rfl, rfl⟩
theorem ranges_stops (n B : Nat) (w : World) (hn6 : n ≤ 6) (hB : B < w.heap.size) (hc : w.cell? ⟨B, 0, none⟩ = some (.int .i64 (n : Int))) :
    SeqStopsK Fence.wide 1 Try.prog 29 #[.pointer (some ⟨B, 0, none⟩)] (enR n) (KB B) (fun ys => ys = Fr.rg n) (fun pre => pre <+: Fr.rg n) (Fr.rg n).length w := fun l J Jx W hW _ _ hY h0 =>
  ranges1_in l n B hn6 J Jx hY W ((hW.cell (p := ⟨B, 0, none⟩) hB).trans hc) h0
end Go.Proofs.Ytcaibonnkfhkmaa
