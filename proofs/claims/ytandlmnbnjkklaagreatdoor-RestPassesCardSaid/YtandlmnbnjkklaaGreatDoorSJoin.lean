/- The program's step: a span joined to a set that the call has made; and a set's size. -/
import Derived.Test.YtandlmnbnjkklaaGreatDoorPzRenToSpnJoin
import Derived.Test.YtandlmnbnjkklaaGreatDoorPzRenToSpnJoin
import Derived.Test.YtandlmnbnjkklaaGreatDoorSpnLawsToLeaf
namespace Go.Proofs.YtandlmnbnjkklaaGreatDoor
open Go.RowKit Go.BigFrame

theorem OwnS.alloc {w : World} {B : Nat} {v : Value} {xs : List Spn.Sp} (h : OwnS w B v xs) (o : Obj) : OwnS (w.alloc o) B v xs := World.ownsRow.alloc h o
theorem OwnS.lastAt {W : World} {B g cap : Nat} {l : List Spn.Sp} {s : Spn.Sp} (hown : OwnS W B (.slice (some ⟨g, 0, none⟩) (l.length + 1) cap) (l ++ [s])) :
    W.cell? ⟨g, l.length * 2, none⟩ = some (.int .i64 s.1) := by
  unfold OwnS at hown
  rw [List.length_append] at hown
  have h1 := World.ownsRow.cellAt hown (l.length * 2) (by omega)
  have hf := flat_at (l ++ [s]) l.length s (by simp)
  exact h1.trans hf.1
/-- Behind an append of one span. -/
theorem OwnS.put {w W w1 : World} {B : Nat} {v v' : Value} {xs : List Spn.Sp} {x y : Int} {o : Obj} (hB : B ≤ W.heap.size) (hown : OwnS W B v xs) (hnx : Below B w W)
    (hown' : w1.ownsRow B 49 2 v' (xs.length + 1) (flat xs ++ [.int .i64 x, .int .i64 y])) (hgrow : (W.alloc o).grownBy w1 v.ownBlock) :
    OwnS w1 B v' (xs ++ [(x, y)]) ∧ Below B w w1 := by
  refine ⟨by unfold OwnS; rw [flat_append, List.length_append]; exact hown', ?_⟩
  exact (hnx.alloc hB o).grown hgrow (by simp; omega) (fun j hj => (World.ownsRow.lt hown j hj).1)
theorem OwnS.drewN {w : World} {B : Nat} {v : Value} {xs : List Spn.Sp} (h : OwnS w B v xs) (n : Nat) : OwnS (w.drewN n) B v xs := h
set_option maxHeartbeats 4000000 in
theorem join_any (xs : List Spn.Sp) (x y : Int) (v : Value) (B : Nat) (w0 w : World) (hx : xs.length ≤ 100000) (hB : B ≤ w.heap.size) (hown : OwnS w B v xs) (hnx : Below B w0 w) :
    Calls Tryz.prog 73 #[v, .agg #[.int .i64 x, .int .i64 y]] w fun e w' => ∃ v', e = .returned v' ∧ OwnS w' B v' (Spn.join xs (x, y)) ∧ Below B w0 w' := by
  obtain ⟨i0, hi, hz0, hz1, hz2⟩ := info_parts infoSpan
  have nxA := hnx.alloc hB (.cells #[.int .i64 x, .int .i64 y] 49)
  have ownA := hown.alloc (.cells #[.int .i64 x, .int .i64 y] 49)
  have hBA : B ≤ w.heap.size + 1 := by omega
  rcases List.eq_nil_or_concat xs with rfl | ⟨l, s, rfl⟩
  · rw [Spn.join_nil]
    rcases hown.form with ⟨rfl, _⟩ | ⟨g, cg, rfl, hg1, hg2⟩
    · go_enter Tryz.func73, Tryz.ntmps73
      go_wp2
      go_quiet (fail)
      have nxQ := below_drewN nxA nq
      have ownQ := ownA.drewN nq
      have cB1 : ((w.alloc (.cells #[.int .i64 x, .int .i64 y] 49)).drewN nq).cell? ⟨w.heap.size, 0, none⟩ = some (.int .i64 x) := show (w.alloc (.cells #[.int .i64 x, .int .i64 y] 49)).cell? ⟨w.heap.size, 0, none⟩ = _ by simp
      have cB2 : ((w.alloc (.cells #[.int .i64 x, .int .i64 y] 49)).drewN nq).cell? ⟨w.heap.size, 1, none⟩ = some (.int .i64 y) := show (w.alloc (.cells #[.int .i64 x, .int .i64 y] 49)).cell? ⟨w.heap.size, 1, none⟩ = _ by simp
      have hBW : B ≤ ((w.alloc (.cells #[.int .i64 x, .int .i64 y] 49)).drewN nq).heap.size := by simpa using hBA
      generalize (w.alloc (.cells #[.int .i64 x, .int .i64 y] 49)).drewN nq = W at *
      go_wp2_with (at_builtin; refine wpList_append_own _ rfl (.tmp 34) (.tmp 36) 22 rfl B 49 i0 _ 2 16 Tryz.underlying22 hi hz0 hz1 hz2 rfl (by decide) _ 0 (flat []) rfl (World.ownsRow.alloc ownQ _) ⟨W.heap.size, 0, none⟩ 1 1 [.int .i64 x, .int .i64 y] rfl rfl (cell2_new _ _ _ _) (one2 _ _) (by unfold maxLen; simp) (by simp) (by simp; omega) ?_; intro v1 w1 own1 grow1 _)
      have R := OwnS.put (xs := []) hBW ownQ nxQ own1 grow1
      go_wp2
      go_ret
      exact ⟨_, rfl, R.1, R.2⟩
    · go_enter Tryz.func73, Tryz.ntmps73
      go_wp2
      go_quiet (fail)
      have nxQ := below_drewN nxA nq
      have ownQ := ownA.drewN nq
      have cB1 : ((w.alloc (.cells #[.int .i64 x, .int .i64 y] 49)).drewN nq).cell? ⟨w.heap.size, 0, none⟩ = some (.int .i64 x) := show (w.alloc (.cells #[.int .i64 x, .int .i64 y] 49)).cell? ⟨w.heap.size, 0, none⟩ = _ by simp
      have cB2 : ((w.alloc (.cells #[.int .i64 x, .int .i64 y] 49)).drewN nq).cell? ⟨w.heap.size, 1, none⟩ = some (.int .i64 y) := show (w.alloc (.cells #[.int .i64 x, .int .i64 y] 49)).cell? ⟨w.heap.size, 1, none⟩ = _ by simp
      have hBW : B ≤ ((w.alloc (.cells #[.int .i64 x, .int .i64 y] 49)).drewN nq).heap.size := by simpa using hBA
      generalize (w.alloc (.cells #[.int .i64 x, .int .i64 y] 49)).drewN nq = W at *
      go_wp2_with (at_builtin; refine wpList_append_own _ rfl (.tmp 34) (.tmp 36) 22 rfl B 49 i0 _ 2 16 Tryz.underlying22 hi hz0 hz1 hz2 rfl (by decide) _ 0 (flat []) rfl (World.ownsRow.alloc ownQ _) ⟨W.heap.size, 0, none⟩ 1 1 [.int .i64 x, .int .i64 y] rfl rfl (cell2_new _ _ _ _) (one2 _ _) (by unfold maxLen; simp) (by simp) (by simp; omega) ?_; intro v1 w1 own1 grow1 _)
      have R := OwnS.put (xs := []) hBW ownQ nxQ own1 grow1
      go_wp2
      go_ret
      exact ⟨_, rfl, R.1, R.2⟩
  · rw [List.concat_eq_append] at hown ownA hx ⊢
    rcases hown.form with ⟨_, h0⟩ | ⟨g, cg, rfl, hg1, hg2⟩
    · simp at h0
    have el : (l ++ [s]).length = l.length + 1 := by simp
    rw [el] at hown ownA hx ⊢
    have hne : g ≠ w.heap.size := by omega
    have hw1 : IntKind.i64.wrap ((l.length : Int) + 1 - 1) = l.length := by rw [IntKind.wrap_i64]; omega
    have hw2 : (0 : Int) ≤ (l.length : Int) := by omega
    have hw3 : (l.length : Int) < (l.length : Int) + 1 := by omega
    have c2 := (OwnS.last ownA).1
    have f2 := (OwnS.last ownA).2
    by_cases hc : x ≤ s.2
    · have HJ : Hid (Spn.join (l ++ [s]) (x, y) = l ++ [(s.1, max s.2 y)]) := Spn.join_in l s (x, y) hc
      go_enter Tryz.func73, Tryz.ntmps73
      go_wp2
      go_quiet (fail)
      have nxQ := below_drewN nxA nq
      have ownQ := ownA.drewN nq
      have cB1 : ((w.alloc (.cells #[.int .i64 x, .int .i64 y] 49)).drewN nq).cell? ⟨w.heap.size, 0, none⟩ = some (.int .i64 x) := show (w.alloc (.cells #[.int .i64 x, .int .i64 y] 49)).cell? ⟨w.heap.size, 0, none⟩ = _ by simp
      have cB2 : ((w.alloc (.cells #[.int .i64 x, .int .i64 y] 49)).drewN nq).cell? ⟨w.heap.size, 1, none⟩ = some (.int .i64 y) := show (w.alloc (.cells #[.int .i64 x, .int .i64 y] 49)).cell? ⟨w.heap.size, 1, none⟩ = _ by simp
      have hBW : B ≤ ((w.alloc (.cells #[.int .i64 x, .int .i64 y] 49)).drewN nq).heap.size := by simpa using hBA
      generalize (w.alloc (.cells #[.int .i64 x, .int .i64 y] 49)).drewN nq = W at *
      have cW2 := (OwnS.last ownQ).1
      have fW2 := (OwnS.last ownQ).2
      by_cases hm : s.2 < y
      · have em : max s.2 y = y := by omega
        have R := OwnS.stretch (y := y) ownQ nxQ
        have HR : Hid (_) := R
        rw [em] at HJ
        clear R
        go_wp2
        go_region
        go_wp2
        go_ret
        exact ⟨_, rfl, by rw [HJ.out]; exact HR.out.1, HR.out.2.drew⟩
      · have em : max s.2 y = s.2 := by omega
        have R := OwnS.stretch (y := s.2) ownQ nxQ
        have HR : Hid (_) := R
        rw [em] at HJ
        clear R
        go_wp2
        go_region
        go_wp2
        go_ret
        exact ⟨_, rfl, by rw [HJ.out]; exact HR.out.1, HR.out.2.drew⟩
    · have HJ : Hid (Spn.join (l ++ [s]) (x, y) = (l ++ [s]) ++ [(x, y)]) := Spn.join_out l s (x, y) hc
      have hc' : decide (x ≤ s.2) = false := by simpa using hc
      go_enter Tryz.func73, Tryz.ntmps73
      go_wp2
      go_quiet (fail)
      have nxQ := below_drewN nxA nq
      have ownQ := ownA.drewN nq
      have cB1 : ((w.alloc (.cells #[.int .i64 x, .int .i64 y] 49)).drewN nq).cell? ⟨w.heap.size, 0, none⟩ = some (.int .i64 x) := show (w.alloc (.cells #[.int .i64 x, .int .i64 y] 49)).cell? ⟨w.heap.size, 0, none⟩ = _ by simp
      have cB2 : ((w.alloc (.cells #[.int .i64 x, .int .i64 y] 49)).drewN nq).cell? ⟨w.heap.size, 1, none⟩ = some (.int .i64 y) := show (w.alloc (.cells #[.int .i64 x, .int .i64 y] 49)).cell? ⟨w.heap.size, 1, none⟩ = _ by simp
      have hBW : B ≤ ((w.alloc (.cells #[.int .i64 x, .int .i64 y] 49)).drewN nq).heap.size := by simpa using hBA
      generalize (w.alloc (.cells #[.int .i64 x, .int .i64 y] 49)).drewN nq = W at *
      go_wp2_with (at_builtin; refine wpList_append_own _ rfl (.tmp 34) (.tmp 36) 22 rfl B 49 i0 _ 2 16 Tryz.underlying22 hi hz0 hz1 hz2 rfl (by decide) _ (l ++ [s]).length (flat (l ++ [s])) rfl (World.ownsRow.alloc ownQ _) ⟨W.heap.size, 0, none⟩ 1 1 [.int .i64 x, .int .i64 y] rfl rfl (cell2_new _ _ _ _) (one2 _ _) (by unfold maxLen; simp; omega) (by simp; omega) (by simp; omega) ?_; intro v1 w1 own1 grow1 _)
      have R := OwnS.put (xs := l ++ [s]) hBW ownQ nxQ own1 grow1
      go_wp2
      go_ret
      exact ⟨_, rfl, by rw [HJ.out]; exact R.1, R.2⟩
theorem Spn.size_append (a b : List Spn.Sp) : Spn.size (a ++ b) = Spn.size a + Spn.size b := by
  induction a with
  | nil => simp [Spn.size]
  | cons s a ih => rw [List.cons_append]; show (s.2 - s.1) + Spn.size (a ++ b) = (s.2 - s.1) + Spn.size a + Spn.size b; rw [ih]; omega
set_option maxHeartbeats 1000000 in
theorem pSize (l : List Spn.Sp) (a : Option Addr) (cap : Nat) (w : World) (hl : l.length ≤ maxLen) (hr : Row2 w a l) :
    Calls Tryz.prog 23 #[.slice a l.length cap] w fun e w' => e = .returned (.tuple #[.int .i64 (if Spn.chk l = 0 then Spn.size l else 0), .int .i64 (Spn.chk l)]) ∧ Below w.heap.size w w' := by
  by_cases h : Spn.chk l = 0
  · rw [if_pos h]
    have HS : Hid (_) := Spn.chk_order l h
    have hl64 := ((Spn.chk_zero l).1 h).1
    rw [h]
    go_enter Tryz.func23, Tryz.ntmps23
    go_wp2_with fail
    refine (pCheck l a cap w hl hr).mono ?_
    rintro e w1 ⟨rfl, b⟩
    rw [h]
    clear h
    go_wp2
    go_loopw [5, 15] (fun s i wr => ∃ k : Nat, k ≤ l.length ∧ i = .int .i64 k ∧ s = .int .i64 (Spn.size (l.take k)) ∧ Below w.heap.size w wr) (fun _ i _ => l.length - (intOf i).toNat)
    case atStart => exact ⟨0, Nat.zero_le _, rfl, rfl, b⟩
    case round =>
      obtain ⟨k, hk, rfl, rfl, hnx⟩ := hrel
      by_cases hlt : k < l.length
      · have hlt' : (k : Int) < (l.length : Int) := by omega
        obtain ⟨bb, off, x, y, rfl, hb, hx, c1, c2⟩ := (hr.below hnx).lies hlt
        have hm := HS.out (x, y) (List.mem_of_getElem? hx)
        have b1 := Spn.far_bd x hm.1
        have b2 := Spn.far_bd y hm.2.1
        have HZ : Hid (Spn.size (l.take (k + 1)) = Spn.size (l.take k) + (y - x)) := by
          unfold Hid; rw [Spn.take_succ_of l k x y hx, Spn.size_append]; simp [Spn.size]
        have hz := Spn.size_bd (l.take k) (fun s h => HS.out s (List.mem_of_mem_take h))
        have hz2 : (l.take k).length ≤ 64 := by rw [List.length_take]; omega
        have hz3 : 0 ≤ Spn.size (l.take k) ∧ Spn.size (l.take k) ≤ 140737488355328 := by omega
        have nx1 : Below w.heap.size w (wr.alloc (.cells #[.int .i64 x, .int .i64 y] 49)) := hnx.alloc hnx.size _
        clear hz hz2 hm hx
        generalize Spn.size (l.take k) = Z at hz3 HZ ⊢
        go_wp2
        go_roundw
        case rel => exact ⟨k + 1, by omega, by go_num, by rw [HZ.out], nx1⟩
        case measure => simp [intOf]; omega
      · have hlt' : ¬ (k : Int) < (l.length : Int) := by omega
        have e0 : l.take k = l := List.take_of_length_le (by omega)
        rw [e0]
        go_wp2
        go_ret2
        exact ⟨rfl, hnx⟩
  · rw [if_neg h]
    have hne : (Spn.chk l != 0) = true := by simpa using h
    go_enter Tryz.func23, Tryz.ntmps23
    go_wp2_with fail
    refine (pCheck l a cap w hl hr).mono ?_
    rintro e w1 ⟨rfl, b⟩
    go_wp2
    go_ret2
    exact ⟨rfl, b⟩
end Go.Proofs.YtandlmnbnjkklaaGreatDoor
