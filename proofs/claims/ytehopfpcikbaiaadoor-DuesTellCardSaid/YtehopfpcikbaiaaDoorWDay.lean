/- The program's day of a rule in a year. -/
import Derived.Test.YtehopfpcikbaiaaDoorWCal
import Derived.Test.YtehopfpcikbaiaaDoorEasToEWalk
import Derived.Test.YtehopfpcikbaiaaDoorEasToEWalk
namespace Go.Proofs.YtehopfpcikbaiaaDoor
open Go.RowKit

theorem boxCells (w : World) (vs : Array Value) (t : TypeId) (j : Nat) (v : Value) (h : vs[j]? = some v) : (w.alloc (.cells vs t)).cell? ⟨w.heap.size, j, none⟩ = some v := by
  have hb : (w.alloc (.cells vs t)).heap[w.heap.size]? = some (.cells vs t) := heap_alloc_new w _
  simp only [World.cell?, hb]
  simp only [Option.isSome_none, Bool.false_eq_true, if_false]
  exact h
theorem almCell (R : Wk.Rst) (s m : Value) (t : TypeId) (w : World) (k : Nat) (hk : k < 7) :
    (w.alloc (.cells #[.bool R.b0, .bool R.b1, .bool R.b2, .bool R.b3, .bool R.b4, .bool R.b5, .bool R.b6, s, m] t)).cell? ⟨w.heap.size, k, none⟩ = some (.bool (R.at k)) := by
  match k, hk with
  | 0, _ => simp [Wk.Rst.at]
  | 1, _ => simp [Wk.Rst.at]
  | 2, _ => simp [Wk.Rst.at]
  | 3, _ => simp [Wk.Rst.at]
  | 4, _ => simp [Wk.Rst.at]
  | 5, _ => simp [Wk.Rst.at]
  | 6, _ => simp [Wk.Rst.at]
set_option maxRecDepth 100000 in
set_option maxHeartbeats 1000000 in
theorem wRest (R : Wk.Rst) (a : Option Addr) (len cap bm : Nat) (n : Int) (w : World) (h1 : 1 ≤ n) (h2 : n ≤ 4000000) :
    Calls Tryd.prog 42 #[almV R a len cap bm, .int .i64 n] w fun e w' => e = .returned (.bool (R.rest n)) ∧ Below w.heap.size w w' := by
  obtain ⟨k, hk⟩ : ∃ k : Nat, (n - 1) % 7 = (k : Int) := ⟨((n - 1) % 7).toNat, by omega⟩
  have hk7 : k < 7 := by omega
  have e0 : R.rest n = R.at k := by unfold Wk.Rst.rest; rw [hk]
  rw [e0]
  have c := almCell R (.slice a len cap) (.map (some bm)) 65 w k hk7
  have bA := below_box w (.cells #[.bool R.b0, .bool R.b1, .bool R.b2, .bool R.b3, .bool R.b4, .bool R.b5, .bool R.b6, .slice a len cap, .map (some bm)] 65)
  have hk0 : (0 : Int) ≤ (k : Int) := by omega
  have hk7' : (k : Int) < 7 := by omega
  clear e0
  generalize R.at k = r at c ⊢
  go_enter Tryd.func42, Tryd.ntmps42
  go_wp2
  go_ret
  exact ⟨rfl, bA⟩
set_option maxRecDepth 100000 in
set_option maxHeartbeats 2000000 in
theorem wFixed_err (R : Wk.Rst) (a : Option Addr) (len cap bm : Nat) (k m d wd y : Int) (w : World) (hw : Laid w) (hv : ¬ Cal.vld y m d) :
    Calls Tryd.prog 79 #[almV R a len cap bm, .agg #[.int .i64 k, .int .i64 m, .int .i64 d, .int .i64 wd], .int .i64 y] w fun e w' => e = .returned (.tuple #[.int .i64 0, .int .i64 3]) ∧ Below w.heap.size w w' := by
  have b1 := below_box w (.cells #[.bool R.b0, .bool R.b1, .bool R.b2, .bool R.b3, .bool R.b4, .bool R.b5, .bool R.b6, .slice a len cap, .map (some bm)] 65)
  have b2 := b1.alloc (by simp) (.cells #[.int .i64 k, .int .i64 m, .int .i64 d, .int .i64 wd] 74)
  have hw2 := hw.below b2
  go_enter Tryd.func79, Tryd.ntmps79
  go_wp2_with fail
  refine (day_err y m d _ hw2 hv).mono ?_
  rintro e w1 ⟨rfl, b3⟩
  have B := below_next b2 (Nat.le_refl _) b3
  clear b3
  go_wp2
  go_ret2
  exact ⟨rfl, B⟩
set_option maxRecDepth 100000 in
set_option maxHeartbeats 4000000 in
theorem wFixed_ok (R : Wk.Rst) (a : Option Addr) (len cap bm : Nat) (k m d wd y : Int) (w : World) (hw : Laid w) (hv : Cal.vld y m d) (hR : R.all = false) :
    Calls Tryd.prog 79 #[almV R a len cap bm, .agg #[.int .i64 k, .int .i64 m, .int .i64 d, .int .i64 wd], .int .i64 y] w fun e w' => e = .returned (.tuple #[.int .i64 (Wk.push R (Cal.num y m d)), .int .i64 0]) ∧ Below w.heap.size w w' := by
  have b1 := below_box w (.cells #[.bool R.b0, .bool R.b1, .bool R.b2, .bool R.b3, .bool R.b4, .bool R.b5, .bool R.b6, .slice a len cap, .map (some bm)] 65)
  have b2 := b1.alloc (by simp) (.cells #[.int .i64 k, .int .i64 m, .int .i64 d, .int .i64 wd] 74)
  have hw2 := hw.below b2
  have hn := Cal.num_in y m d hv
  have hp := Wk.push_spec R hR (Cal.num y m d)
  have HU : Hid (∀ x, Cal.num y m d ≤ x → R.rest x = false → (∀ z, Cal.num y m d ≤ z → z < x → R.rest z = true) → x = Wk.push R (Cal.num y m d)) := fun x h1 h2 h3 => Wk.push_unique R hR _ x h1 h2 h3
  have HP : Hid (∀ z, Cal.num y m d ≤ z → z < Wk.push R (Cal.num y m d) → R.rest z = true) := hp.2.2.2
  have hp1 := hp.1
  have hp2 := hp.2.1
  have HL : Hid (R.rest (Wk.push R (Cal.num y m d)) = false) := hp.2.2.1
  clear hp
  have hd := day_ok y m d _ hw2 hv
  generalize Wk.push R (Cal.num y m d) = X at *
  generalize Cal.num y m d = N at *
  go_enter Tryd.func79, Tryd.ntmps79
  go_wp2_with fail
  refine hd.mono ?_
  rintro e w1 ⟨rfl, b3⟩
  have B := below_next b2 (Nat.le_refl _) b3
  have hs : w.heap.size < w1.heap.size := by have := b3.size; simp at this; omega
  have cells : ∀ j v, (#[.bool R.b0, .bool R.b1, .bool R.b2, .bool R.b3, .bool R.b4, .bool R.b5, .bool R.b6, .slice a len cap, .map (some bm)] : Array Value)[j]? = some v → w1.cell? ⟨w.heap.size, j, none⟩ = some v := by
    intro j v hj
    refine (b3.cell (p := ⟨w.heap.size, j, none⟩) (by simp; omega)).trans ?_
    refine Lib.cell?_alloc_some _ ?_
    exact boxCells w _ _ j v hj
  clear b1 b2 b3 hw2 hv hd
  go_wp2
  go_loopw [8] (fun i wr => ∃ n : Int, N ≤ n ∧ n ≤ X ∧ i = .int .i64 n ∧ (∀ j v, (#[.bool R.b0, .bool R.b1, .bool R.b2, .bool R.b3, .bool R.b4, .bool R.b5, .bool R.b6, .slice a len cap, .map (some bm)] : Array Value)[j]? = some v → wr.cell? ⟨w.heap.size, j, none⟩ = some v) ∧ w.heap.size < wr.heap.size ∧ Below w.heap.size w wr) (fun i _ => (X - intOf i).toNat)
  case atStart => exact ⟨N, by omega, by omega, rfl, cells, hs, B⟩
  case round =>
    clear cells
    obtain ⟨n, h1, h2, rfl, cells, hsr, hnx⟩ := hrel
    have g0 := cells 0 _ rfl
    have g1 := cells 1 _ rfl
    have g2 := cells 2 _ rfl
    have g3 := cells 3 _ rfl
    have g4 := cells 4 _ rfl
    have g5 := cells 5 _ rfl
    have g6 := cells 6 _ rfl
    have g7 := cells 7 _ rfl
    have g8 := cells 8 _ rfl
    have HC : Hid (_) := cells
    clear cells
    go_wp2_with fail
    refine (wRest R a len cap bm n wr (by omega) (by omega)).mono ?_
    rintro e w2 ⟨rfl, b2⟩
    have nx2 := below_next hnx (Nat.le_refl _) b2
    have hs2 : w.heap.size < w2.heap.size := Nat.lt_of_lt_of_le hsr b2.size
    have HC2 : Hid (∀ j v, (#[.bool R.b0, .bool R.b1, .bool R.b2, .bool R.b3, .bool R.b4, .bool R.b5, .bool R.b6, .slice a len cap, .map (some bm)] : Array Value)[j]? = some v → w2.cell? ⟨w.heap.size, j, none⟩ = some v) := fun j v hj => (b2.cell (p := ⟨w.heap.size, j, none⟩) hsr).trans (HC.out j v hj)
    clear g0 g1 g2 g3 g4 g5 g6 g7 g8 b2
    by_cases hx : n = X
    · rw [hx, HL.out]
      go_wp2
      go_ret2
      exact ⟨rfl, nx2⟩
    · rw [HP.out n h1 (by omega)]
      go_wp2
      go_roundw
      case rel => exact ⟨n + 1, by omega, by omega, by go_num, HC2.out, hs2, nx2⟩
      case measure => simp [intOf]; omega
end Go.Proofs.YtehopfpcikbaiaaDoor
