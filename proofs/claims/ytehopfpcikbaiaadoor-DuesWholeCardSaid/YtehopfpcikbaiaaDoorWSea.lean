/- The program's searches: the next day of work, so many behind, how many between. -/
import Derived.Test.YtehopfpcikbaiaaDoorWk2ToWTop
namespace Go.Proofs.YtehopfpcikbaiaaDoor
open Go.RowKit

theorem Row4.setCell {W : World} {a : Option Addr} {l : List Wk.Rl} {bl o : Nat} (h : Row4 W a l) (hb : ∀ b off, a = some ⟨b, off, none⟩ → b ≠ bl) (v : Value) : Row4 (W.setCell ⟨bl, o, none⟩ v) a l := by
  rcases h with h | ⟨b, off, rfl, hlt, hc⟩
  · exact .inl h
  · have hne := hb b off rfl
    have hn : ∀ k : Nat, (⟨bl, o, none⟩ : Addr) ≠ ⟨b, k, none⟩ := fun k e => hne (congrArg Addr.block e).symm
    refine .inr ⟨b, off, rfl, Nat.lt_of_lt_of_le hlt (by simp), fun i hi => ?_⟩
    obtain ⟨c1, c2, c3, c4⟩ := hc i hi
    rw [World.cell?_setCell_other _ _ _ _ (hn _), World.cell?_setCell_other _ _ _ _ (hn _), World.cell?_setCell_other _ _ _ _ (hn _), World.cell?_setCell_other _ _ _ _ (hn _)]
    exact ⟨c1, c2, c3, c4⟩
theorem Open.setCell {W : World} {R : Wk.Rst} {l : List Wk.Rl} {a : Option Addr} {bm B n bl o : Nat} (h : Open W R l a bm B n) (h1 : B ≤ bl) (h2 : bl < bm) (v : Value) : Open (W.setCell ⟨bl, o, none⟩ v) R l a bm B n := by
  refine ⟨⟨Nat.lt_of_lt_of_le h.laid.1 (by simp), fun k hk => ?_⟩, ?_, h.few, h.right, h.free, h.low, h.above, h.pos, h.alm.setCell h2 v⟩
  · rw [World.cell?_setCell_other _ _ _ _ (fun e => by have e' : bl = 0 := congrArg Addr.block e; have := h.pos; omega)]
    exact h.laid.2 k hk
  · rcases h.low with e | hlow
    · exact .inl e
    · exact h.rules.setCell (fun b off e => by have := hlow b off e; omega) v
theorem found_next (b : Bool) (W : World) : Calls Tryd.prog 50 #[.bool b] W fun e w' => e = .returned (.bool b) ∧ w' = W := by
  go_enter Tryd.func50, Tryd.ntmps50
  go_wp2
  go_ret
  exact ⟨rfl, rfl⟩
set_option maxRecDepth 100000 in
set_option maxHeartbeats 8000000 in
theorem sNext {W : World} {R : Wk.Rst} {l : List Wk.Rl} {a : Option Addr} {bm B N : Nat} (h : Open W R l a bm B N) (cap : Nat) (n0 : Int) (hN : N ≤ 1000) :
    Calls Tryd.prog 49 #[almV R a l.length cap bm, .int .i64 n0, .func (.func 50) #[] #[]] W fun e W' => e = .returned (.tuple #[.int .i64 (Wk.next R l n0).1, .int .i64 (Wk.next R l n0).2]) ∧ W.grownBy W' (some bm) := by
  have bA := below_box W (.cells #[.bool R.b0, .bool R.b1, .bool R.b2, .bool R.b3, .bool R.b4, .bool R.b5, .bool R.b6, .slice a l.length cap, .map (some bm)] 65)
  have OA := h.below bA
  have gA := grown_of_below bA (some bm)
  have hbm := h.alm.lt
  have hb1 : bm ≠ W.heap.size := by omega
  have CS : (∀ j v, (#[.bool R.b0, .bool R.b1, .bool R.b2, .bool R.b3, .bool R.b4, .bool R.b5, .bool R.b6, .slice a l.length cap, .map (some bm)] : Array Value)[j]? = some v → (W.alloc (.cells #[.bool R.b0, .bool R.b1, .bool R.b2, .bool R.b3, .bool R.b4, .bool R.b5, .bool R.b6, .slice a l.length cap, .map (some bm)] 65)).cell? ⟨W.heap.size, j, none⟩ = some v) := fun j v hj => boxCells W _ _ j v hj
  have HCS : Hid (_) := CS
  clear h CS bA
  have eg : ∀ args w, (callFunc 50 args).run Tryd.prog w = .ok (.enter 50 args) w := enters_of Tryd.func50 (by kernel_rfl) rfl
  go_enter Tryd.func49, Tryd.ntmps49
  go_wp2
  generalize W.alloc (.cells #[.bool R.b0, .bool R.b1, .bool R.b2, .bool R.b3, .bool R.b4, .bool R.b5, .bool R.b6, .slice a l.length cap, .map (some bm)] 65) = wA at *
  go_loopw [1] (fun i wr => ∃ n : Int, i = .int .i64 n ∧ n0 ≤ n ∧ (n = n0 ∨ (1 ≤ n0 ∧ n ≤ 3651694)) ∧ Wk.next R l n0 = Wk.next R l n ∧ Open wr R l a bm B (N + 2 * (n - n0).toNat) ∧ W.grownBy wr (some bm) ∧ (∀ j v, (#[.bool R.b0, .bool R.b1, .bool R.b2, .bool R.b3, .bool R.b4, .bool R.b5, .bool R.b6, .slice a l.length cap, .map (some bm)] : Array Value)[j]? = some v → wr.cell? ⟨W.heap.size, j, none⟩ = some v)) (fun i _ => (3651695 - intOf i).toNat)
  case atStart => exact ⟨n0, rfl, Int.le_refl _, .inl rfl, rfl, by simpa using OA, gA, HCS.out⟩
  case round =>
    clear HCS OA gA
    obtain ⟨n, rfl, hn0, hor, hnx, O1, gr1, CS⟩ := hrel
    have HN : Hid (Wk.next R l n0 = Wk.next R l n) := hnx
    have HC : Hid (_) := CS
    clear hnx CS
    have g0 := HC.out 0 _ rfl
    have g1 := HC.out 1 _ rfl
    have g2 := HC.out 2 _ rfl
    have g3 := HC.out 3 _ rfl
    have g4 := HC.out 4 _ rfl
    have g5 := HC.out 5 _ rfl
    have g6 := HC.out 6 _ rfl
    have g7 := HC.out 7 _ rfl
    have g8 := HC.out 8 _ rfl
    by_cases hin : 1 ≤ n ∧ n ≤ 3651693
    · have hbd : N + 2 * (n - n0).toNat < 90000000 := by rcases hor with e | ⟨e1, e2⟩ <;> omega
      have hw1 : IntKind.i64.wrap (n + 1) = n + 1 := by rw [IntKind.wrap_i64]; omega
      go_wp2_with fail
      refine (wIs_ok O1 cap n hin.1 hin.2 hbd).mono ?_
      rintro e w2 ⟨rfl, O2, gr2⟩
      have gr3 := gr1.trans gr2
      have HC2 : Hid ((∀ j v, (#[.bool R.b0, .bool R.b1, .bool R.b2, .bool R.b3, .bool R.b4, .bool R.b5, .bool R.b6, .slice a l.length cap, .map (some bm)] : Array Value)[j]? = some v → w2.cell? ⟨W.heap.size, j, none⟩ = some v)) := fun j v hj => gr2.cell (HC.out j v hj) (fun e => hb1 (Option.some.inj e).symm)
      have HS : Hid (_) := Wk.next_in R l n hin.1 hin.2
      clear g0 g1 g2 g3 g4 g5 g6 g7 g8
      clear O1 gr1 gr2 HC
      cases hW : Wk.isW R l n with
      | true =>
        have HE : Hid (Wk.next R l n0 = (n, 0)) := by unfold Hid; rw [HN.out, HS.out, if_pos hW]
        clear hW
        go_wp2_with (go_at_fn 50; refine (found_next _ _).mono ?_; rintro e w3 ⟨rfl, rfl⟩)
        go_ret2
        exact ⟨by rw [HE.out] <;> rfl, gr3⟩
      | false =>
        have HE : Hid (Wk.next R l n0 = Wk.next R l (n + 1)) := by unfold Hid; rw [HN.out, HS.out, if_neg (by rw [hW]; decide)]
        clear hW
        go_wp2_with (go_at_fn 50; refine (found_next _ _).mono ?_; rintro e w3 ⟨rfl, rfl⟩)
        go_roundw
        case rel => exact ⟨n + 1, by go_num, by omega, .inr (by rcases hor with e | e <;> omega), HE.out, O2.mono (by omega), gr3, HC2.out⟩
        case measure => simp [intOf]; omega
    · have HE : Hid (Wk.next R l n0 = (0, 3)) := by unfold Hid; rw [HN.out, Wk.next_out R l n hin]
      go_wp2_with fail
      refine (wIs_no O1 cap n hin).mono ?_
      rintro e w2 ⟨rfl, O2, gr2⟩
      have gr3 := gr1.trans gr2
      clear g0 g1 g2 g3 g4 g5 g6 g7 g8
      clear O1 gr1 gr2 HC O2 hin
      go_wp2
      go_ret2
      exact ⟨by rw [HE.out] <;> rfl, gr3⟩
end Go.Proofs.YtehopfpcikbaiaaDoor
