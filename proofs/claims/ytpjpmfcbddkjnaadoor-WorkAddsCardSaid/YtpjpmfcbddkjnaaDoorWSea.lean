/- The program's searches: the next day of work, so many behind, how many between. -/
import Derived.Test.YtpjpmfcbddkjnaaDoorWTop
namespace Go.Proofs.YtpjpmfcbddkjnaaDoor
open Go.RowKit

theorem Row4.setCell {W : World} {a : Option Addr} {l : List Wk.Rl} {bl o : Nat} (h : Row4 W a l) (hb : ∀ b off, a = some ⟨b, off, none⟩ → b ≠ bl) (v : Value) : Row4 (W.setCell ⟨bl, o, none⟩ v) a l := by
  rcases h with h | ⟨b, off, rfl, hlt, hc⟩
  · exact .inl h
  · have hne := hb b off rfl
    have hn : ∀ k : Nat, (⟨bl, o, none⟩ : Addr) ≠ ⟨b, k, none⟩ := fun k e => hne (congrArg Addr.block e).symm
    refine .inr ⟨b, off, rfl, Nat.lt_of_lt_of_le hlt (by simp), fun i hi => ?_⟩
    obtain ⟨c1, c2, c3, c4⟩ := hc i hi
    rw [World.cell?_setCell_other _ _ _ _ (hn _), World.cell?_setCell_other _ _ _ _ (hn _), World.cell?_setCell_other _ _ _ _ (hn _), World.cell?_setCell_other _ _ _ _ (hn _)]
    exact ⟨c1, c2, c3, c4⟩
theorem Open.setCell {W : World} {R : Wk.Rst} {l : List Wk.Rl} {a : Option Addr} {bm B n bl o : Nat} (h : Open W R l a bm B n) (h1 : B ≤ bl) (h2 : bl < bm) (v : Value) : Open (W.setCell ⟨bl, o, none⟩ v) R l a bm B n := by
  refine ⟨⟨Nat.lt_of_lt_of_le h.laid.1 (by simp), fun k hk => ?_⟩, ?_, h.few, h.right, h.free, h.low, h.above, h.pos, h.alm.setCell h2 v⟩
  · rw [World.cell?_setCell_other _ _ _ _ (fun e => by have e' : bl = 0 := congrArg Addr.block e; have := h.pos; omega)]
    exact h.laid.2 k hk
  · rcases h.low with e | hlow
    · exact .inl e
    · exact h.rules.setCell (fun b off e => by have := hlow b off e; omega) v
theorem found_next (b : Bool) (W : World) : Calls Tryd.prog 37 #[.bool b] W fun e w' => e = .returned (.bool b) ∧ w' = W := by
  go_enter Tryd.func37, Tryd.ntmps37
  go_wp2
  go_ret
  exact ⟨rfl, rfl⟩
theorem found_add_no (bl : Nat) (c : Int) (W : World) (h1 : 1 ≤ c) (_h2 : c ≤ 400) (hc : W.cell? ⟨bl, 0, none⟩ = some (.int .i64 c)) : Calls Tryd.prog 39 #[.bool false, .pointer (some ⟨bl, 0, none⟩)] W fun e w' => e = .returned (.bool false) ∧ w' = W := by
  have h0 : (c == 0) = false := by simp; omega
  go_enter Tryd.func39, Tryd.ntmps39
  go_wp2
  go_ret
  exact ⟨rfl, rfl⟩
theorem found_add_yes (bl : Nat) (c : Int) (r : Bool) (W : World) (h1 : 1 ≤ c) (h2 : c ≤ 400) (hr : decide (c = 1) = r) (hc : W.cell? ⟨bl, 0, none⟩ = some (.int .i64 c)) (hf : W.frozen? ⟨bl, 0, none⟩ = false) : Calls Tryd.prog 39 #[.bool true, .pointer (some ⟨bl, 0, none⟩)] W fun e w' => e = .returned (.bool r) ∧ w' = W.setCell ⟨bl, 0, none⟩ (.int .i64 (c - 1)) := by
  have hw : IntKind.i64.wrap (c - 1) = c - 1 := by rw [IntKind.wrap_i64]; omega
  have h0 : (c - 1 == 0) = r := by rw [← hr]; by_cases e : c = 1 <;> simp [e] <;> omega
  clear hr
  go_enter Tryd.func39, Tryd.ntmps39
  go_wp2
  go_ret
  exact ⟨rfl, rfl⟩
set_option maxRecDepth 100000 in
set_option maxHeartbeats 8000000 in
theorem sNext {W : World} {R : Wk.Rst} {l : List Wk.Rl} {a : Option Addr} {bm B N : Nat} (h : Open W R l a bm B N) (cap : Nat) (n0 : Int) (hN : N ≤ 1000) :
    Calls Tryd.prog 36 #[almV R a l.length cap bm, .int .i64 n0, .func (.func 37) #[] #[]] W fun e W' => e = .returned (.tuple #[.int .i64 (Wk.next R l n0).1, .int .i64 (Wk.next R l n0).2]) ∧ W.grownBy W' (some bm) := by
  have bA := below_box W (.cells #[.bool R.b0, .bool R.b1, .bool R.b2, .bool R.b3, .bool R.b4, .bool R.b5, .bool R.b6, .slice a l.length cap, .map (some bm)] 52)
  have OA := h.below bA
  have gA := grown_of_below bA (some bm)
  have hbm := h.alm.lt
  have hb1 : bm ≠ W.heap.size := by omega
  have CS : (∀ j v, (#[.bool R.b0, .bool R.b1, .bool R.b2, .bool R.b3, .bool R.b4, .bool R.b5, .bool R.b6, .slice a l.length cap, .map (some bm)] : Array Value)[j]? = some v → (W.alloc (.cells #[.bool R.b0, .bool R.b1, .bool R.b2, .bool R.b3, .bool R.b4, .bool R.b5, .bool R.b6, .slice a l.length cap, .map (some bm)] 52)).cell? ⟨W.heap.size, j, none⟩ = some v) := fun j v hj => boxCells W _ _ j v hj
  have HCS : Hid (_) := CS
  clear h CS bA
  have eg : ∀ args w, (callFunc 37 args).run Tryd.prog w = .ok (.enter 37 args) w := enters_of Tryd.func37 (by kernel_rfl) rfl
  go_enter Tryd.func36, Tryd.ntmps36
  go_wp2
  generalize W.alloc (.cells #[.bool R.b0, .bool R.b1, .bool R.b2, .bool R.b3, .bool R.b4, .bool R.b5, .bool R.b6, .slice a l.length cap, .map (some bm)] 52) = wA at *
  go_loopw [1] (fun i wr => ∃ n : Int, i = .int .i64 n ∧ n0 ≤ n ∧ (n = n0 ∨ (1 ≤ n0 ∧ n ≤ 3651694)) ∧ Wk.next R l n0 = Wk.next R l n ∧ Open wr R l a bm B (N + 2 * (n - n0).toNat) ∧ W.grownBy wr (some bm) ∧ (∀ j v, (#[.bool R.b0, .bool R.b1, .bool R.b2, .bool R.b3, .bool R.b4, .bool R.b5, .bool R.b6, .slice a l.length cap, .map (some bm)] : Array Value)[j]? = some v → wr.cell? ⟨W.heap.size, j, none⟩ = some v)) (fun i _ => (3651695 - intOf i).toNat)
  case atStart => exact ⟨n0, rfl, Int.le_refl _, .inl rfl, rfl, by simpa using OA, gA, HCS.out⟩
  case round =>
    clear HCS OA gA
    obtain ⟨n, rfl, hn0, hor, hnx, O1, gr1, CS⟩ := hrel
    have HN : Hid (Wk.next R l n0 = Wk.next R l n) := hnx
    have HC : Hid (_) := CS
    clear hnx CS
    have g0 := HC.out 0 _ rfl
    have g1 := HC.out 1 _ rfl
    have g2 := HC.out 2 _ rfl
    have g3 := HC.out 3 _ rfl
    have g4 := HC.out 4 _ rfl
    have g5 := HC.out 5 _ rfl
    have g6 := HC.out 6 _ rfl
    have g7 := HC.out 7 _ rfl
    have g8 := HC.out 8 _ rfl
    by_cases hin : 1 ≤ n ∧ n ≤ 3651693
    · have hbd : N + 2 * (n - n0).toNat < 90000000 := by rcases hor with e | ⟨e1, e2⟩ <;> omega
      have hw1 : IntKind.i64.wrap (n + 1) = n + 1 := by rw [IntKind.wrap_i64]; omega
      go_wp2_with fail
      refine (wIs_ok O1 cap n hin.1 hin.2 hbd).mono ?_
      rintro e w2 ⟨rfl, O2, gr2⟩
      have gr3 := gr1.trans gr2
      have HC2 : Hid ((∀ j v, (#[.bool R.b0, .bool R.b1, .bool R.b2, .bool R.b3, .bool R.b4, .bool R.b5, .bool R.b6, .slice a l.length cap, .map (some bm)] : Array Value)[j]? = some v → w2.cell? ⟨W.heap.size, j, none⟩ = some v)) := fun j v hj => gr2.cell (HC.out j v hj) (fun e => hb1 (Option.some.inj e).symm)
      have HS : Hid (_) := Wk.next_in R l n hin.1 hin.2
      clear g0 g1 g2 g3 g4 g5 g6 g7 g8
      clear O1 gr1 gr2 HC
      cases hW : Wk.isW R l n with
      | true =>
        have HE : Hid (Wk.next R l n0 = (n, 0)) := by unfold Hid; rw [HN.out, HS.out, if_pos hW]
        clear hW
        go_wp2_with (go_at_fn 37; refine (found_next _ _).mono ?_; rintro e w3 ⟨rfl, rfl⟩)
        go_ret2
        exact ⟨by rw [HE.out] <;> rfl, gr3⟩
      | false =>
        have HE : Hid (Wk.next R l n0 = Wk.next R l (n + 1)) := by unfold Hid; rw [HN.out, HS.out, if_neg (by rw [hW]; decide)]
        clear hW
        go_wp2_with (go_at_fn 37; refine (found_next _ _).mono ?_; rintro e w3 ⟨rfl, rfl⟩)
        go_roundw
        case rel => exact ⟨n + 1, by go_num, by omega, .inr (by rcases hor with e | e <;> omega), HE.out, O2.mono (by omega), gr3, HC2.out⟩
        case measure => simp [intOf]; omega
    · have HE : Hid (Wk.next R l n0 = (0, 3)) := by unfold Hid; rw [HN.out, Wk.next_out R l n hin]
      go_wp2_with fail
      refine (wIs_no O1 cap n hin).mono ?_
      rintro e w2 ⟨rfl, O2, gr2⟩
      have gr3 := gr1.trans gr2
      clear g0 g1 g2 g3 g4 g5 g6 g7 g8
      clear O1 gr1 gr2 HC O2 hin
      go_wp2
      go_ret2
      exact ⟨by rw [HE.out] <;> rfl, gr3⟩
set_option maxRecDepth 100000 in
set_option maxHeartbeats 8000000 in
theorem sAdd {w0 W : World} {R : Wk.Rst} {l : List Wk.Rl} {a : Option Addr} {bm B N : Nat} (h : Open W R l a bm B N) (cap bl : Nat) (n0 c0 : Int) (hN : N ≤ 1000) (hb0 : Below B w0 W) (hbl1 : B ≤ bl) (hbl2 : bl < bm) (hc1 : 1 ≤ c0) (hc2 : c0 ≤ 400) (hcell : W.cell? ⟨bl, 0, none⟩ = some (.int .i64 c0)) (hfr : W.frozen? ⟨bl, 0, none⟩ = false) :
    Calls Tryd.prog 36 #[almV R a l.length cap bm, .int .i64 n0, .func (.func 39) #[] #[.pointer (some ⟨bl, 0, none⟩)]] W fun e W' => e = .returned (.tuple #[.int .i64 (Wk.addS R l n0 c0).1, .int .i64 (Wk.addS R l n0 c0).2]) ∧ Below B w0 W' := by
  have bA := below_box W (.cells #[.bool R.b0, .bool R.b1, .bool R.b2, .bool R.b3, .bool R.b4, .bool R.b5, .bool R.b6, .slice a l.length cap, .map (some bm)] 52)
  have OA := h.below bA
  have hbm := h.alm.lt
  have hb1 : bm ≠ W.heap.size := by omega
  have hb2 : bl ≠ W.heap.size := by omega
  have hBW : B ≤ W.heap.size := by omega
  have BA : Below B w0 (W.alloc (.cells #[.bool R.b0, .bool R.b1, .bool R.b2, .bool R.b3, .bool R.b4, .bool R.b5, .bool R.b6, .slice a l.length cap, .map (some bm)] 52)) := hb0.alloc hBW _
  have lc : (W.alloc (.cells #[.bool R.b0, .bool R.b1, .bool R.b2, .bool R.b3, .bool R.b4, .bool R.b5, .bool R.b6, .slice a l.length cap, .map (some bm)] 52)).cell? ⟨bl, 0, none⟩ = some (.int .i64 c0) := (bA.cell (p := ⟨bl, 0, none⟩) (show bl < W.heap.size by omega)).trans hcell
  have lf : (W.alloc (.cells #[.bool R.b0, .bool R.b1, .bool R.b2, .bool R.b3, .bool R.b4, .bool R.b5, .bool R.b6, .slice a l.length cap, .map (some bm)] 52)).frozen? ⟨bl, 0, none⟩ = false := (World.frozen?_of_block (a := ⟨bl, 0, none⟩) (bA.block bl (by omega))).trans hfr
  have CS : (∀ j v, (#[.bool R.b0, .bool R.b1, .bool R.b2, .bool R.b3, .bool R.b4, .bool R.b5, .bool R.b6, .slice a l.length cap, .map (some bm)] : Array Value)[j]? = some v → (W.alloc (.cells #[.bool R.b0, .bool R.b1, .bool R.b2, .bool R.b3, .bool R.b4, .bool R.b5, .bool R.b6, .slice a l.length cap, .map (some bm)] 52)).cell? ⟨W.heap.size, j, none⟩ = some v) := fun j v hj => boxCells W _ _ j v hj
  have HCS : Hid (_) := CS
  clear h CS bA hb0 hcell hfr
  have eg : ∀ args w, (callFunc 39 args).run Tryd.prog w = .ok (.enter 39 args) w := enters_of Tryd.func39 (by kernel_rfl) rfl
  go_enter Tryd.func36, Tryd.ntmps36
  go_wp2
  generalize W.alloc (.cells #[.bool R.b0, .bool R.b1, .bool R.b2, .bool R.b3, .bool R.b4, .bool R.b5, .bool R.b6, .slice a l.length cap, .map (some bm)] 52) = wA at *
  go_loopw [1] (fun i wr => ∃ n c : Int, i = .int .i64 n ∧ n0 ≤ n ∧ (n = n0 ∨ (1 ≤ n0 ∧ n ≤ 3651694)) ∧ 1 ≤ c ∧ c ≤ 400 ∧ Wk.addS R l n0 c0 = Wk.addS R l n c ∧ Open wr R l a bm B (N + 2 * (n - n0).toNat) ∧ Below B w0 wr ∧ wr.cell? ⟨bl, 0, none⟩ = some (.int .i64 c) ∧ wr.frozen? ⟨bl, 0, none⟩ = false ∧ (∀ j v, (#[.bool R.b0, .bool R.b1, .bool R.b2, .bool R.b3, .bool R.b4, .bool R.b5, .bool R.b6, .slice a l.length cap, .map (some bm)] : Array Value)[j]? = some v → wr.cell? ⟨W.heap.size, j, none⟩ = some v)) (fun i _ => (3651695 - intOf i).toNat)
  case atStart => exact ⟨n0, c0, rfl, Int.le_refl _, .inl rfl, hc1, hc2, rfl, by simpa using OA, BA, lc, lf, HCS.out⟩
  case round =>
    clear HCS OA BA lc lf
    obtain ⟨n, c, rfl, hn0, hor, hca, hcb, hnx, O1, Bw1, lc, lf, CS⟩ := hrel
    have HN : Hid (Wk.addS R l n0 c0 = Wk.addS R l n c) := hnx
    have HC : Hid (_) := CS
    clear hnx CS
    have g0 := HC.out 0 _ rfl
    have g1 := HC.out 1 _ rfl
    have g2 := HC.out 2 _ rfl
    have g3 := HC.out 3 _ rfl
    have g4 := HC.out 4 _ rfl
    have g5 := HC.out 5 _ rfl
    have g6 := HC.out 6 _ rfl
    have g7 := HC.out 7 _ rfl
    have g8 := HC.out 8 _ rfl
    by_cases hin : 1 ≤ n ∧ n ≤ 3651693
    · have hbd : N + 2 * (n - n0).toNat < 90000000 := by rcases hor with e | ⟨e1, e2⟩ <;> omega
      have hw1 : IntKind.i64.wrap (n + 1) = n + 1 := by rw [IntKind.wrap_i64]; omega
      have hbm1 : B ≤ bm := O1.above
      have hBr : B ≤ wr.heap.size := by have := O1.alm.lt; omega
      go_wp2_with fail
      refine (wIs_ok O1 cap n hin.1 hin.2 hbd).mono ?_
      rintro e w2 ⟨rfl, O2, gr2⟩
      have Bw2 := Bw1.grown gr2 hBr (fun j hj => by cases hj; exact hbm1)
      have lc2 : w2.cell? ⟨bl, 0, none⟩ = some (.int .i64 c) := gr2.cell lc (fun e => by have e' : bl = bm := Option.some.inj e; omega)
      have lf2 : w2.frozen? ⟨bl, 0, none⟩ = false := (World.frozen?_of_block (a := ⟨bl, 0, none⟩) (gr2.block bl (block_lt_of_cell lc) (fun e => by have e' : bl = bm := Option.some.inj e; omega))).trans lf
      have HC2 : Hid ((∀ j v, (#[.bool R.b0, .bool R.b1, .bool R.b2, .bool R.b3, .bool R.b4, .bool R.b5, .bool R.b6, .slice a l.length cap, .map (some bm)] : Array Value)[j]? = some v → w2.cell? ⟨W.heap.size, j, none⟩ = some v)) := fun j v hj => gr2.cell (HC.out j v hj) (fun e => hb1 (Option.some.inj e).symm)
      have HS : Hid (_) := Wk.addS_in R l n c hin.1 hin.2
      clear g0 g1 g2 g3 g4 g5 g6 g7 g8
      clear O1 Bw1 gr2 HC lc lf
      cases hW : Wk.isW R l n with
      | true =>
        have B3 : Below B w0 (w2.setCell ⟨bl, 0, none⟩ (.int .i64 (c - 1))) := Bw2.setCell hbl1 _
        have HO3 : Hid (_) := O2.setCell (o := 0) hbl1 hbl2 (.int .i64 (c - 1))
        have lc3 : (w2.setCell ⟨bl, 0, none⟩ (.int .i64 (c - 1))).cell? ⟨bl, 0, none⟩ = some (.int .i64 (c - 1)) := World.cell?_setCell_same _ _ _ lc2
        have HC3 : Hid ((∀ j v, (#[.bool R.b0, .bool R.b1, .bool R.b2, .bool R.b3, .bool R.b4, .bool R.b5, .bool R.b6, .slice a l.length cap, .map (some bm)] : Array Value)[j]? = some v → (w2.setCell ⟨bl, 0, none⟩ (.int .i64 (c - 1))).cell? ⟨W.heap.size, j, none⟩ = some v)) := fun j v hj => by
          rw [World.cell?_setCell_other _ _ _ _ (fun e => hb2 (congrArg Addr.block e))]
          exact HC2.out j v hj
        cases hone : decide (c = 1) with
        | true =>
          have HE : Hid (Wk.addS R l n0 c0 = (n, 0)) := by unfold Hid; rw [HN.out, HS.out, if_pos hW, if_pos (of_decide_eq_true hone)]
          clear hW lc3
          go_wp2_with (go_at_fn 39; refine (found_add_yes bl c true _ hca hcb hone lc2 lf2).mono ?_; rintro e w3 ⟨rfl, rfl⟩)
          go_ret2
          exact ⟨by rw [HE.out] <;> rfl, B3⟩
        | false =>
          have hc' := of_decide_eq_false hone
          have HE : Hid (Wk.addS R l n0 c0 = Wk.addS R l (n + 1) (c - 1)) := by unfold Hid; rw [HN.out, HS.out, if_pos hW, if_neg hc']
          clear hW
          have lf3 : (w2.setCell ⟨bl, 0, none⟩ (.int .i64 (c - 1))).frozen? ⟨bl, 0, none⟩ = false := by simpa using lf2
          have HLC : Hid (_) := And.intro lc3 lf3
          clear lc3 lf3
          go_wp2_with (go_at_fn 39; refine (found_add_yes bl c false _ hca hcb hone lc2 lf2).mono ?_; rintro e w3 ⟨rfl, rfl⟩)
          go_roundw
          case rel => exact ⟨n + 1, c - 1, by go_num, by omega, .inr (by rcases hor with e | e <;> omega), by omega, by omega, HE.out, Open.mono HO3.out (by omega), B3, HLC.out.1, HLC.out.2, HC3.out⟩
          case measure => simp [intOf]; omega
      | false =>
        have HE : Hid (Wk.addS R l n0 c0 = Wk.addS R l (n + 1) c) := by unfold Hid; rw [HN.out, HS.out, if_neg (by rw [hW]; decide)]
        clear hW
        go_wp2_with (go_at_fn 39; refine (found_add_no bl c _ hca hcb lc2).mono ?_; rintro e w3 ⟨rfl, rfl⟩)
        go_roundw
        case rel => exact ⟨n + 1, c, by go_num, by omega, .inr (by rcases hor with e | e <;> omega), hca, hcb, HE.out, O2.mono (by omega), Bw2, lc2, lf2, HC2.out⟩
        case measure => simp [intOf]; omega
    · have HE : Hid (Wk.addS R l n0 c0 = (0, 3)) := by unfold Hid; rw [HN.out, Wk.addS_out R l n c hin]
      have hbm1 : B ≤ bm := O1.above
      have hBr : B ≤ wr.heap.size := by have := O1.alm.lt; omega
      go_wp2_with fail
      refine (wIs_no O1 cap n hin).mono ?_
      rintro e w2 ⟨rfl, O2, gr2⟩
      have Bw2 := Bw1.grown gr2 hBr (fun j hj => by cases hj; exact hbm1)
      clear g0 g1 g2 g3 g4 g5 g6 g7 g8
      clear O1 Bw1 gr2 HC O2 hin lc lf
      go_wp2
      go_ret2
      exact ⟨by rw [HE.out] <;> rfl, Bw2⟩
set_option maxRecDepth 100000 in
set_option maxHeartbeats 8000000 in
theorem sCount {W : World} {R : Wk.Rst} {l : List Wk.Rl} {a : Option Addr} {bm B N : Nat} (h : Open W R l a bm B N) (cap : Nat) (n0 n1 : Int) (hN : N ≤ 1000) (h1 : 1 ≤ n0) (h2 : n0 ≤ n1) (h3 : n1 ≤ 3651693) (h4 : n1 - n0 ≤ 2000) :
    Calls Tryd.prog 40 #[almV R a l.length cap bm, .int .i64 n0, .int .i64 n1] W fun e W' => e = .returned (.tuple #[.int .i64 (Wk.cnt R l n0 (n1 - n0).toNat), .int .i64 0]) ∧ W.grownBy W' (some bm) := by
  have bA := below_box W (.cells #[.bool R.b0, .bool R.b1, .bool R.b2, .bool R.b3, .bool R.b4, .bool R.b5, .bool R.b6, .slice a l.length cap, .map (some bm)] 52)
  have OA := h.below bA
  have gA := grown_of_below bA (some bm)
  have hbm := h.alm.lt
  have hb1 : bm ≠ W.heap.size := by omega
  have CS : (∀ j v, (#[.bool R.b0, .bool R.b1, .bool R.b2, .bool R.b3, .bool R.b4, .bool R.b5, .bool R.b6, .slice a l.length cap, .map (some bm)] : Array Value)[j]? = some v → (W.alloc (.cells #[.bool R.b0, .bool R.b1, .bool R.b2, .bool R.b3, .bool R.b4, .bool R.b5, .bool R.b6, .slice a l.length cap, .map (some bm)] 52)).cell? ⟨W.heap.size, j, none⟩ = some v) := fun j v hj => boxCells W _ _ j v hj
  have HCS : Hid (_) := CS
  clear h CS bA
  go_enter Tryd.func40, Tryd.ntmps40
  go_wp2
  generalize W.alloc (.cells #[.bool R.b0, .bool R.b1, .bool R.b2, .bool R.b3, .bool R.b4, .bool R.b5, .bool R.b6, .slice a l.length cap, .map (some bm)] 52) = wA at *
  go_loopw [8, 9] (fun s i wr => ∃ k : Nat, (k : Int) ≤ n1 - n0 ∧ i = .int .i64 (n0 + k) ∧ s = .int .i64 (Wk.cnt R l n0 k) ∧ Open wr R l a bm B (N + 2 * k) ∧ W.grownBy wr (some bm) ∧ (∀ j v, (#[.bool R.b0, .bool R.b1, .bool R.b2, .bool R.b3, .bool R.b4, .bool R.b5, .bool R.b6, .slice a l.length cap, .map (some bm)] : Array Value)[j]? = some v → wr.cell? ⟨W.heap.size, j, none⟩ = some v)) (fun _ i _ => (n1 - intOf i).toNat)
  case atStart => exact ⟨0, by simp; omega, by simp, rfl, OA, gA, HCS.out⟩
  case round =>
    clear HCS OA gA
    obtain ⟨k, hk, rfl, rfl, O1, gr1, CS⟩ := hrel
    have HC : Hid (_) := CS
    clear CS
    have hcb := Wk.cnt_bd R l n0 k
    have HCT : Hid (Wk.cnt R l n0 (k + 1) = Wk.cnt R l n0 k + if Wk.isW R l (n0 + k) = true then 1 else 0) := rfl
    by_cases hlt : n0 + (k : Int) < n1
    · have hw1 : IntKind.i64.wrap (n0 + (k : Int) + 1) = n0 + (k : Int) + 1 := by rw [IntKind.wrap_i64]; omega
      have hw2 : IntKind.i64.wrap (Wk.cnt R l n0 k + 1) = Wk.cnt R l n0 k + 1 := by rw [IntKind.wrap_i64]; omega
      have g0 := HC.out 0 _ rfl
      have g1 := HC.out 1 _ rfl
      have g2 := HC.out 2 _ rfl
      have g3 := HC.out 3 _ rfl
      have g4 := HC.out 4 _ rfl
      have g5 := HC.out 5 _ rfl
      have g6 := HC.out 6 _ rfl
      have g7 := HC.out 7 _ rfl
      have g8 := HC.out 8 _ rfl
      go_wp2_with fail
      refine (wIs_ok O1 cap (n0 + k) (by omega) (by omega) (by omega)).mono ?_
      rintro e w2 ⟨rfl, O2, gr2⟩
      have gr3 := gr1.trans gr2
      have HC2 : Hid ((∀ j v, (#[.bool R.b0, .bool R.b1, .bool R.b2, .bool R.b3, .bool R.b4, .bool R.b5, .bool R.b6, .slice a l.length cap, .map (some bm)] : Array Value)[j]? = some v → w2.cell? ⟨W.heap.size, j, none⟩ = some v)) := fun j v hj => gr2.cell (HC.out j v hj) (fun e => hb1 (Option.some.inj e).symm)
      clear g0 g1 g2 g3 g4 g5 g6 g7 g8
      clear O1 gr1 gr2 HC
      generalize Wk.cnt R l n0 k = C at *
      cases hW : Wk.isW R l (n0 + k) with
      | true =>
        have HE : Hid (Wk.cnt R l n0 (k + 1) = C + 1) := by unfold Hid; rw [HCT.out, if_pos hW]
        clear hW
        go_wp2
        go_roundw
        case rel => exact ⟨k + 1, by omega, by go_num, by rw [HE.out], O2.mono (by omega), gr3, HC2.out⟩
        case measure => simp [intOf]; omega
      | false =>
        have HE : Hid (Wk.cnt R l n0 (k + 1) = C) := by unfold Hid; rw [HCT.out, if_neg (by rw [hW]; decide), Int.add_zero]
        clear hW
        go_wp2
        go_roundw
        case rel => exact ⟨k + 1, by omega, by go_num, by rw [HE.out], O2.mono (by omega), gr3, HC2.out⟩
        case measure => simp [intOf]; omega
    · have e0 : (n1 - n0).toNat = k := by omega
      have HE : Hid (Wk.cnt R l n0 (n1 - n0).toNat = Wk.cnt R l n0 k) := by unfold Hid; rw [e0]
      generalize Wk.cnt R l n0 k = C at *
      have hlt' : ¬ n0 + (k : Int) < n1 := hlt
      clear e0
      go_wp2
      go_ret2
      exact ⟨by rw [HE.out] <;> rfl, gr1⟩
end Go.Proofs.YtpjpmfcbddkjnaaDoor
