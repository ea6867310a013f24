/- The walk of RestSpans: it answers true, whatever it is handed. -/
import Derived.Test.YtmhmdjlongimaabSBegun
import Derived.Deep.RegionHeld3
import Derived.Lib.QuietBelow
namespace Go.Proofs.Ytmhmdjlongimaab
open Go.RowKit Go.BigFrame
theorem Spn.setOf_short (l : List Spn.Sp) : (Spn.setOf l).length ≤ 64 := by
  by_cases h : chkOf l = 0
  · exact ((chk_zero _).1 (setOf_chk l h).1).1
  · unfold setOf; rw [if_neg h]; simp
theorem mkSpan_now (x y : Int) (w : World) :
    Calls Try.prog 4 #[.int .i64 x, .int .i64 y] w fun e w' => e = .returned (.agg #[.int .i64 x, .int .i64 y]) ∧ w' = w.alloc (.cells #[.int .i64 x, .int .i64 y] 24) := by
  go_enter Try.func4, Try.ntmps4
  go_wp2
  exact bodyPost_ret (v := .agg #[.int .i64 x, .int .i64 y]) (by simp [results, Try.results4, go_sem]) rfl ⟨rfl, rfl⟩
theorem OwnS.two {w W w1 : World} {B : Nat} {v v' : Value} {xs : List Spn.Sp} {x y : Int} {o o' : Obj} (hB : B ≤ W.heap.size) (hown : OwnS W B v xs) (hnx : Below B w W)
    (hown' : w1.ownsRow B 24 2 v' (xs.length + 1) (flat xs ++ [.int .i64 x, .int .i64 y])) (hgrow : ((W.alloc o).alloc o').grownBy w1 v.ownBlock) :
    OwnS w1 B v' (xs ++ [(x, y)]) ∧ Below B w w1 := by
  refine ⟨by unfold OwnS; rw [flat_append, List.length_append]; exact hown', ?_⟩
  exact ((hnx.alloc hB o).alloc (by simp; omega) o').grown hgrow (by simp; omega) (fun j hj => (World.ownsRow.lt hown j hj).1)
theorem OwnS.some {w : World} {B : Nat} {v : Value} {xs : List Spn.Sp} {s : Spn.Sp} (h : OwnS w B v (xs ++ [s])) : ∃ g cap, v = .slice (some ⟨g, 0, none⟩) (xs.length + 1) cap ∧ B ≤ g ∧ xs.length + 1 ≤ cap := by
  have e : (xs ++ [s]).length = xs.length + 1 := by simp
  unfold OwnS at h
  rw [e] at h
  rcases h.2 with ⟨_, h2⟩ | ⟨g, cap, cur, h1, h2, _, h3, _⟩
  · omega
  · exact ⟨g, cap, h1, h2, h3⟩
theorem make_row (W : World) (n : Nat) (h : n * 16 ≤ 140737488351232) : ∃ wn, (Instr.makeSlice 22 (.int .i64 0) (.int .i64 ((n : Int) + 1))).run Try.prog W = .ok (.slice (some ⟨W.heap.size, 0, none⟩) 0 (n + 1)) wn ∧
    OwnS wn W.heap.size (.slice (some ⟨W.heap.size, 0, none⟩) 0 (n + 1)) [] ∧ Below W.heap.size W wn := by
  obtain ⟨i0, hi, hz0, hz1, hz2⟩ := info_parts infoSpan
  obtain ⟨wm, hmk, own0, grow0⟩ := run_make_own (P := Try.prog) W W.heap.size 22 24 i0 _ 2 Try.underlying22 hi hz0 hz1 .i64 .i64 (n + 1) (by rw [hz2]; omega) (by unfold maxLen; omega) (Nat.le_refl _)
  exact ⟨wm, hmk, own0, (Below.refl _ W).grown grow0 (Nat.le_refl _) (fun j hj => by cases hj)⟩
theorem Row2.front {w : World} {a : Option Addr} {l : List Spn.Sp} {s : Spn.Sp} (h : Row2 w a (l ++ [s])) : Row2 w a l := by
  rcases h with h | ⟨b, off, rfl, hlt, hc⟩
  · simp at h
  · refine .inr ⟨b, off, rfl, hlt, fun i hi => ?_⟩
    have := hc i (by simp; omega)
    rw [List.getD_eq_getElem?_getD, List.getElem?_append_left hi, ← List.getD_eq_getElem?_getD] at this
    exact this
theorem below_onbox (w : World) (o : Obj) : Below w.heap.size w (w.alloc o) := (Below.refl _ _).alloc (Nat.le_refl _) _
theorem OwnS.at {w : World} {B n c : Nat} {a : Option Addr} {xs : List Spn.Sp} (h : OwnS w B (.slice a n c) xs) : Row2 w a xs := by
  obtain ⟨a', c', e, -, r⟩ := h.row
  obtain ⟨rfl, _, _⟩ := Value.slice.inj e
  exact r
/-- A slice of spans that may be written: its block lies from B on, ahead of T. -/
def FreeS (W : World) (B T : Nat) (v : Value) (n : Nat) : Prop :=
  (v = .slice none 0 0 ∧ n = 0) ∨ ∃ g cap cur, v = .slice (some ⟨g, 0, none⟩) n cap ∧ B ≤ g ∧ g < T ∧ W.heap[g]? = some (.cells cur 24 (0, 0)) ∧ n * 2 ≤ cur.size
theorem OwnS.free {W : World} {B : Nat} {v : Value} {xs : List Spn.Sp} (h : OwnS W B v xs) : FreeS W B W.heap.size v xs.length := by
  have hlt := World.ownsRow.lt h
  rcases h.2 with ⟨h1, h2⟩ | ⟨g, cap, cur, h1, h2, h3, h4, _, h5, _⟩
  · exact .inl ⟨h1, h2⟩
  · exact .inr ⟨g, cap, cur, h1, h2, by subst h1; exact (hlt g rfl).2, h3, by omega⟩
theorem FreeS.on {W W' : World} {B T B' T' : Nat} {v : Value} {n : Nat} (h : FreeS W B T v n) (hb : Below W.heap.size W W') (hT : T ≤ W.heap.size) (hB : B' ≤ B) (hT' : T ≤ T') : FreeS W' B' T' v n := by
  rcases h with h | ⟨g, cap, cur, h1, h2, h3, h4, h5⟩
  · exact .inl h
  · exact .inr ⟨g, cap, cur, h1, by omega, by omega, by rw [hb.block g (by omega)]; exact h4, h5⟩
theorem FreeS.set {W : World} {B T : Nat} {v : Value} {n : Nat} (h : FreeS W B T v n) (b k : Nat) (u : Value) : FreeS (W.setCell ⟨b, k, none⟩ u) B T v n := by
  rcases h with h | ⟨g, cap, cur, h1, h2, h3, h4, h5⟩
  · exact .inl h
  · by_cases e : b = g
    · subst e
      refine .inr ⟨b, cap, cur.setIfInBounds k u, h1, h2, h3, ?_, by simpa using h5⟩
      simp [World.setCell, Array.getElem?_modify, h4]
    · refine .inr ⟨g, cap, cur, h1, h2, h3, ?_, h5⟩
      simp [World.setCell, Array.getElem?_modify, h4, e]
theorem FreeS.cell {W : World} {B T g cap n : Nat} (h : FreeS W B T (.slice (some ⟨g, 0, none⟩) n cap) n) (k : Nat) (hk : k < n * 2) : (∃ u, W.cell? ⟨g, k, none⟩ = some u) ∧ W.frozen? ⟨g, k, none⟩ = false := by
  rcases h with ⟨h, _⟩ | ⟨g', cap', cur, h1, h2, h3, h4, h5⟩
  · cases h
  · cases h1
    have hk' : k < cur.size := by omega
    exact ⟨⟨cur[k], by simp [World.cell?, h4, hk']⟩, by simp [World.frozen?, h4]⟩
theorem OwnS.opened {W : World} {B B' : Nat} {v : Value} {xs : List Spn.Sp} (h : OwnS W B v xs) (hl : xs.length ≤ 64) (hB : B' ≤ B) : ∃ a n c, v = .slice a n c ∧ n ≤ 64 ∧ FreeS W B' W.heap.size (.slice a n c) n := by
  obtain ⟨a, c, e, _, _⟩ := h.row
  refine ⟨a, xs.length, c, e, hl, ?_⟩
  have f := h.free.on (Below.refl _ _) (Nat.le_refl _) hB (Nat.le_refl _)
  rw [e] at f
  exact f
theorem FreeS.next {W W' : World} {B : Nat} {v : Value} {n : Nat} (h : FreeS W B W.heap.size v n) (hb : Below W.heap.size W W') : FreeS W' B W'.heap.size v n := h.on hb (Nat.le_refl _) (Nat.le_refl _) hb.size
/-- how the world stands within the loops: what lay there before the calls lies there still; the list of the answers lies at ba, and each of them may be written -/
structure PInv (W0 : World) (ba : Nat) (W : World) : Prop where
  below : Below W0.heap.size W0 W
  le : W0.heap.size ≤ ba
  lt : ba < W.heap.size
  rows : ∀ i, i < 4 → ∃ a n c, W.cell? ⟨ba, i, none⟩ = some (.slice a n c) ∧ n ≤ 64 ∧ FreeS W W0.heap.size ba (.slice a n c) n
theorem PInv.on {W0 W W' : World} {ba : Nat} (h : PInv W0 ba W) (hb : Below W.heap.size W W') : PInv W0 ba W' :=
  ⟨h.below.trans (hb.mono h.below.size), h.le, Nat.lt_of_lt_of_le h.lt hb.size, fun i hi => by
    obtain ⟨a, n, c, h1, h2, h3⟩ := h.rows i hi
    exact ⟨a, n, c, (hb.cell (p := ⟨ba, i, none⟩) h.lt).trans h1, h2, h3.on hb (Nat.le_of_lt h.lt) (Nat.le_refl _) (Nat.le_refl _)⟩⟩
theorem PInv.set {W0 W : World} {ba : Nat} (h : PInv W0 ba W) (g k : Nat) (u : Value) (h1 : W0.heap.size ≤ g) (h2 : g < ba) : PInv W0 ba (W.setCell ⟨g, k, none⟩ u) :=
  ⟨h.below.setCell h1 _, h.le, by simpa [World.setCell] using h.lt, fun i hi => by
    obtain ⟨a, n, c, q1, q2, q3⟩ := h.rows i hi
    exact ⟨a, n, c, by rw [World.cell?_setCell_far _ _ _ _ (fun e => by have e' : g = ba := e; omega)]; exact q1, q2, q3.set _ _ _⟩⟩
/-- what a drawn order of the store must not lose: where the answer lies, and that the two cells are there to be written -/
def Held (ba j g k : Nat) (v : Value) (W : World) : Prop :=
  W.cell? ⟨ba, j, none⟩ = some v ∧ (W.cell? ⟨g, k * 2, none⟩).isSome = true ∧ (W.cell? ⟨g, k * 2 + 1, none⟩).isSome = true ∧ W.frozen? ⟨g, k * 2, none⟩ = false ∧ W.frozen? ⟨g, k * 2 + 1, none⟩ = false
theorem held_box {W : World} {o : Obj} {ba j g k : Nat} {v : Value} (hb : ba < W.heap.size) (hg : g < W.heap.size) (h : Held ba j g k v W) : Held ba j g k v (W.alloc o).drew := by
  have b := below_onbox W o
  have fz : ∀ i, (W.alloc o).frozen? ⟨g, i, none⟩ = W.frozen? ⟨g, i, none⟩ := by
    intro i
    unfold World.frozen?
    rw [b.block g hg]
  have cl : ∀ i, (W.alloc o).cell? ⟨g, i, none⟩ = W.cell? ⟨g, i, none⟩ := fun i => b.cell (p := ⟨g, i, none⟩) hg
  exact ⟨(b.cell (p := ⟨ba, j, none⟩) hb).trans h.1, (congrArg Option.isSome (cl _)).trans h.2.1, (congrArg Option.isSome (cl _)).trans h.2.2.1, (fz _).trans h.2.2.2.1, (fz _).trans h.2.2.2.2⟩
theorem held_set {W : World} {ba j g k : Nat} {v : Value} (hne : g ≠ ba) (i : Nat) (u : Value) (h : Held ba j g k v W) : Held ba j g k v (W.setCell ⟨g, i, none⟩ u) := by
  have some_of : ∀ i', (W.cell? ⟨g, i', none⟩).isSome = true → ((W.setCell ⟨g, i, none⟩ u).cell? ⟨g, i', none⟩).isSome = true := by
    intro i' hs
    by_cases e : i = i'
    · subst e
      rw [World.cell?_setCell_same' _ _ _ hs]; rfl
    · rw [World.cell?_setCell_other _ _ _ _ (fun h => e (congrArg Addr.off h))]; exact hs
  have fz : ∀ i', (W.setCell ⟨g, i, none⟩ u).frozen? ⟨g, i', none⟩ = W.frozen? ⟨g, i', none⟩ := by
    intro i'
    simp [World.frozen?, World.setCell, Array.getElem?_modify]
    cases hh : W.heap[g]? with
    | none => rfl
    | some ob => cases ob <;> rfl
  exact ⟨by rw [World.cell?_setCell_far _ _ _ _ (fun e => hne e)]; exact h.1, some_of _ h.2.1, some_of _ h.2.2.1, (fz _).trans h.2.2.2.1, (fz _).trans h.2.2.2.2⟩
set_option maxRecDepth 100000 in
set_option maxHeartbeats 1000000 in
theorem restSpans_any (la lb : List Spn.Sp) (a b : Option Addr) (ca cb : Nat) (w : World) (ha : la.length * 16 ≤ 140737488351232) (na : a = none → ca = 0 ∧ la = []) (ra : Row2 w a la) (hb : lb.length * 16 ≤ 140737488351232) (nb : b = none → cb = 0 ∧ lb = []) (rb : Row2 w b lb) :
    Calls Try.prog 3 #[.slice a la.length ca, .slice b lb.length cb] w fun e w' => e = .returned (.bool true) ∧ Below w.heap.size w w' := by
  obtain ⟨i0, hi, hz0, hz1, hz2⟩ := info_parts infoSpan
  have HI : Hid (Try.prog.info? 24 = some i0 ∧ i0.zero = some (.agg #[.int .i64 0, .int .i64 0]) ∧ i0.size = 2 ∧ i0.bytes = 16) := ⟨hi, hz0, hz1, hz2⟩
  clear hi hz0 hz1 hz2
  obtain ⟨wm, hmk, own0, Bm⟩ := make_row w la.length ha
  have NA : Hid (a = none → ca = 0 ∧ la = []) := na
  have NB : Hid (b = none → cb = 0 ∧ lb = []) := nb
  have ram := ra.below Bm
  clear na nb
  go_enter Try.func3, Try.ntmps3
  go_wp2_with (at_builtin; refine wpList_append_all _ rfl (.tmp 21) (.tmp 22) 22 rfl w.heap.size 24 i0 _ 2 16 Try.underlying22 HI.out.1 HI.out.2.1 HI.out.2.2.1 HI.out.2.2.2 rfl (by decide) _ _ _ rfl own0 a la.length ca (flat la) rfl (fun e => ⟨by rw [(NA.out e).2]; rfl, (NA.out e).1⟩) (flat_len la) ram.news (flat_one la) (by unfold maxLen; simp; omega) (by simp; omega) Bm.size ?_; intro v1 w1 own1 grow1)
  have R1 := OwnS.join (ys := la) Bm.size own0 Bm own1 grow1
  rw [List.nil_append] at R1
  clear own1 grow1 own0 ram hmk Bm
  refine (mkSpan_now 7 77 _).mono ?_; rintro e w2 ⟨rfl, rfl⟩
  go_wp2_with (first
    | (at_builtin; refine wpList_append_own _ rfl (.tmp 23) (.tmp 25) 22 rfl w.heap.size 24 i0 _ 2 16 Try.underlying22 HI.out.1 HI.out.2.1 HI.out.2.2.1 HI.out.2.2.2 rfl (by decide) _ _ _ rfl (World.ownsRow.alloc (World.ownsRow.alloc R1.1 _) _) ⟨w1.heap.size + 1, 0, none⟩ 1 1 [.int .i64 7, .int .i64 77] rfl rfl (cell2_at _ _ (by simp) _ _ _) (one2 _ _) (by unfold maxLen; omega) (by omega) (by simp; have := R1.2.size; omega) ?_; intro v2 w2 own2 grow2 nil2; clear nil2; have R2 := OwnS.two R1.2.size R1.1 R1.2 own2 grow2; obtain ⟨g2, k2, rfl, hg2, hk2⟩ := OwnS.some R2.1; have hk2' : (la.length : Int) ≤ (k2 : Int) := (by omega); clear own2 grow2 R1; obtain ⟨wn, hmk, own0, Bn⟩ := make_row w2 lb.length hb; have rbn := (rb.below R2.2).below Bn)
    | (at_builtin; refine wpList_append_all _ rfl (.tmp 33) (.tmp 34) 22 rfl w2.heap.size 24 i0 _ 2 16 Try.underlying22 HI.out.1 HI.out.2.1 HI.out.2.2.1 HI.out.2.2.2 rfl (by decide) _ _ _ rfl own0 b lb.length cb (flat lb) rfl (fun e => ⟨by rw [(NB.out e).2]; rfl, (NB.out e).1⟩) (flat_len lb) rbn.news (flat_one lb) (by unfold maxLen; simp; omega) (by simp; omega) Bn.size ?_; intro v3 w3 own3 grow3))
  have R3 := OwnS.join (ys := lb) Bn.size own0 Bn own3 grow3
  rw [List.nil_append] at R3
  clear own3 grow3 own0 rbn hmk Bn
  refine (mkSpan_now 8 88 _).mono ?_; rintro e w4 ⟨rfl, rfl⟩
  go_wp2_with (at_builtin; refine wpList_append_own _ rfl (.tmp 35) (.tmp 37) 22 rfl w2.heap.size 24 i0 _ 2 16 Try.underlying22 HI.out.1 HI.out.2.1 HI.out.2.2.1 HI.out.2.2.2 rfl (by decide) _ _ _ rfl (World.ownsRow.alloc (World.ownsRow.alloc R3.1 _) _) ⟨w3.heap.size + 1, 0, none⟩ 1 1 [.int .i64 8, .int .i64 88] rfl rfl (cell2_at _ _ (by simp) _ _ _) (one2 _ _) (by unfold maxLen; omega) (by omega) (by simp; have := R3.2.size; omega) ?_; intro v4 w4 own4 grow4 nil4; clear nil4; have R4 := OwnS.two R3.2.size R3.1 R3.2 own4 grow4; obtain ⟨g4, k4, rfl, hg4, hk4⟩ := OwnS.some R4.1; have hk4' : (lb.length : Int) ≤ (k4 : Int) := (by omega); clear own4 grow4 R3)
  have ml : la.length ≤ maxLen := by unfold maxLen; omega
  have mb : lb.length ≤ maxLen := by unfold maxLen; omega
  have B4 : Below w.heap.size w w4 := R2.2.trans (R4.2.mono R2.2.size)
  have ra4 := (ra.below R2.2).below R4.2
  have rb4 := (rb.below R2.2).below R4.2
  have rs2 := OwnS.at R2.1
  have rt4 := OwnS.at R4.1
  have rs4 := rs2.below R4.2
  clear R2 R4 ra rb rs2 hk2' hk4'
  refine (pUnion la lb _ _ _ _ _ ml mb (fun e => by cases e) (fun e => by cases e) rs4.front rt4.front).mono ?_; rintro e w5 ⟨v5, rfl, o5, b5⟩
  obtain ⟨a5, n5, c5, rfl, h5, f5⟩ := o5.opened (Spn.ans_len 0 la lb) (Nat.le_refl _)
  have P5 := b5
  have ra5 := ra4.below b5
  have rb5 := rb4.below b5
  have rs5 := rs4.below b5
  have rt5 := rt4.below b5
  clear o5
  generalize Spn.code 0 la lb = q5
  go_wp2_with fail
  refine (pMeet la lb _ _ _ _ _ ml mb (fun e => by cases e) (fun e => by cases e) rs5.front rt5.front).mono ?_; rintro e w6 ⟨v6, rfl, o6, b6⟩
  obtain ⟨a6, n6, c6, rfl, h6, f6⟩ := o6.opened (Spn.ans_len 1 la lb) b5.size
  have P6 := b5.trans (b6.mono b5.size)
  have g5 := f5.next b6
  have rs6 := rs5.below b6
  have rt6 := rt5.below b6
  clear o6 f5 rs5 rt5 ra5 rb5 b5 P5 b6
  generalize Spn.code 1 la lb = q6
  go_wp2_with fail
  refine (pMinus la lb _ _ _ _ _ ml mb (fun e => by cases e) (fun e => by cases e) rs6.front rt6.front).mono ?_; rintro e w7 ⟨v7, rfl, o7, b7⟩
  obtain ⟨a7, n7, c7, rfl, h7, f7⟩ := o7.opened (Spn.ans_len 2 la lb) P6.size
  have P7 := P6.trans (b7.mono P6.size)
  replace g5 := g5.next b7
  have g6 := f6.next b7
  have rs7 := rs6.below b7
  clear o7 f6 rs6 rt6 P6 b7
  generalize Spn.code 2 la lb = q7
  go_wp2_with fail
  refine (pOf la _ _ _ ml (fun e => by cases e) rs7.front).mono ?_; rintro e w8 ⟨v8, rfl, o8, b8⟩
  obtain ⟨a8, n8, c8, rfl, h8, f8⟩ := o8.opened (Spn.setOf_short la) P7.size
  have P8 := P7.trans (b8.mono P7.size)
  replace g5 := g5.next b8
  replace g6 := g6.next b8
  have g7 := f7.next b8
  clear o8 f7 rs7 P7 b8
  generalize Spn.chkOf la = q8
  go_wp2_with fail
  refine (sbegun_any _).mono ?_; rintro e w9 ⟨rfl, b9⟩
  have P9 := P8.trans (b9.mono P8.size)
  replace g5 := g5.next b9
  replace g6 := g6.next b9
  replace g7 := g7.next b9
  have g8 := f8.next b9
  clear f8 P8 b9
  have PI : PInv w4 w9.heap.size (w9.alloc (.cells #[.slice a5 n5 c5, .slice a6 n6 c6, .slice a7 n7 c7, .slice a8 n8 c8] 22)) := by
    have hx := below_onbox w9 (.cells #[.slice a5 n5 c5, .slice a6 n6 c6, .slice a7 n7 c7, .slice a8 n8 c8] 22)
    refine ⟨P9.trans (hx.mono P9.size), P9.size, by simp, fun i hi => ?_⟩
    match i, hi with
    | 0, _ => exact ⟨a5, n5, c5, by simp, h5, g5.on hx (Nat.le_refl _) (Nat.le_refl _) (Nat.le_refl _)⟩
    | 1, _ => exact ⟨a6, n6, c6, by simp, h6, g6.on hx (Nat.le_refl _) (Nat.le_refl _) (Nat.le_refl _)⟩
    | 2, _ => exact ⟨a7, n7, c7, by simp, h7, g7.on hx (Nat.le_refl _) (Nat.le_refl _) (Nat.le_refl _)⟩
    | 3, _ => exact ⟨a8, n8, c8, by simp, h8, g8.on hx (Nat.le_refl _) (Nat.le_refl _) (Nat.le_refl _)⟩
  clear g5 g6 g7 g8 P9 h5 h6 h7 h8
  go_wp2
  go_loopw [16] (fun i wr => ∃ j : Nat, j ≤ 4 ∧ i = .int .i64 j ∧ PInv w4 w9.heap.size wr) (fun i _ => 4 - (intOf i).toNat)
  case atStart => exact ⟨0, by omega, rfl, PI⟩
  case round =>
    clear PI
    obtain ⟨j, hj, rfl, P1⟩ := hrel
    by_cases hlt : j < 4
    · obtain ⟨a', n', c', q1, q2, q3⟩ := P1.rows j hlt
      have hlt' : (j : Int) < 4 := by omega
      go_wp2
      go_loopw [17] (fun kv wr2 => ∃ k : Nat, k ≤ n' ∧ kv = .int .i64 k ∧ PInv w4 w9.heap.size wr2 ∧ wr2.cell? ⟨w9.heap.size, j, none⟩ = some (.slice a' n' c') ∧ FreeS wr2 w4.heap.size w9.heap.size (.slice a' n' c') n') (fun kv _ => n' - (intOf kv).toNat)
      case atStart => exact ⟨0, Nat.zero_le _, rfl, P1, q1, q3⟩
      case round =>
        clear P1 q1 q3
        obtain ⟨k, hk, rfl, P2, q1, q3⟩ := hrel
        by_cases hkn : k < n'
        · have hkn' : (k : Int) < (n' : Int) := by omega
          obtain ⟨g, rfl, hgB, hgT⟩ : ∃ g, a' = some ⟨g, 0, none⟩ ∧ w4.heap.size ≤ g ∧ g < w9.heap.size := by
            rcases q3 with ⟨_, h⟩ | ⟨g, cap, cur, h1, h2, h3, _⟩
            · omega
            · exact ⟨g, (Value.slice.inj h1).1, h2, h3⟩
          obtain ⟨⟨u0, e0⟩, fr0⟩ := q3.cell (k * 2) (by omega)
          obtain ⟨⟨u1, e1⟩, fr1⟩ := q3.cell (k * 2 + 1) (by omega)
          have hne : w9.heap.size ≠ g := by omega
          have hl1 := P2.lt
          have hl3 := Nat.lt_trans hgT P2.lt
          go_wp2
          have HS : Held w9.heap.size j g k (.slice (some ⟨g, 0, none⟩) n' c') wr := ⟨q1, by rw [e0]; rfl, by rw [e1]; rfl, fr0, fr1⟩
          have hne' : g ≠ w9.heap.size := by omega
          have hla : ∀ (i1 i2 : Nat) (x1 x2 : Value), w9.heap.size < ((wr.setCell ⟨g, i1, none⟩ x1).setCell ⟨g, i2, none⟩ x2).heap.size := by intro i1 i2 x1 x2; simpa [World.setCell] using hl1
          have hlb : ∀ (i1 i2 : Nat) (x1 x2 : Value), g < ((wr.setCell ⟨g, i1, none⟩ x1).setCell ⟨g, i2, none⟩ x2).heap.size := by intro i1 i2 x1 x2; simpa [World.setCell] using hl3
          go_region_held3 (fun w' => w'.cell? ⟨w9.heap.size, j, none⟩ = some (.slice (some ⟨g, 0, none⟩) n' c') ∧ (w'.cell? ⟨g, k * 2, none⟩).isSome = true ∧ (w'.cell? ⟨g, k * 2 + 1, none⟩).isSome = true ∧ w'.frozen? ⟨g, k * 2, none⟩ = false ∧ w'.frozen? ⟨g, k * 2 + 1, none⟩ = false) (first | exact held_box hl1 hl3 HS | exact held_box (hla _ _ _ _) (hlb _ _ _ _) (held_set hne' _ _ (held_set hne' _ _ HS)) | go_keep)
            (first
              | (go_at_call 4; refine (mkSpan_now _ _ _).mono ?_; rintro e w' ⟨rfl, rfl⟩))
          have P3 := (((P2.set g (k * 2) (.int .i64 (-5)) hgB hgT).set g (k * 2 + 1) (.int .i64 (-6)) hgB hgT).on (below_onbox _ (.cells #[.int .i64 (-5), .int .i64 (-6)] 24))).on (below_drewN (Below.refl _ _) 1)
          have HS3 := held_box (o := .cells #[.int .i64 (-5), .int .i64 (-6)] 24) (hla _ _ _ _) (hlb _ _ _ _) (held_set hne' (k * 2 + 1) (.int .i64 (-6)) (held_set hne' (k * 2) (.int .i64 (-5)) HS))
          have F3 := (((q3.set g (k * 2) (.int .i64 (-5))).set g (k * 2 + 1) (.int .i64 (-6))).on (below_onbox _ (.cells #[.int .i64 (-5), .int .i64 (-6)] 24)) (Nat.le_of_lt (hla _ _ _ _)) (Nat.le_refl _) (Nat.le_refl _)).on (below_drewN (Below.refl _ _) 1) (Nat.le_of_lt (Nat.lt_trans (hla (k * 2) (k * 2 + 1) (.int .i64 (-5)) (.int .i64 (-6))) (by simp))) (Nat.le_refl _) (Nat.le_refl _)
          go_wp2
          exact ⟨⟨k + 1, by omega, by go_num, P3, HS3.1, F3⟩, by simp [intOf]; omega⟩
        · obtain rfl : k = n' := by omega
          go_wp2
          exact ⟨⟨j + 1, by omega, by go_num, P2⟩, by simp [intOf]; omega⟩
    · obtain rfl : j = 4 := by omega
      go_wp2_with fail
      have PB := P1.below
      have xa := fun d os => (ra4.below PB).below (below_regrown wr d os)
      have xb := fun d os => (rb4.below PB).below (below_regrown wr d os)
      have xs := fun d os => ((rs4.below PB).below (below_regrown wr d os)).front
      have xt := fun d os => ((rt4.below PB).below (below_regrown wr d os)).front
      obtain ⟨_, _, _, _, E1, _, E2, p0, p1⟩ := (rs4.below PB).lies (k := la.length) (by simp)
      obtain ⟨_, _, _, _, E3, _, E4, p2, p3⟩ := (rt4.below PB).lies (k := lb.length) (by simp)
      simp at E1 E2 E3 E4
      obtain ⟨rfl, rfl⟩ := E1
      obtain ⟨rfl, rfl⟩ := E2
      obtain ⟨rfl, rfl⟩ := E3
      obtain ⟨rfl, rfl⟩ := E4
      rw [Nat.zero_add] at p0 p1 p2 p3
      replace p0 := cell_regrown p0
      replace p1 := cell_regrown p1
      replace p2 := cell_regrown p2
      replace p3 := cell_regrown p3
      have z1 : (la.length : Int) + 1 ≤ (k2 : Int) := by omega
      have z2 : (lb.length : Int) + 1 ≤ (k4 : Int) := by omega
      have y1 : IntKind.i64.wrap ((la.length : Int) + 1) = (la.length : Int) + 1 := by rw [IntKind.wrap_i64]; omega
      have y2 : IntKind.i64.wrap ((lb.length : Int) + 1) = (lb.length : Int) + 1 := by rw [IntKind.wrap_i64]; omega
      have SE : ∀ v1 v2 d os, ((v1 = .slice (some ⟨g2, 0, none⟩) la.length k2 ∧ v2 = .slice a la.length ca) ∨ (v1 = .slice (some ⟨g4, 0, none⟩) lb.length k4 ∧ v2 = .slice b lb.length cb)) →
          Calls Try.prog 10 #[v1, v2] (Sort.grow (redrawn wr d) os) fun e w' => e = .returned (.bool true) ∧ Below (Sort.grow (redrawn wr d) os).heap.size (Sort.grow (redrawn wr d) os) w' := by
        rintro v1 v2 d os (⟨rfl, rfl⟩ | ⟨rfl, rfl⟩)
        · exact same_below la la true _ a k2 ca _ ml ml (by simp) (xs _ _) (xa _ _)
        · exact same_below lb lb true _ b k4 cb _ mb mb (by simp) (xt _ _) (xb _ _)
      refine wp_region_quiet_below (by kernel_rfl) (by kernel_rfl) ?_
      repeat go_big_quiet_step (first
        | (go_at_call 10; exact Calls.regrown_of (SE _ _ _ _ (by first | exact .inl ⟨rfl, rfl⟩ | exact .inr ⟨rfl, rfl⟩)))
        | (go_at_call 4; exact Calls.regrown_of (mkSpan_any _ _ _)))
      refine wpQuiet_nil ?_
      intro _ hw'
      obtain ⟨⟨dq, osq⟩, hw''⟩ := hw'
      subst hw''
      go_wp2
      go_ret
      exact ⟨rfl, (B4.trans (PB.mono B4.size)).trans ((below_regrown wr dq osq).mono (Nat.le_trans B4.size PB.size))⟩
end Go.Proofs.Ytmhmdjlongimaab
