/- The program's almanac: the holidays of the years that were asked for stand in a map; is a day one of work? -/
import Derived.Test.YtehopfpcikbaiaaDoorWHolToShV
import Derived.Test.YtehopfpcikbaiaaDoorWHolToShV
import Derived.Maps.OwnSet
namespace Go.Proofs.YtehopfpcikbaiaaDoor
open Go.RowKit

theorem grown_of_below {W W' : World} (h : Below W.heap.size W W') (row : Option Nat) : W.grownBy W' row :=
  ⟨h.os, h.tape, h.output, h.size, fun k hk _ => h.block k hk⟩
abbrev heldR (v : Value) : Option (DataW Value × List MemPlace) := some (.held v, [])
/-- the map of years: what stands there are the holidays of its year -/
def Alm (W : World) (bm n : Nat) (R : Wk.Rst) (l : List Wk.Rl) : Prop :=
  ∃ D : DataW Value, W.ownsMap Tryd.prog 3 heldR bm n D ∧ ∀ y : Int, Maps.has D (.int .i64 y) = true → ∃ a cap, D.atKey (.int .i64 y) (.held (.slice none 0 0)) = .held (.slice a (Wk.hol R l y).length cap) ∧ Row1 W a (Wk.hol R l y) ∧ ∀ b off, a = some ⟨b, off, none⟩ → bm < b
theorem Row1.aside {W W' : World} {a : Option Addr} {xs : List Int} {bm : Nat} {es : Array MapEntry} {c : Nat} (h : Row1 W a xs) (hm : W.heap[bm]? = some (.map es c)) (hg : W.grownBy W' (some bm)) : Row1 W' a xs := by
  rcases h with h | ⟨b, off, rfl, hlt, hc⟩
  · exact .inl h
  · by_cases hx : xs = []
    · exact .inl hx
    · have hpos : 0 < xs.length := List.length_pos_iff.2 hx
      have hne : b ≠ bm := by
        rintro rfl
        have := hc 0 hpos
        simp [World.cell?, hm] at this
      have hne' : some b ≠ some bm := fun e => hne (Option.some.inj e)
      exact .inr ⟨b, off, rfl, Nat.lt_of_lt_of_le hlt hg.size, fun i hi => hg.cell (hc i hi) hne'⟩
theorem Alm.below {W W' : World} {bm n : Nat} {R : Wk.Rst} {l : List Wk.Rl} (h : Alm W bm n R l) (hb : Below W.heap.size W W') : Alm W' bm n R l := by
  obtain ⟨D, ho, hr⟩ := h
  refine ⟨D, ho.kept (grown_of_below hb none) (by simp), fun y hy => ?_⟩
  obtain ⟨a, cap, e, r, q⟩ := hr y hy
  exact ⟨a, cap, e, r.below hb, q⟩
theorem Alm.mono {W : World} {bm n n' : Nat} {R : Wk.Rst} {l : List Wk.Rl} (h : Alm W bm n R l) (hn : n ≤ n') : Alm W bm n' R l := by
  obtain ⟨D, ho, hr⟩ := h
  exact ⟨D, ho.mono hn, hr⟩
theorem Alm.lt {W : World} {bm n : Nat} {R : Wk.Rst} {l : List Wk.Rl} (h : Alm W bm n R l) : bm < W.heap.size := by
  obtain ⟨D, ho, _⟩ := h
  exact ho.lt
theorem Alm.put {W W' : World} {bm n : Nat} {R : Wk.Rst} {l : List Wk.Rl} {D : DataW Value} (hr : ∀ y : Int, Maps.has D (.int .i64 y) = true → ∃ a cap, D.atKey (.int .i64 y) (.held (.slice none 0 0)) = .held (.slice a (Wk.hol R l y).length cap) ∧ Row1 W a (Wk.hol R l y) ∧ ∀ b off, a = some ⟨b, off, none⟩ → bm < b)
    {y : Int} {a : Option Addr} {cap : Nat} (ho : W.ownsMap Tryd.prog 3 heldR bm n D) (ho' : W'.ownsMap Tryd.prog 3 heldR bm (n + 1) (D.put (.int .i64 y) (.held (.slice a (Wk.hol R l y).length cap)))) (hg : W.grownBy W' (some bm)) (hrow : Row1 W a (Wk.hol R l y)) (hab : ∀ b off, a = some ⟨b, off, none⟩ → bm < b) : Alm W' bm (n + 1) R l := by
  have hM := ho.isMap
  obtain ⟨es, c, hb, _⟩ := ho
  refine ⟨_, ho', fun z hz => ?_⟩
  by_cases e : z = y
  · subst e
    exact ⟨a, cap, Maps.atKey_put_same hM (show WideAt.IsKeyLit (.int .i64 z) from trivial) _ _, hrow.aside hb hg, hab⟩
  · have hne : (Lit.int .i64 z) ≠ Lit.int .i64 y := fun h => e (by injection h)
    rw [Maps.has_put_other hne] at hz
    obtain ⟨a', cap', e', r, q⟩ := hr z hz
    exact ⟨a', cap', by rw [Maps.atKey_put_other hne]; exact e', r.aside hb hg, q⟩
theorem OwnI.rowAbove {w : World} {B : Nat} {v : Value} {xs : List Int} (h : OwnI w B v xs) : ∃ a cap, v = .slice a xs.length cap ∧ Row1 w a xs ∧ ∀ b off, a = some ⟨b, off, none⟩ → B ≤ b := by
  obtain ⟨a, cap, hv, hr⟩ := h.row
  refine ⟨a, cap, hv, hr, fun b off e => ?_⟩
  subst e
  rcases h.form with ⟨e1, _⟩ | ⟨g, cap', e1, hB, _⟩
  · rw [hv] at e1; cases e1
  · rw [hv] at e1
    injection e1 with e1 _ _
    injection e1 with e1
    injection e1 with e1 _
    omega
theorem Row1.setCell {W : World} {a : Option Addr} {xs : List Int} {bl o : Nat} (h : Row1 W a xs) (hb : ∀ b off, a = some ⟨b, off, none⟩ → b ≠ bl) (v : Value) : Row1 (W.setCell ⟨bl, o, none⟩ v) a xs := by
  rcases h with h | ⟨b, off, rfl, hlt, hc⟩
  · exact .inl h
  · have hne := hb b off rfl
    refine .inr ⟨b, off, rfl, Nat.lt_of_lt_of_le hlt (by simp), fun i hi => ?_⟩
    rw [World.cell?_setCell_other _ _ _ _ (fun e => hne (congrArg Addr.block e).symm)]
    exact hc i hi
theorem Alm.setCell {W : World} {bm n bl o : Nat} {R : Wk.Rst} {l : List Wk.Rl} (h : Alm W bm n R l) (hb : bl < bm) (v : Value) : Alm (W.setCell ⟨bl, o, none⟩ v) bm n R l := by
  obtain ⟨D, ho, hr⟩ := h
  refine ⟨D, ho.setCell (by simp; omega) v, fun y hy => ?_⟩
  obtain ⟨a, cap, e, r, q⟩ := hr y hy
  exact ⟨a, cap, e, r.setCell (fun b off e => by have := q b off e; omega) v, q⟩
theorem containsNums (xs : List Int) (a : Option Addr) (cap : Nat) (x : Int) (b : Bool) (w : World) (hl : xs.length ≤ 1000) (hr : Row1 w a xs) (hb : decide (x ∈ xs) = b) :
    Calls Tryd.prog 43 #[.slice a xs.length cap, .int .i64 x] w fun e w' => e = .returned (.bool b) ∧ w' = w := by
  subst hb
  rcases hr with rfl | ⟨g, off, rfl, hlt, hc⟩
  · have cc := Any.slices_Contains_int_empty Tryd.lcon a cap x w
    change Calls Tryd.prog 43 _ _ _ at cc
    refine cc.mono ?_
    rintro e w1 ⟨rfl, rfl⟩
    exact ⟨rfl, rfl⟩
  · have cc := Any.slices_Contains_int Tryd.lcon g off xs.length cap xs x w (Nat.le_refl _) (by omega) hc
    change Calls Tryd.prog 43 _ _ _ at cc
    refine cc.mono ?_
    rintro e w1 ⟨rfl, rfl⟩
    rw [List.take_length]
    exact ⟨ret_bool (by simp), rfl⟩
theorem lawInt : Maps.Keyed Tryd.prog 3 := Maps.int_keyed Tryd.underlying3
theorem hol_len (R : Wk.Rst) (l : List Wk.Rl) (y : Int) : (Wk.hol R l y).length ≤ l.length := by
  have h1 : (Wk.hol R l y).length ≤ (Wk.days R l y).length := by
    unfold Wk.hol Spn.once
    exact Nat.le_trans (Spn.compact_len _) (by simp)
  exact Nat.le_trans h1 (Wk.days_len R l y)
set_option maxRecDepth 100000 in
set_option maxHeartbeats 4000000 in
theorem wKept (R : Wk.Rst) (l : List Wk.Rl) (a : Option Addr) (cap bm n : Nat) (y : Int) (W : World) (hw : Laid W) (hR : R.all = false) (hl : l.length ≤ 12) (hc : ∀ r ∈ l, Wk.rchk r = 0) (hr : Row4 W a l) (h1 : 0 ≤ y) (h2 : y ≤ 9998) (hn : n < 100000000) (hA : Alm W bm n R l) :
    Calls Tryd.prog 44 #[almV R a l.length cap bm, .int .i64 y] W fun e W' => ∃ a' cap', e = .returned (.slice a' (Wk.hol R l y).length cap') ∧ Row1 W' a' (Wk.hol R l y) ∧ Alm W' bm (n + 1) R l ∧ W.grownBy W' (some bm) := by
  have bA := below_box W (.cells #[.bool R.b0, .bool R.b1, .bool R.b2, .bool R.b3, .bool R.b4, .bool R.b5, .bool R.b6, .slice a l.length cap, .map (some bm)] 65)
  have hkey : keyOf Tryd.prog 3 (.int .i64 y) = some (.int .i64 y) := Maps.keyOf_int_mk Tryd.underlying3 (by
    have e1 : IntKind.i64.min = -9223372036854775808 := by decide
    have e2 : IntKind.i64.max = 9223372036854775807 := by decide
    simp [Lit.wf, e1, e2]; omega)
  have hlt := hA.lt
  have hA1 := hA.below bA
  obtain ⟨D, ho, hrow⟩ := hA1
  have HROW : Hid (_) := hrow
  clear hrow
  cases hh : Maps.has D (.int .i64 y) with
  | true =>
    obtain ⟨a', cap', e', r', _⟩ := HROW.out y hh
    go_enter Tryd.func44, Tryd.ntmps44
    go_wp2_with (at_lookup; refine wpList_lookup_own_ok _ rfl _ _ 63 rfl 3 45 lawInt Tryd.underlying63 heldR (Tryd.zeroValue45 _) (.held (.slice none 0 0)) [] rfl bm n D rfl ho _ _ rfl hkey ?_; intro v ps hv)
    have ev : v = .slice a' (Wk.hol R l y).length cap' := by
      rw [e'] at hv
      injection hv with hv
      injection hv with hv _
      injection hv
    subst ev
    go_ret
    exact ⟨_, _, rfl, r', ⟨D, ho.mono (by omega), HROW.out⟩, grown_of_below bA _⟩
  | false =>
    have HOL := wHolidays R l a cap bm y _ (hw.below bA) hR hl hc (hr.below bA) h1 h2
    have HHL : Hid (_) := HOL
    have cs : ∀ j v, (#[.bool R.b0, .bool R.b1, .bool R.b2, .bool R.b3, .bool R.b4, .bool R.b5, .bool R.b6, .slice a l.length cap, .map (some bm)] : Array Value)[j]? = some v → (W.alloc (.cells #[.bool R.b0, .bool R.b1, .bool R.b2, .bool R.b3, .bool R.b4, .bool R.b5, .bool R.b6, .slice a l.length cap, .map (some bm)] 65)).cell? ⟨W.heap.size, j, none⟩ = some v := fun j v hj => boxCells W _ _ j v hj
    have HCS : Hid (_) := cs
    clear HOL cs hr hc
    have sA : W.heap.size < (W.alloc (.cells #[.bool R.b0, .bool R.b1, .bool R.b2, .bool R.b3, .bool R.b4, .bool R.b5, .bool R.b6, .slice a l.length cap, .map (some bm)] 65)).heap.size := by simp
    go_enter Tryd.func44, Tryd.ntmps44
    go_wp2_with (first
      | (at_lookup; refine wpList_lookup_own_ok _ rfl _ _ 63 rfl 3 45 lawInt Tryd.underlying63 heldR (Tryd.zeroValue45 _) (.held (.slice none 0 0)) [] rfl bm n D rfl ho _ _ rfl hkey ?_; intro v ps hv; clear hv)
      | fail)
    refine Calls.mono HHL.out ?_
    rintro e w1 ⟨v1, rfl, own1, b1⟩
    obtain ⟨a1, c1, hv1, row1, ab1⟩ := own1.rowAbove
    subst hv1
    have hab1 : ∀ b off, a1 = some ⟨b, off, none⟩ → bm < b := fun b off e => by have := ab1 b off e; simp at this; omega
    clear ab1
    have ho1 := ho.kept (grown_of_below b1 none) (by simp)
    have g8 : w1.cell? ⟨W.heap.size, 8, none⟩ = some (.map (some bm)) := (b1.cell (p := ⟨W.heap.size, 8, none⟩) sA).trans (HCS.out 8 _ rfl)
    have HR1 : Hid (∀ y : Int, Maps.has D (.int .i64 y) = true → ∃ a cap, D.atKey (.int .i64 y) (.held (.slice none 0 0)) = .held (.slice a (Wk.hol R l y).length cap) ∧ Row1 w1 a (Wk.hol R l y) ∧ ∀ b off, a = some ⟨b, off, none⟩ → bm < b) := fun z hz => by
      obtain ⟨a2, c2, e2, r2, q2⟩ := HROW.out z hz
      exact ⟨a2, c2, e2, r2.below b1, q2⟩
    have gW := (grown_of_below bA (some bm)).trans (grown_of_below b1 (some bm))
    clear own1 b1 HROW HHL HCS
    go_wp2_with (at_mapUpdate; refine wpList_mapUpdate_own _ rfl _ _ _ 63 rfl 3 45 lawInt Tryd.underlying63 heldR bm n D rfl ho1 (by unfold maxLen; omega) _ _ (.int .i64 y) rfl rfl hkey (.held (.slice a1 (Wk.hol R l y).length c1)) [] rfl ?_; intro w2 hown2 hgrow2)
    have A2 := Alm.put HR1.out ho1 hown2 hgrow2 row1 hab1
    obtain ⟨es, ck, hb, _⟩ := ho1
    have r2 := row1.aside hb hgrow2
    go_wp2
    go_ret
    exact ⟨_, _, rfl, r2, A2, gW.trans hgrow2⟩
end Go.Proofs.YtehopfpcikbaiaaDoor
