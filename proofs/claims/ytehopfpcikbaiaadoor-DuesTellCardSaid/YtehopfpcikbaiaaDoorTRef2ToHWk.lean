/- The reference's terms: Nth and Find. The first day of a term, of the program and of the document's word, as one function. Rows of whole numbers that a call has made: read and written in place; what else lies there stays. The walks of package share: its small functions, even parts, and parts one by one. -/
import Derived.Test.YtehopfpcikbaiaaDoorTRef
import Derived.Test.YtehopfpcikbaiaaDoorTrmToDt
import Derived.Test.YtehopfpcikbaiaaDoorTFst
import Derived.Test.YtehopfpcikbaiaaDoorBaseToAppAll
import Derived.Test.YtehopfpcikbaiaaDoorSrt2
import Derived.Deep.OwnRows
import Derived.BigRegion
import Derived.Test.YtehopfpcikbaiaaDoorShr3ToEas
import Derived.Deep.RegionWith
import Derived.BigQuiet
import Derived.Lib.QuietBelow
namespace Go.Proofs.YtehopfpcikbaiaaDoor
open Go.RowKit

set_option maxHeartbeats 1000000 in
theorem refNth_bad (s u n k c : Int) (w : World) (h : Trm.bad u n s k 1000 = c) (hc : c ≠ 0) :
    Calls Tryd.prog 18 #[.int .i64 s, .agg #[.int .i64 u, .int .i64 n], .int .i64 k] w fun e w' => e = .returned (.tuple #[.int .i64 0, .int .i64 c]) ∧ Below w.heap.size w w' := by
  have hc1 : (c != 0) = true := by simpa using hc
  have hc2 : (c == 0) = false := by simpa using hc
  rcases bad_cases u n s k 1000 c h hc with g | ⟨g, rfl, g2⟩ | ⟨g, rfl, g2, g3, g4⟩
  · have G : Hid (_) := g
    clear g h hc
    go_enter Tryd.func18, Tryd.ntmps18
    go_wp2_with fail
    refine (refTCheck_at _ _ _ _ G.out).mono ?_; rintro e w1 ⟨rfl, b1⟩
    go_wp2_with fail
    go_ret2
    exact ⟨rfl, below_next (below_box _ _) (Nat.le_refl _) b1⟩
  · have G : Hid (_) := g
    have G2 : Hid (_) := g2
    clear g g2 h hc
    go_enter Tryd.func18, Tryd.ntmps18
    go_wp2_with fail
    refine (refTCheck_at _ _ _ _ G.out).mono ?_; rintro e w1 ⟨rfl, b1⟩
    go_wp2_with (go_at_call 20; refine (noDay_yes _ _ G2.out).mono ?_; rintro e w' ⟨rfl, rfl⟩)
    go_ret2
    exact ⟨rfl, below_next (below_box _ _) (Nat.le_refl _) b1⟩
  · have G : Hid (_) := g
    clear g h hc
    rcases (show k < 0 ∨ (¬ k < 0 ∧ 1000 < k) by omega) with g5 | ⟨g5, g6⟩
    · clear g4
      go_enter Tryd.func18, Tryd.ntmps18
      go_wp2_with fail
      refine (refTCheck_at _ _ _ _ G.out).mono ?_; rintro e w1 ⟨rfl, b1⟩
      go_wp2_with (go_at_call 20; refine (noDay_no _ _ g2 g3).mono ?_; rintro e w' ⟨rfl, rfl⟩)
      go_ret2
      exact ⟨rfl, below_next (below_box _ _) (Nat.le_refl _) b1⟩
    · clear g4
      have g5' : decide (k < 0) = false := by simpa using g5
      go_enter Tryd.func18, Tryd.ntmps18
      go_wp2_with fail
      refine (refTCheck_at _ _ _ _ G.out).mono ?_; rintro e w1 ⟨rfl, b1⟩
      go_wp2_with (go_at_call 20; refine (noDay_no _ _ g2 g3).mono ?_; rintro e w' ⟨rfl, rfl⟩)
      go_ret2
      exact ⟨rfl, below_next (below_box _ _) (Nat.le_refl _) b1⟩
set_option maxHeartbeats 1000000 in
theorem refNth_ok (s y m d u n k x c : Int) (w : World) (hv : Cal.vld y m d) (hs : Cal.num y m d = s) (hu1 : 1 ≤ u) (hu2 : u ≤ 4) (hn1 : 1 ≤ n) (hn2 : n ≤ 120) (hk1 : 0 ≤ k) (hk2 : k ≤ 1000) (hx : Trm.day y m d u n k = x) (hc : Trm.over x = c) :
    Calls Tryd.prog 18 #[.int .i64 s, .agg #[.int .i64 u, .int .i64 n], .int .i64 k] w fun e w' => e = .returned (.tuple #[.int .i64 x, .int .i64 c]) ∧ Below w.heap.size w w' := by
  have hi := Cal.num_in y m d hv
  rw [hs] at hi
  have G : Hid (Trm.chk u n = 0) := Trm.chk_ok u n hu1 hu2 hn1 hn2
  have HV : Hid (Cal.vld y m d ∧ Cal.num y m d = s ∧ Trm.day y m d u n k = x) := ⟨hv, hs, hx⟩
  have hk3 : decide (k < 0) = false := by simp; omega
  have hk4 : decide (1000 < k) = false := by simp; omega
  clear hv hs hx
  by_cases h0 : x = 0
  · have hc' : c = 8 := by rw [← hc, h0]; rfl
    subst hc' h0
    clear hc
    go_enter Tryd.func18, Tryd.ntmps18
    go_wp2_with fail
    refine (refTCheck_at _ _ _ _ G.out).mono ?_; rintro e w1 ⟨rfl, b1⟩
    have HB : Hid (_) := below_next (below_box w _) (Nat.le_refl _) b1
    have c0 := (bcell b1).1 w.heap.size 0 (by simp)
    have c1 := (bcell b1).1 w.heap.size 1 (by simp)
    rw [(has2_new w u n 27).1] at c0
    rw [(has2_new w u n 27).2] at c1
    clear b1
    go_wp2_with (first
      | (go_at_call 20; refine (noDay_no _ _ hi.1 hi.2).mono ?_; rintro e w' ⟨rfl, rfl⟩)
      | (go_at_call 34; refine (refTermDay_at _ y m d _ _ _ 0 _ HV.out.1 HV.out.2.1 hu1 hu2 hn1 hn2 hk1 (by omega) HV.out.2.2).mono ?_; rintro e w2 ⟨rfl, b2⟩))
    go_ret2
    exact ⟨rfl, below_next HB.out (Nat.le_refl _) b2⟩
  · have hc' : c = 0 := by rw [← hc]; unfold Trm.over; rw [if_neg h0]
    subst hc'
    have h0' : (x == 0) = false := by simpa using h0
    clear hc h0
    go_enter Tryd.func18, Tryd.ntmps18
    go_wp2_with fail
    refine (refTCheck_at _ _ _ _ G.out).mono ?_; rintro e w1 ⟨rfl, b1⟩
    have HB : Hid (_) := below_next (below_box w _) (Nat.le_refl _) b1
    have c0 := (bcell b1).1 w.heap.size 0 (by simp)
    have c1 := (bcell b1).1 w.heap.size 1 (by simp)
    rw [(has2_new w u n 27).1] at c0
    rw [(has2_new w u n 27).2] at c1
    clear b1
    go_wp2_with (first
      | (go_at_call 20; refine (noDay_no _ _ hi.1 hi.2).mono ?_; rintro e w' ⟨rfl, rfl⟩)
      | (go_at_call 34; refine (refTermDay_at _ y m d _ _ _ x _ HV.out.1 HV.out.2.1 hu1 hu2 hn1 hn2 hk1 (by omega) HV.out.2.2).mono ?_; rintro e w2 ⟨rfl, b2⟩))
    go_ret2
    exact ⟨rfl, below_next HB.out (Nat.le_refl _) b2⟩
end Go.Proofs.YtehopfpcikbaiaaDoor
namespace Go.Proofs.YtehopfpcikbaiaaDoor
open Go.RowKit

namespace Trm
/-- the first day of the kth term from day s on, or why not -/
def nthF (s u n k : Int) : Int × Int := if bad u n s k 1000 = 0 then (match Cal.dt s with
  | some t => (day t.1 t.2.1 t.2.2 u n k, over (day t.1 t.2.1 t.2.2 u n k))
  | none => (0, 0)) else (0, bad u n s k 1000)
theorem nthF_is (s u n k : Int) : (bad u n s k 1000 ≠ 0 ∧ nthF s u n k = (0, bad u n s k 1000)) ∨ (∃ y m d, Cal.vld y m d ∧ Cal.num y m d = s ∧ 1 ≤ u ∧ u ≤ 4 ∧ 1 ≤ n ∧ n ≤ 120 ∧ 0 ≤ k ∧ k ≤ 1000 ∧ nthF s u n k = (day y m d u n k, over (day y m d u n k))) := by
  by_cases h : bad u n s k 1000 = 0
  · obtain ⟨h1, h2, h3, h4, h5⟩ := bad_zero _ _ _ _ _ h
    obtain ⟨a, b, c, d⟩ := chk_zero _ _ h1
    obtain ⟨y, m, dd, hv, hn⟩ := Cal.ex_date s h2 h3
    refine .inr ⟨y, m, dd, hv, hn, a, b, c, d, h4, h5, ?_⟩
    unfold nthF
    rw [if_pos h, Cal.dt_is hv hn]
  · exact .inl ⟨h, by unfold nthF; rw [if_neg h]⟩
end Trm
theorem pNthF (s u n k : Int) (w : World) (hw : Laid w) :
    Calls Tryd.prog 31 #[.int .i64 s, .agg #[.int .i64 u, .int .i64 n], .int .i64 k] w fun e w' => e = .returned (.tuple #[.int .i64 (Trm.nthF s u n k).1, .int .i64 (Trm.nthF s u n k).2]) ∧ Below w.heap.size w w' := by
  rcases Trm.nthF_is s u n k with ⟨h1, h2⟩ | ⟨y, m, d, h1, h2, h3, h4, h5, h6, h7, h8, h9⟩
  · rw [h2]; exact nth_bad s u n k _ w rfl h1
  · rw [h9]; exact nth_ok s y m d u n k _ _ w hw h1 h2 h3 h4 h5 h6 h7 h8 rfl rfl
theorem refNthF (s u n k : Int) (w : World) :
    Calls Tryd.prog 18 #[.int .i64 s, .agg #[.int .i64 u, .int .i64 n], .int .i64 k] w fun e w' => e = .returned (.tuple #[.int .i64 (Trm.nthF s u n k).1, .int .i64 (Trm.nthF s u n k).2]) ∧ Below w.heap.size w w' := by
  rcases Trm.nthF_is s u n k with ⟨h1, h2⟩ | ⟨y, m, d, h1, h2, h3, h4, h5, h6, h7, h8, h9⟩
  · rw [h2]; exact refNth_bad s u n k _ w rfl h1
  · rw [h9]; exact refNth_ok s y m d u n k _ _ w h1 h2 h3 h4 h5 h6 h7 h8 rfl rfl
end Go.Proofs.YtehopfpcikbaiaaDoor
namespace Go.Proofs.YtehopfpcikbaiaaDoor
open Go.RowKit

/-- block b is a row of n whole numbers, F of the place, that may be written -/
def RowI (w : World) (b n : Nat) (F : Nat → Int) : Prop := w.rowIs b 3 n (fun i => .int .i64 (F i))
theorem RowI.cell {w : World} {b n : Nat} {F : Nat → Int} (h : RowI w b n F) {i : Nat} (hi : i < n) : w.cell? ⟨b, i, none⟩ = some (.int .i64 (F i)) := World.rowIs.cell h hi
theorem RowI.frozen {w : World} {b n : Nat} {F : Nat → Int} (h : RowI w b n F) (i : Nat) : w.frozen? ⟨b, i, none⟩ = false := World.rowIs.frozen h i
theorem RowI.lt {w : World} {b n : Nat} {F : Nat → Int} (h : RowI w b n F) : b < w.heap.size := World.rowIs.lt h
theorem RowI.congr {w : World} {b n : Nat} {F G : Nat → Int} (h : RowI w b n F) (e : ∀ i, i < n → F i = G i) : RowI w b n G := World.rowIs.congr h (fun i hi => by rw [e i hi])
theorem RowI.set {w : World} {b n : Nat} {F : Nat → Int} (h : RowI w b n F) (i : Nat) (x : Int) : RowI (w.setCell ⟨b, i, none⟩ (.int .i64 x)) b n (fun j => if j = i then x else F j) :=
  World.rowIs.congr (World.rowIs.set h i (.int .i64 x)) (fun j _ => by dsimp only; split <;> rfl)
theorem RowI.swap {w : World} {b n : Nat} {F : Nat → Int} (h : RowI w b n F) (i j : Nat) (x y : Int) (hx : x = F j) (hy : y = F i) :
    RowI ((w.setCell ⟨b, i, none⟩ (.int .i64 x)).setCell ⟨b, j, none⟩ (.int .i64 y)) b n (Srt.swp F i j) := by
  refine ((h.set i x).set j y).congr (fun k _ => ?_)
  unfold Srt.swp
  subst hx hy
  repeat' split
  all_goals first | rfl | (exfalso; omega) | (congr 1; omega)
theorem RowI.below {w w' : World} {b n : Nat} {F : Nat → Int} (h : RowI w b n F) (hb : Below w.heap.size w w') : RowI w' b n F := World.rowIs.of_block h (hb.block b h.lt)
theorem RowI.grown {w w' : World} {b c n : Nat} {F : Nat → Int} (h : RowI w b n F) (hg : w.grownBy w' (some c)) (hne : b ≠ c) : RowI w' b n F := World.rowIs.of_block h (hg.block b h.lt (fun e => hne (Option.some.inj e)))
theorem RowI.row1 {w : World} {b n : Nat} {F : Nat → Int} (h : RowI w b n F) : Row1 w (some ⟨b, 0, none⟩) ((List.range n).map F) := by
  refine .inr ⟨b, 0, rfl, h.lt, fun i hi => ?_⟩
  have hi' : i < n := by simpa using hi
  rw [Nat.zero_add, h.cell hi', List.getD_eq_getElem?_getD]
  simp [hi']
theorem grown_set (w : World) (b i : Nat) (v : Value) : w.grownBy (w.setCell ⟨b, i, none⟩ v) (some b) :=
  ⟨rfl, rfl, rfl, by rw [Deep.nblk_setCell]; exact Nat.le_refl _, fun k _ hk => Deep.blk_setCell_other _ _ _ _ (fun e => hk (congrArg some e))⟩
theorem grown_below {w w' : World} (h : Below w.heap.size w w') (row : Option Nat) : w.grownBy w' row := ⟨h.os, h.tape, h.output, h.size, fun k hk _ => h.block k hk⟩
theorem grown_drewN (w : World) (m : Nat) (row : Option Nat) : w.grownBy (w.drewN m) row := grown_below (below_drewN (Below.refl _ _) m) row
theorem below_grown {B b : Nat} {a w w' : World} (h : Below B a w) (hB : B ≤ w.heap.size) (hb : B ≤ b) (hg : w.grownBy w' (some b)) : Below B a w' :=
  h.grown hg hB (fun j hj => by cases hj; exact hb)
theorem RowI.swapped {w : World} {b n : Nat} {F G : Nat → Int} (h : RowI w b n F) {i j : Nat} {x y : Int} (hx : x = F j) (hy : y = F i) (hG : ∀ k, Srt.swp F i j k = G k) :
    RowI ((w.setCell ⟨b, i, none⟩ (.int .i64 x)).setCell ⟨b, j, none⟩ (.int .i64 y)).drew b n G := World.rowIs.drew ((h.swap i j x y hx hy).congr (fun k _ => hG k))
theorem grown_swap {a w : World} {b : Nat} (h : a.grownBy w (some b)) (i j : Nat) (x y : Value) : a.grownBy ((w.setCell ⟨b, i, none⟩ x).setCell ⟨b, j, none⟩ y).drew (some b) :=
  ((h.trans (grown_set w b i x)).trans (grown_set _ b j y)).trans (grown_drewN _ 1 _)
theorem row1_grown {w w' : World} {a : Option Addr} {l : List Int} {c : Nat} (h : Row1 w a l) (hg : w.grownBy w' (some c)) (hne : ∀ p, a = some p → p.block ≠ c) : Row1 w' a l := by
  rcases h with h | ⟨b, off, rfl, hlt, hc⟩
  · exact .inl h
  · refine .inr ⟨b, off, rfl, Nat.lt_of_lt_of_le hlt hg.size, fun i hi => ?_⟩
    rw [World.cell?_of_block (w := w) (hg.block b hlt (fun e => hne _ rfl (Option.some.inj e)))]
    exact hc i hi
end Go.Proofs.YtehopfpcikbaiaaDoor
namespace Go.Proofs.YtehopfpcikbaiaaDoor
open Go.RowKit Go.BigFrame Go.Sort

theorem hwithin_any (n a b : Int) (w : World) :
    Calls Tryd.prog 30 #[.int .i64 n, .int .i64 a, .int .i64 b] w fun e w' => e = .returned (.bool (decide (a ≤ n) && decide (n ≤ b))) ∧ w' = w := by
  by_cases h1 : a ≤ n <;> by_cases h2 : n ≤ b
  all_goals
    simp [h1, h2]
    go_enter Tryd.func30, Tryd.ntmps30
    go_wp2
    go_ret
    exact ⟨rfl, rfl⟩
theorem hwithin_at (n a b : Int) (v : Bool) (w : World) (h : (decide (a ≤ n) && decide (n ≤ b)) = v) :
    Calls Tryd.prog 30 #[.int .i64 n, .int .i64 a, .int .i64 b] w fun e w' => e = .returned (.bool v) ∧ w' = w := by
  subst h; exact hwithin_any n a b w
theorem Row1.get {w : World} {a : Option Addr} {l : List Int} (hr : Row1 w a l) {k : Nat} (hlt : k < l.length) :
    ∃ b off, a = some ⟨b, off, none⟩ ∧ b < w.heap.size ∧ l[k]? = some (Shr.at' l k) ∧ w.cell? ⟨b, off + k, none⟩ = some (.int .i64 (Shr.at' l k)) := by
  rcases hr with rfl | ⟨b, off, rfl, hb, hc⟩
  · simp at hlt
  exact ⟨b, off, rfl, hb, by simp [Shr.at', List.getElem?_eq_getElem hlt], hc k hlt⟩
end Go.Proofs.YtehopfpcikbaiaaDoor
