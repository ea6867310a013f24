/- The program's holidays of a year: of each rule one, sorted by the library, each once. Where the functions of the standard library that the program calls lie in this dump, so that what is proved of them once can be used here. Made by shelf.py. -/
import Derived.Test.YtehopfpcikbaiaaDoorWDay2
import Derived.Test.YtehopfpcikbaiaaDoorShW
import Derived.Shelf.SlGeneric
import Derived.Shelf.Slices.Turned
import Derived.Ground.NamesProg
import Derived.Test.YtehopfpcikbaiaaDoorProg
namespace Go.Proofs.YtehopfpcikbaiaaDoor
open Go.RowKit

theorem sortNums (zs : List Int) (v : Value) (B : Nat) (w W : World) (hz : zs.length ≤ 1000) (hB : B ≤ W.heap.size) (hown : OwnI W B v zs) (hnx : Below B w W) :
    Calls Tryd.prog 75 #[v] W fun e w' => e = .returned (.tuple #[]) ∧ OwnI w' B v (zs.mergeSort fun x y => decide (x ≤ y)) ∧ Below B w w' := by
  rcases hown.form with ⟨rfl, rfl⟩ | ⟨g1, cap, rfl, hg1, hg2, hcap, hH⟩
  · have cs := Any.slices_Sort_int_none Tryd.lnone none 0 W
    change Calls Tryd.prog 75 _ _ _ at cs
    refine cs.mono ?_
    rintro e w4 ⟨rfl, rfl⟩
    exact ⟨rfl, by simpa using hown, hnx⟩
  · have cs := Any.slices_Sort_int Tryd.lint g1 0 cap zs W hH hg2 (by omega)
    change Calls Tryd.prog 75 _ _ _ at cs
    refine cs.mono ?_
    rintro e w4 ⟨rfl, n4, os4, hw4⟩
    have S4 := OwnI.sorted hown hw4
    exact ⟨rfl, S4.1, hnx.grown S4.2 hB (fun j hj => by cases hj; exact hg1)⟩
theorem compactNums (zs : List Int) (v : Value) (B : Nat) (w W : World) (hz : zs.length ≤ 1000) (_hB : B ≤ W.heap.size) (hown : OwnI W B v zs) (hnx : Below B w W) :
    Calls Tryd.prog 76 #[v] W fun e w' => ∃ v', e = .returned v' ∧ OwnI w' B v' (Lib.compact zs) ∧ Below B w w' := by
  rcases hown.form with ⟨rfl, rfl⟩ | ⟨g1, cap, rfl, hg1, hg2, hcap, hH⟩
  · have cc := Any.slices_Compact_int_empty Tryd.lcomp none 0 W
    change Calls Tryd.prog 76 _ _ _ at cc
    refine cc.mono ?_
    rintro e w4 ⟨rfl, rfl⟩
    exact ⟨_, rfl, by simpa [Lib.compact, Lib.compactUpTo] using hown, hnx⟩
  · have cc := Any.slices_Compact_int Tryd.lcomp g1 0 cap zs W hH (by omega) hcap
    change Calls Tryd.prog 76 _ _ _ at cc
    refine cc.mono ?_
    rintro e w5 ⟨rfl, q5, hw5⟩
    have S5 := OwnI.compacted hown (Spn.compact_len zs) hw5
    exact ⟨_, rfl, S5, by subst hw5; exact Lib.below_putRow hnx hg1⟩
set_option maxRecDepth 100000 in
set_option maxHeartbeats 4000000 in
theorem wHolidays (R : Wk.Rst) (l : List Wk.Rl) (a : Option Addr) (cap bm : Nat) (y : Int) (w : World) (hw : Laid w) (hR : R.all = false) (hl : l.length ≤ 12) (hc : ∀ r ∈ l, Wk.rchk r = 0) (hr : Row4 w a l) (h1 : 0 ≤ y) (h2 : y ≤ 9998) :
    Calls Tryd.prog 66 #[almV R a l.length cap bm, .int .i64 y] w fun e w' => ∃ v, e = .returned v ∧ OwnI w' w.heap.size v (Wk.hol R l y) ∧ Below w.heap.size w w' := by
  obtain ⟨i0, hi, hz0, hz1, hz2⟩ := info_parts infoInt
  have HI : Hid (Tryd.prog.info? 3 = some i0 ∧ i0.zero = some (.int .i64 0) ∧ i0.size = 1 ∧ i0.bytes = 8) := ⟨hi, hz0, hz1, hz2⟩
  clear hi hz0 hz1 hz2
  have HR : Hid (Row4 w a l) := hr
  have HCK : Hid (∀ r ∈ l, Wk.rchk r = 0) := hc
  have HALL : Hid (R.all = false) := hR
  clear hr hc hR
  have bA := below_box w (.cells #[.bool R.b0, .bool R.b1, .bool R.b2, .bool R.b3, .bool R.b4, .bool R.b5, .bool R.b6, .slice a l.length cap, .map (some bm)] 65)
  have sA : w.heap.size < (w.alloc (.cells #[.bool R.b0, .bool R.b1, .bool R.b2, .bool R.b3, .bool R.b4, .bool R.b5, .bool R.b6, .slice a l.length cap, .map (some bm)] 65)).heap.size := by simp
  have HC : Hid (∀ j v, (#[.bool R.b0, .bool R.b1, .bool R.b2, .bool R.b3, .bool R.b4, .bool R.b5, .bool R.b6, .slice a l.length cap, .map (some bm)] : Array Value)[j]? = some v → (w.alloc (.cells #[.bool R.b0, .bool R.b1, .bool R.b2, .bool R.b3, .bool R.b4, .bool R.b5, .bool R.b6, .slice a l.length cap, .map (some bm)] 65)).cell? ⟨w.heap.size, j, none⟩ = some v) := fun j v hj => boxCells w _ _ j v hj
  go_enter Tryd.func66, Tryd.ntmps66
  go_wp2
  generalize w.alloc (.cells #[.bool R.b0, .bool R.b1, .bool R.b2, .bool R.b3, .bool R.b4, .bool R.b5, .bool R.b6, .slice a l.length cap, .map (some bm)] 65) = wA at *
  go_loopw [5, 14] (fun v i wr => ∃ k : Nat, k ≤ l.length ∧ i = .int .i64 k ∧ OwnI wr wA.heap.size v (Wk.days R (l.take k) y) ∧ Below wA.heap.size wA wr) (fun _ i _ => l.length - (intOf i).toNat)
  case atStart => exact ⟨0, Nat.zero_le _, rfl, OwnI.nil _ _, Below.refl _ _⟩
  case round =>
    obtain ⟨k, hk, rfl, hown, hnx⟩ := hrel
    have hsz : wA.heap.size ≤ wr.heap.size := hnx.size
    have B1 := below_next bA (Nat.le_refl _) hnx
    by_cases hlt : k < l.length
    · have hlt' : (k : Int) < (l.length : Int) := by omega
      obtain ⟨b, off, x1, x2, x3, x4, rfl, hb, hx, c1, c2, c3, c4⟩ := (HR.out.below B1).lies hlt
      have hck := HCK.out _ (List.mem_of_getElem? hx)
      have HD : Hid (_) := Wk.days_succ R l y k _ hx
      have hlen : (Wk.days R (l.take k) y).length ≤ 12 := Nat.le_trans (Wk.days_len R _ y) (by rw [List.length_take]; omega)
      clear hx
      have nx1 : Below wA.heap.size wA (wr.alloc (.cells #[.int .i64 x1, .int .i64 x2, .int .i64 x3, .int .i64 x4] 74)) := hnx.alloc hsz _
      have ow1 := hown.alloc (.cells #[.int .i64 x1, .int .i64 x2, .int .i64 x3, .int .i64 x4] 74)
      have hw1 := (hw.below B1).alloc (.cells #[.int .i64 x1, .int .i64 x2, .int .i64 x3, .int .i64 x4] 74)
      have g : ∀ j v, (#[.bool R.b0, .bool R.b1, .bool R.b2, .bool R.b3, .bool R.b4, .bool R.b5, .bool R.b6, .slice (some ⟨b, off, none⟩) l.length cap, .map (some bm)] : Array Value)[j]? = some v → wr.cell? ⟨w.heap.size, j, none⟩ = some v := fun j v hj => (hnx.cell (p := ⟨w.heap.size, j, none⟩) sA).trans (HC.out j v hj)
      have g0 := g 0 _ rfl
      have g1 := g 1 _ rfl
      have g2 := g 2 _ rfl
      have g3 := g 3 _ rfl
      have g4 := g 4 _ rfl
      have g5 := g 5 _ rfl
      have g6 := g 6 _ rfl
      have g7 := g 7 _ rfl
      have g8 := g 8 _ rfl
      have hsw : w.heap.size < wr.heap.size := Nat.lt_of_lt_of_le sA hsz
      have hnw : w.heap.size ≠ wr.heap.size := by omega
      clear g
      generalize Wk.days R (l.take k) y = E at hown ow1 HD hlen ⊢
      go_wp2_with fail
      refine (wHoliday R (some ⟨b, off, none⟩) l.length cap bm x1 x2 x3 x4 y _ hw1 HALL.out hck h1 h2).mono ?_
      rintro e w1 ⟨rfl, b1⟩
      have nx2 := below_next nx1 (Nat.le_refl _) b1
      have ow2 := ow1.still b1
      have hs2 : wA.heap.size ≤ w1.heap.size := nx2.size
      clear g0 g1 g2 g3 g4 g5 g6 g7 g8 b1 ow1 nx1 hw1 hown c1 c2 c3 c4
      cases hd : Wk.rday R y (x1, x2, x3, x4) with
      | none =>
        have HE : Hid (Wk.days R (l.take (k + 1)) y = E) := by unfold Hid; rw [HD.out, hd]; simp
        clear hd
        unfold rdV
        go_wp2
        go_roundw
        case rel => exact ⟨k + 1, by omega, by go_num, by rw [HE.out]; exact ow2, nx2⟩
        case measure => simp [intOf]; omega
      | some n =>
        have HE : Hid (Wk.days R (l.take (k + 1)) y = E ++ [n]) := by unfold Hid; rw [HD.out, hd]
        clear hd
        unfold rdV
        go_wp2_with (at_builtin; refine wpList_append_own _ rfl (.tmp 27) (.tmp 29) 45 rfl wA.heap.size 3 i0 _ 1 8 Tryd.underlying45 HI.out.1 HI.out.2.1 HI.out.2.2.1 HI.out.2.2.2 rfl (by decide) _ _ _ rfl (World.ownsRow.alloc ow2 _) ⟨w1.heap.size, 0, none⟩ 1 1 [.int .i64 n] rfl rfl (cell1_new _ _ _) (one1 _) (by unfold maxLen; omega) (by omega) (by simp; omega) ?_; intro v3 w3 own3 grow3 _)
        have R3 := OwnI.keep hs2 ow2 nx2 own3 grow3
        clear own3 grow3 ow2
        go_wp2
        go_roundw
        case rel => exact ⟨k + 1, by omega, by go_num, by rw [HE.out]; exact R3.1, R3.2⟩
        case measure => simp [intOf]; omega
    · obtain rfl : k = l.length := by omega
      rw [List.take_length] at hown
      have hlen : (Wk.days R l y).length ≤ 1000 := Nat.le_trans (Wk.days_len R _ y) (by omega)
      have HO : Hid (Lib.compact ((Wk.days R l y).mergeSort fun x y => decide (x ≤ y)) = Wk.hol R l y) := rfl
      have e4 : ((Wk.days R l y).mergeSort fun x y => decide (x ≤ y)).length = (Wk.days R l y).length := by simp
      go_wp2_with fail
      refine (sortNums _ _ wA.heap.size wA wr hlen hsz hown hnx).mono ?_
      rintro e w4 ⟨rfl, own4, nx4⟩
      rw [← e4] at hlen
      clear e4 hown
      generalize (Wk.days R l y).mergeSort (fun x y => decide (x ≤ y)) = Z at own4 HO hlen
      go_wp2_with fail
      refine (compactNums _ _ wA.heap.size wA w4 hlen nx4.size own4 nx4).mono ?_
      rintro e w5 ⟨v5, rfl, own5, nx5⟩
      rw [HO.out] at own5
      have B5 := below_next bA (Nat.le_refl _) nx5
      clear own4 nx4
      go_wp2
      go_ret
      exact ⟨_, rfl, own5.weak (Nat.le_of_lt sA), B5⟩
end Go.Proofs.YtehopfpcikbaiaaDoor
namespace Go.Proofs
open Go.Shelf
def Tryd.lcon_ren : Go.Shelf.Ren := ⟨fun | 107 => 43 | 108 => 65 | n => n, fun | 28 => 45 | 3 => 3 | 4 => 4 | 0 => 0 | n => n, fun | n => n⟩
theorem Tryd.lcon : Go.Proofs.Lays.n107 Tryd.prog Tryd.lcon_ren := {
  mixed := by kernel_rfl
  f107 := Tryd.func43.trans (congrArg some (by kernel_rfl))
  f108 := Tryd.func65.trans (congrArg some (by kernel_rfl))
  t0 := Tryd.underlying0
  a0 := Tryd.isAgg0
  z0 := Tryd.sizeOf0
  v0 := Tryd.zeroValue0
  t3 := Tryd.underlying3
  a3 := Tryd.isAgg3
  z3 := Tryd.sizeOf3
  v3 := Tryd.zeroValue3
  t4 := Tryd.underlying4
  a4 := Tryd.isAgg4
  z4 := Tryd.sizeOf4
  v4 := Tryd.zeroValue4
  t28 := Tryd.underlying45
  a28 := Tryd.isAgg45
  z28 := Tryd.sizeOf45
  v28 := Tryd.zeroValue45 }
end Go.Proofs
