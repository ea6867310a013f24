/- The program's edges of two sets: both ends of each span, sorted by the library, each once. -/
import Derived.Test.YtandlmnbnjkklaaGreatDoorSJoin
import Derived.Test.YtandlmnbnjkklaaGreatDoorShAToShB
import Derived.Test.YtandlmnbnjkklaaGreatDoorShAToShB
import Derived.Lib.OwnBridge
import Derived.Sort.OwnSortedInts
namespace Go.Proofs.YtandlmnbnjkklaaGreatDoor
open Go.RowKit Go.BigFrame

/-- Behind an append of two numbers. -/
theorem OwnI.put2 {w W w1 : World} {B : Nat} {v v' : Value} {xs : List Int} {x y : Int} {o : Obj} (hB : B ≤ W.heap.size) (hown : OwnI W B v xs) (hnx : Below B w W)
    (hown' : w1.ownsRow B 3 1 v' (xs.length + 2) (xs.map (Value.int .i64) ++ [.int .i64 x, .int .i64 y])) (hgrow : (W.alloc o).grownBy w1 v.ownBlock) :
    OwnI w1 B v' (xs ++ [x, y]) ∧ Below B w w1 :=
  ⟨by unfold OwnI; simpa using hown', (hnx.alloc hB o).grown hgrow (by simp; omega) (fun j hj => (World.ownsRow.lt hown j hj).1)⟩
theorem OwnI.form {w : World} {B : Nat} {v : Value} {xs : List Int} (h : OwnI w B v xs) : (v = .slice none 0 0 ∧ xs = []) ∨ ∃ g cap, v = .slice (some ⟨g, 0, none⟩) xs.length cap ∧ B ≤ g ∧ g < w.heap.size ∧ xs.length ≤ cap ∧ Sort.Holds (Value.int .i64) w g 0 xs.toArray := by
  rcases h.2 with ⟨h1, h2⟩ | ⟨g, cap, cur, h1, h2, _⟩
  · exact .inl ⟨h1, List.eq_nil_of_length_eq_zero h2⟩
  · obtain ⟨g', cap', e, k1, k2, k3, _, _, k4⟩ := Lib.holds_of_ownsRow h (by rw [h1]; simp)
    exact .inr ⟨g', cap', e, k1, k2, k3, k4⟩
theorem Spn.once_nil (l : List Spn.Sp) (h : Spn.edges l = []) : Spn.ends l = [] := by
  rw [← Spn.once_edges l, h]; simp [Spn.once, Lib.compact, Lib.compactUpTo]
/-- a slice of numbers that the call has made, sorted -/
theorem OwnI.sorted {w w' : World} {B g cap n : Nat} {os : Array Obj} {xs : List Int} (h : OwnI w B (.slice (some ⟨g, 0, none⟩) xs.length cap) xs)
    (hw : w' = Sort.grow (Sort.putRow (Value.int .i64) (Sort.ahead w n) g 0 (xs.mergeSort fun x y => decide (x ≤ y)).toArray) os) :
    OwnI w' B (.slice (some ⟨g, 0, none⟩) xs.length cap) (xs.mergeSort fun x y => decide (x ≤ y)) ∧ w.grownBy w' (some g) := by
  subst hw
  refine ⟨?_, grownBy_sortedI _⟩
  rcases h.2 with ⟨e0, _⟩ | ⟨g', cap', cur, e0, hb, hg, hn, hm, hs, ht⟩
  · cases e0
  · injection e0 with e1 _ e3
    injection e1 with e1
    injection e1 with e1
    subst e1; subst e3
    have r := ownsRow_sortedI (n := n) (os := os) (ss := xs) (ts := xs.mergeSort fun x y => decide (x ≤ y)) (by simp) hb hg hn hm hs
    unfold OwnI
    rw [List.length_mergeSort]
    exact r
theorem OwnI.compacted {w w' : World} {B g cap q : Nat} {xs : List Int} (h : OwnI w B (.slice (some ⟨g, 0, none⟩) xs.length cap) xs) (hl : (Lib.compact xs).length ≤ xs.length)
    (hw : w' = Sort.putRow (Value.int .i64) (Sort.ahead w q) g 0 (Lib.compact xs ++ List.replicate (xs.length - (Lib.compact xs).length) 0).toArray) :
    OwnI w' B (.slice (some ⟨g, 0, none⟩) (Lib.compact xs).length cap) (Lib.compact xs) := by
  subst hw
  have r := Lib.ownsRow_putRow (q := q) (k := (Lib.compact xs).length) (ys := Lib.compact xs ++ List.replicate (xs.length - (Lib.compact xs).length) 0) h (by simp; omega) hl
  rw [List.take_left] at r
  exact r
theorem Spn.compact_len (xs : List Int) : (Lib.compact xs).length ≤ xs.length := by
  unfold Lib.compact Lib.compactUpTo
  rw [List.length_map]
  exact Nat.le_trans (List.length_filter_le _ _) (by simp)
set_option maxRecDepth 100000 in
set_option maxHeartbeats 4000000 in
theorem edges_any (la lb : List Spn.Sp) (a b : Option Addr) (ca cb g : Nat) (w : World) (hla : la.length ≤ 64) (hlb : lb.length ≤ 64) (ra : Row2 w a la) (rb : Row2 w b lb) (hg : g < w.heap.size)
    (c1 : w.cell? ⟨g, 0, none⟩ = some (.slice a la.length ca)) (c2 : w.cell? ⟨g, 1, none⟩ = some (.slice b lb.length cb)) :
    Calls Tryz.prog 71 #[.slice (some ⟨g, 0, none⟩) 2 2] w fun e w' => ∃ v, e = .returned v ∧ OwnI w' w.heap.size v (Spn.ends (la ++ lb)) ∧ Below w.heap.size w w' := by
  obtain ⟨i0, hi, hz0, hz1, hz2⟩ := info_parts infoInt
  have key : ∃ pre : Nat → List Spn.Sp, pre 0 = [] ∧ pre 2 = la ++ lb ∧ (∀ k, k < 2 → ∃ ak ck lk, w.cell? ⟨g, k, none⟩ = some (.slice ak lk.length ck) ∧ Row2 w ak lk ∧ lk.length ≤ 64 ∧ pre (k + 1) = pre k ++ lk ∧ (pre k).length ≤ 64) :=
    ⟨fun k => if k = 0 then [] else if k = 1 then la else la ++ lb, rfl, rfl, fun k hk => by
      match k, hk with
      | 0, _ => exact ⟨a, ca, la, c1, ra, hla, by simp, by simp⟩
      | 1, _ => exact ⟨b, cb, lb, c2, rb, hlb, by simp, by simpa using hla⟩⟩
  obtain ⟨pre, hp0, hp2, hp⟩ := key
  have HP : Hid (_) := And.intro hp0 (And.intro hp2 hp)
  have HIN : Hid (Tryz.prog.info? 3 = some i0 ∧ i0.zero = some (.int .i64 0) ∧ i0.size = 1 ∧ i0.bytes = 8) := ⟨hi, hz0, hz1, hz2⟩
  clear hp hp0 hp2 c1 c2 hi hz0 hz1 hz2
  go_enter Tryz.func71, Tryz.ntmps71
  go_wp2
  go_loopw [3, 10] (fun v i wr => ∃ k : Nat, k ≤ 2 ∧ i = .int .i64 k ∧ OwnI wr w.heap.size v (Spn.edges (pre k)) ∧ Below w.heap.size w wr) (fun _ i _ => 2 - (intOf i).toNat)
  case atStart => exact ⟨0, by omega, rfl, by rw [HP.out.1]; exact OwnI.nil _ _, Below.refl _ _⟩
  case round =>
    rename World => wo
    obtain ⟨k, hk, rfl, hown, hnx⟩ := hrel
    by_cases hlt : k < 2
    · have hlt1 : (k : Int) < 2 := by omega
      obtain ⟨ak, ck, lk, hc, hrk, hlk, hpk, hpl⟩ := HP.out.2.2 k hlt
      have HPK : Hid (pre (k + 1) = pre k ++ lk) := hpk
      have hc' : wo.cell? ⟨g, k, none⟩ = some (.slice ak lk.length ck) := (hnx.cell (p := ⟨g, k, none⟩) hg).trans hc
      clear hpk hc
      have HL : Hid (∀ j, (Spn.edges (pre k ++ lk.take j)).length ≤ 256) := fun j => by
        rw [Spn.edges_len, List.length_append]
        have := List.length_take_le j lk
        have := List.length_take_le' j lk
        omega
      go_wp2
      go_loopw [3, 16] (fun v i wr => ∃ j : Nat, j ≤ lk.length ∧ i = .int .i64 j ∧ OwnI wr w.heap.size v (Spn.edges (pre k ++ lk.take j)) ∧ Below w.heap.size w wr) (fun _ i _ => lk.length - (intOf i).toNat)
      case atStart => exact ⟨0, Nat.zero_le _, rfl, by simpa using hown, hnx⟩
      case round =>
        clear hown hnx
        obtain ⟨j, hj, rfl, hown, hnx⟩ := hrel
        have hsz : w.heap.size ≤ wr.heap.size := hnx.size
        by_cases hjl : j < lk.length
        · have hjl1 : (j : Int) < (lk.length : Int) := by omega
          obtain ⟨b', off, x, y, rfl, hb', hx, d1, d2⟩ := (hrk.below hnx).lies hjl
          have HE : Hid (Spn.edges (pre k ++ lk.take (j + 1)) = Spn.edges (pre k ++ lk.take j) ++ [x, y]) := by
            unfold Hid
            rw [Spn.take_succ_of lk j x y hx, ← List.append_assoc, Spn.edges_append (pre k ++ lk.take j)]; rfl
          have hlen := HL.out j
          clear hx
          generalize Spn.edges (pre k ++ lk.take j) = E at hown HE hlen ⊢
          have nxA := hnx.alloc hsz (.cells #[.int .i64 x, .int .i64 y] 49)
          have ownA := hown.alloc (.cells #[.int .i64 x, .int .i64 y] 49)
          have hBA : w.heap.size ≤ (wr.alloc (.cells #[.int .i64 x, .int .i64 y] 49)).heap.size := by simp; omega
          go_wp2_with (at_builtin; refine wpList_append_own _ rfl (.tmp 20) (.tmp 25) 108 rfl w.heap.size 3 i0 _ 1 8 Tryz.underlying108 HIN.out.1 HIN.out.2.1 HIN.out.2.2.1 HIN.out.2.2.2 rfl (by decide) _ _ _ rfl (World.ownsRow.alloc ownA _) ⟨wr.heap.size + 1, 0, none⟩ 2 2 [.int .i64 x, .int .i64 y] rfl rfl (cell2_at _ _ (by simp) _ _ _) (one2 _ _) (by unfold maxLen; omega) (by omega) (by simp; omega) ?_; intro v1 w1 own1 grow1 _)
          have R := OwnI.put2 hBA ownA nxA own1 grow1
          clear own1 grow1 hown ownA
          go_wp2
          go_roundw
          case rel => exact ⟨j + 1, by omega, by go_num, by rw [HE.out]; exact R.1, R.2⟩
          case measure => simp [intOf]; omega
        · obtain rfl : j = lk.length := by omega
          rw [List.take_length, ← HPK.out] at hown
          go_wp2
          go_roundw
          case rel => exact ⟨k + 1, by omega, by go_num, hown, hnx⟩
          case measure => simp [intOf]; omega
    · obtain rfl : k = 2 := by omega
      rw [HP.out.2.1] at hown
      have HO : Hid (Spn.once (Spn.edges (la ++ lb)) = Spn.ends (la ++ lb)) := Spn.once_edges _
      have hlen : (Spn.edges (la ++ lb)).length ≤ 256 := by rw [Spn.edges_len, List.length_append]; omega
      rcases hown.form with ⟨rfl, h0⟩ | ⟨g1, cap, rfl, hg1, hg2, hcap, hH⟩
      · have HN : Hid (Spn.ends (la ++ lb) = []) := Spn.once_nil _ h0
        have cs := fun W => Any.slices_Sort_int_none Tryz.lnone none 0 W
        change ∀ W, Calls Tryz.prog 85 _ _ _ at cs
        have cc := fun W => Any.slices_Compact_int_empty Tryz.lcomp none 0 W
        change ∀ W, Calls Tryz.prog 86 _ _ _ at cc
        clear h0
        go_wp2_with fail
        refine (cs _).mono ?_
        rintro e w4 ⟨rfl, rfl⟩
        go_wp2_with fail
        refine (cc _).mono ?_
        rintro e w5 ⟨rfl, rfl⟩
        go_wp2
        go_ret
        exact ⟨_, rfl, by rw [HN.out]; exact OwnI.nil _ _, hnx⟩
      · have cs := Any.slices_Sort_int Tryz.lint g1 0 cap (Spn.edges (la ++ lb)) wo hH hg2 (by omega)
        change Calls Tryz.prog 85 _ _ _ at cs
        have HOW : Hid (_) := hown
        clear hH hown
        go_wp2_with fail
        refine cs.mono ?_
        rintro e w4 ⟨rfl, n4, os4, hw4⟩
        have S4 := OwnI.sorted HOW.out hw4
        have hnx4 : Below w.heap.size w w4 := hnx.grown S4.2 hnx.size (fun j hj => by cases hj; exact hg1)
        clear hw4 cs
        have e4 : ((Spn.edges (la ++ lb)).mergeSort fun x y => decide (x ≤ y)).length = (Spn.edges (la ++ lb)).length := by simp
        have own4 := S4.1
        rw [← e4] at own4 hcap hlen ⊢
        have HE : Hid (Lib.compact ((Spn.edges (la ++ lb)).mergeSort fun x y => decide (x ≤ y)) = Spn.ends (la ++ lb)) := HO.out
        clear S4 HO e4 HOW
        generalize (Spn.edges (la ++ lb)).mergeSort (fun x y => decide (x ≤ y)) = Z at own4 hcap hlen HE ⊢
        rcases own4.form with ⟨e0, _⟩ | ⟨g2, cap2, e0, _, _, _, hH2⟩
        · cases e0
        injection e0 with e1 _ e3
        injection e1 with e1
        injection e1 with e1
        subst e1; subst e3
        have cc := Any.slices_Compact_int Tryz.lcomp g1 0 cap Z w4 hH2 (by omega) hcap
        change Calls Tryz.prog 86 _ _ _ at cc
        have HOW : Hid (_) := own4
        clear hH2 own4
        go_wp2_with fail
        refine cc.mono ?_
        rintro e w5 ⟨rfl, q5, hw5⟩
        have S5 := OwnI.compacted HOW.out (Spn.compact_len Z) hw5
        have hnx5 : Below w.heap.size w w5 := by subst hw5; exact Lib.below_putRow hnx4 hg1
        rw [HE.out] at S5 ⊢
        clear hw5 cc
        go_wp2
        go_ret
        exact ⟨_, rfl, S5, hnx5⟩
end Go.Proofs.YtandlmnbnjkklaaGreatDoor
