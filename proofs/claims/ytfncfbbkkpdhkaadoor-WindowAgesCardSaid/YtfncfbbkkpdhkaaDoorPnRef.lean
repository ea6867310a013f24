/- The reference's persons: the day on which an age is turned. -/
import Derived.Test.YtfncfbbkkpdhkaaDoorRef
import Derived.Test.YtfncfbbkkpdhkaaDoorBegun
import Derived.Test.YtfncfbbkkpdhkaaDoorPrs
import Derived.Deep.RegionWith
namespace Go.Proofs.YtfncfbbkkpdhkaaDoor
open Go.RowKit

/-- a block of a date that may be written -/
def Bx3 (w : World) (b : Nat) (x y z : Int) : Prop := Has3 w b x y z ∧ w.frozen? ⟨b, 0, none⟩ = false ∧ w.frozen? ⟨b, 1, none⟩ = false ∧ w.frozen? ⟨b, 2, none⟩ = false
theorem Bx3.new (w : World) (x y z : Int) (t : Nat) : Bx3 (w.alloc (.cells #[.int .i64 x, .int .i64 y, .int .i64 z] t)) w.heap.size x y z :=
  ⟨Has3.new w x y z t, by simp, by simp, by simp⟩
theorem Bx3.below {w w' : World} {b : Nat} {x y z : Int} (h : Bx3 w b x y z) (hb : Below w.heap.size w w') : Bx3 w' b x y z :=
  ⟨h.1.below hb, (World.frozen?_of_block (w := w) (a := ⟨b, 0, none⟩) (hb.block b h.1.1)).trans h.2.1, (World.frozen?_of_block (w := w) (a := ⟨b, 1, none⟩) (hb.block b h.1.1)).trans h.2.2.1, (World.frozen?_of_block (w := w) (a := ⟨b, 2, none⟩) (hb.block b h.1.1)).trans h.2.2.2⟩
theorem Bx3.set0 {w : World} {b : Nat} {x y z : Int} (h : Bx3 w b x y z) (t : Int) : Bx3 (w.setCell ⟨b, 0, none⟩ (.int .i64 t)) b t y z := by
  obtain ⟨⟨h1, h2, h3, h4⟩, f0, f1, f2⟩ := h
  refine ⟨⟨by rw [World.size_setCell]; exact h1, World.cell?_setCell_same _ _ _ h2, ?_, ?_⟩, by rw [World.frozen?_setCell]; exact f0, by rw [World.frozen?_setCell]; exact f1, by rw [World.frozen?_setCell]; exact f2⟩
  · rw [World.cell?_setCell_other _ _ _ _ (fun h => by cases h)]; exact h3
  · rw [World.cell?_setCell_other _ _ _ _ (fun h => by cases h)]; exact h4
theorem Bx3.set2 {w : World} {b : Nat} {x y z : Int} (h : Bx3 w b x y z) (t : Int) : Bx3 (w.setCell ⟨b, 2, none⟩ (.int .i64 t)) b x y t := by
  obtain ⟨⟨h1, h2, h3, h4⟩, f0, f1, f2⟩ := h
  refine ⟨⟨by rw [World.size_setCell]; exact h1, ?_, ?_, World.cell?_setCell_same _ _ _ h4⟩, by rw [World.frozen?_setCell]; exact f0, by rw [World.frozen?_setCell]; exact f1, by rw [World.frozen?_setCell]; exact f2⟩
  · rw [World.cell?_setCell_other _ _ _ _ (fun h => by cases h)]; exact h2
  · rw [World.cell?_setCell_other _ _ _ _ (fun h => by cases h)]; exact h3
theorem refLeap_at (y : Int) (b : Bool) (w : World) (h : Cal.leap y = b) : Calls Tryd.prog 29 #[.int .i64 y] w fun e w' => e = .returned (.bool b) ∧ w' = w := by
  subst h; exact refLeap_any y w
theorem pnoDay_no (s : Int) (w : World) (h1 : 1 ≤ s) (h2 : s ≤ 3652059) :
    Calls Tryd.prog 22 #[.int .i64 s] w fun e w' => e = .returned (.bool false) ∧ w' = w := by
  have g1 : decide (s < 1) = false := by simp; omega
  have g2 : decide (3652059 < s) = false := by simp; omega
  go_enter Tryd.func22, Tryd.ntmps22
  go_wp2
  go_ret
  exact ⟨rfl, rfl⟩
theorem pnoDay_yes (s : Int) (w : World) (h : s < 1 ∨ 3652059 < s) :
    Calls Tryd.prog 22 #[.int .i64 s] w fun e w' => e = .returned (.bool true) ∧ w' = w := by
  by_cases h1 : s < 1
  · clear h
    go_enter Tryd.func22, Tryd.ntmps22
    go_wp2
    go_ret
    exact ⟨rfl, rfl⟩
  · have h2 : 3652059 < s := by omega
    clear h
    go_enter Tryd.func22, Tryd.ntmps22
    go_wp2
    go_ret
    exact ⟨rfl, rfl⟩
set_option maxRecDepth 100000 in
set_option maxHeartbeats 2000000 in
theorem turnDay_any (s y m d a : Int) (w : World) (hv : Cal.vld y m d) (hs : Cal.num y m d = s) (ha : 0 ≤ a) (ha2 : a ≤ 10000) :
    Calls Tryd.prog 24 #[.int .i64 s, .int .i64 a] w fun e w' => e = .returned (.int .i64 (Prs.tn y m d a)) ∧ Below w.heap.size w w' := by
  have HV : Hid (Cal.vld y m d ∧ Cal.num y m d = s) := ⟨hv, hs⟩
  have HT : Hid (_) := Prs.tn_is y m d a hv
  have v1 := hv.1
  have v2 := hv.2.1
  clear hv hs
  by_cases c : 9999 < y + a
  · have HE : Hid (Prs.tn y m d a = 0) := by show _ = _; rw [HT.out, if_pos c]
    rw [HE.out]
    go_enter Tryd.func24, Tryd.ntmps24
    go_wp2_with fail
    refine (dateOf_ok s y m d _ HV.out.1 HV.out.2).mono ?_; rintro e w1 ⟨rfl, b1⟩
    have B1 : Hid (Below w.heap.size w w1) := b1
    clear b1
    go_wp2
    go_ret
    exact ⟨rfl, below_next B1.out (Nat.le_refl _) (below_box _ _)⟩
  · have v3 := HV.out.1.2.2.1
    have v4 := HV.out.1.2.2.2.1
    have v5 := HV.out.1.2.2.2.2.1
    have v6 : d ≤ 31 := by have := HV.out.1.2.2.2.2.2; have := Cal.mlen_bd y m; omega
    have hya : y + a ≤ 9999 := by omega
    clear c
    by_cases c2 : m = 2 ∧ d = 29
    · obtain ⟨rfl, rfl⟩ := c2
      by_cases hl : Cal.leap (y + a) = true
      · have HL : Hid (Cal.leap (y + a) = true) := hl
        have HE : Hid (Prs.tn y 2 29 a = Cal.num (y + a) 2 29) := by show _ = _; rw [HT.out, if_neg (by omega), hl]; rfl
        rw [HE.out]
        clear hl
        go_enter Tryd.func24, Tryd.ntmps24
        go_wp2_with fail
        refine (dateOf_ok s y 2 29 _ HV.out.1 HV.out.2).mono ?_; rintro e w1 ⟨rfl, b1⟩
        have B1 : Hid (Below w.heap.size w w1) := b1
        clear b1
        go_wp2_with (go_at_call 29; refine (refLeap_at _ true _ HL.out).mono ?_; rintro e w' ⟨rfl, rfl⟩)
        refine (dayOf_any _ _ _ _ (by omega) (by omega) (by omega) (by omega) (by omega) (by omega)).mono ?_; rintro e w3 ⟨rfl, b3⟩
        have B3 : Hid (Below w.heap.size w w3) := below_next (below_next B1.out (Nat.le_refl _) (below_box _ _)) (Nat.le_refl _) b3
        clear b3
        go_wp2
        go_ret
        exact ⟨rfl, B3.out⟩
      · have hlf : Cal.leap (y + a) = false := by cases hq : Cal.leap (y + a) with
          | false => rfl
          | true => exact absurd hq hl
        have HL : Hid (Cal.leap (y + a) = false) := hlf
        have HE : Hid (Prs.tn y 2 29 a = Cal.num (y + a) 2 28) := by show _ = _; rw [HT.out, if_neg (by omega), if_pos ⟨rfl, rfl, hlf⟩]
        rw [HE.out]
        clear hl hlf
        go_enter Tryd.func24, Tryd.ntmps24
        go_wp2_with fail
        refine (dateOf_ok s y 2 29 _ HV.out.1 HV.out.2).mono ?_; rintro e w1 ⟨rfl, b1⟩
        have B1 : Hid (Below w.heap.size w w1) := b1
        clear b1
        go_wp2_with (go_at_call 29; refine (refLeap_at _ false _ HL.out).mono ?_; rintro e w' ⟨rfl, rfl⟩)
        refine (dayOf_any _ _ _ _ (by omega) (by omega) (by omega) (by omega) (by omega) (by omega)).mono ?_; rintro e w3 ⟨rfl, b3⟩
        have B3 : Hid (Below w.heap.size w w3) := below_next (below_next B1.out (Nat.le_refl _) (below_box _ _)) (Nat.le_refl _) b3
        clear b3
        go_wp2
        go_ret
        exact ⟨rfl, B3.out⟩
    · have HE : Hid (Prs.tn y m d a = Cal.num (y + a) m d) := by show _ = _; rw [HT.out, if_neg (by omega), if_neg (fun e => c2 ⟨e.1, e.2.1⟩)]
      rw [HE.out]
      go_enter Tryd.func24, Tryd.ntmps24
      go_wp2_with fail
      refine (dateOf_ok s y m d _ HV.out.1 HV.out.2).mono ?_; rintro e w1 ⟨rfl, b1⟩
      have B1 : Hid (Below w.heap.size w w1) := b1
      clear b1
      go_wp2_with fail
      all_goals
        refine (dayOf_any _ _ _ _ (by omega) (by omega) (by omega) (by omega) (by omega) (by omega)).mono ?_; rintro e w3 ⟨rfl, b3⟩
        have B3 : Hid (Below w.heap.size w w3) := below_next (below_next B1.out (Nat.le_refl _) (below_box _ _)) (Nat.le_refl _) b3
        clear b3
        go_wp2
        go_ret
        first
          | exact ⟨rfl, B3.out⟩
          | (have hm2 : m = 2 := by assumption
             refine ⟨?_, B3.out⟩
             rw [hm2]
             rfl)
theorem turnDay_at (s y m d a v : Int) (w : World) (hv : Cal.vld y m d) (hs : Cal.num y m d = s) (ha : 0 ≤ a) (ha2 : a ≤ 10000) (ht : Prs.tn y m d a = v) :
    Calls Tryd.prog 24 #[.int .i64 s, .int .i64 a] w fun e w' => e = .returned (.int .i64 v) ∧ Below w.heap.size w w' := by
  subst ht; exact turnDay_any s y m d a w hv hs ha ha2
end Go.Proofs.YtfncfbbkkpdhkaaDoor
