/- The walk of CoverRises. -/
import Derived.Test.YthokgbbolijgiaaLawCover1
import Derived.Deep.AppendLies
import Derived.Deep.RegionHeld3
namespace Go.Proofs.Ythokgbbolijgiaa
open Go.RowKit Go.BigFrame

namespace Cv
theorem val_bd' (l : List Off) (d : Int) : 0 ≤ val l d ∧ val l d ≤ 400000000 := by
  unfold val
  by_cases h : code l d = 0
  · obtain ⟨ok, h0, h1⟩ := (code_ok l d).1 h
    rw [if_pos h]
    have := best_nonneg l ok d.toNat
    have := best_top l ok d.toNat
    omega
  · rw [if_neg h]; omega
theorem rises (l : List Off) (a b : Int) (m : Off) (ha : code l a = 0) (hb : code l b = 0) :
    (a ≤ b → val l a ≤ val l b) ∧ (code (l ++ [m]) a = 0 → val (l ++ [m]) a ≤ val l a) ∧ (code l (a + b) = 3 ∨ (code l (a + b) = 0 ∧ val l (a + b) ≤ val l a + val l b)) := by
  obtain ⟨ok, a0, a1⟩ := (code_ok l a).1 ha
  obtain ⟨_, b0, b1⟩ := (code_ok l b).1 hb
  have va : val l a = best l a.toNat := by unfold val; rw [if_pos ha]
  have vb : val l b = best l b.toNat := by unfold val; rw [if_pos hb]
  refine ⟨fun h => ?_, fun h => ?_, ?_⟩
  · rw [va, vb]; exact best_mono l ok _ _ (by omega)
  · obtain ⟨ok2, _, _⟩ := (code_ok _ a).1 h
    have vm : val (l ++ [m]) a = best (l ++ [m]) a.toNat := by unfold val; rw [if_pos h]
    rw [va, vm]; exact best_more l [m] ok ok2 _
  · by_cases h : a + b ≤ 400
    · refine .inr ?_
      have hc : code l (a + b) = 0 := (code_ok l (a + b)).2 ⟨ok, by omega, h⟩
      have vc : val l (a + b) = best l (a + b).toNat := by unfold val; rw [if_pos hc]
      have e : (a + b).toNat = a.toNat + b.toNat := by omega
      refine ⟨hc, ?_⟩
      rw [va, vb, vc, e]
      exact best_add l ok _ _
    · exact .inl (code_out l _ ((chk_ok l).2 ok) (by omega))
end Cv
theorem infoO : ∃ i : TypeInfo, Try.prog.info? 37 = some i ∧ i.zero = some (.agg #[.int .i64 0, .int .i64 0]) ∧ i.size = 2 ∧ i.bytes = 16 := by
  have h := infoOff
  cases hq : Try.prog.info? 37 with
  | none => simp [hq] at h
  | some i => simp [hq] at h; exact ⟨i, rfl, h.1, h.2.1, h.2.2⟩
/-- what the statement's region keeps: the boxed offer's cells -/
theorem cr_keep {W0 w' : World} {bx : Nat} {X Y : Int} (h : W0.cell? ⟨bx, 0, none⟩ = some (.int .i64 X) ∧ W0.cell? ⟨bx, 1, none⟩ = some (.int .i64 Y)) (hlt : bx < W0.heap.size) (hb : Below W0.heap.size W0 w') :
    w'.cell? ⟨bx, 0, none⟩ = some (.int .i64 X) ∧ w'.cell? ⟨bx, 1, none⟩ = some (.int .i64 Y) :=
  ⟨(hb.cell (p := ⟨bx, 0, none⟩) hlt).trans h.1, (hb.cell (p := ⟨bx, 1, none⟩) hlt).trans h.2⟩
theorem cr_one {w3 X w4 : World} {l : List Cv.Off} {n gE g1 c1 : Nat} (hn : l.length = n) (hb : Below w3.heap.size w3 X) (hg : w3.heap.size ≤ gE)
    (hown : w4.ownsRow w3.heap.size 37 2 (.slice (some ⟨g1, 0, none⟩) (0 + n) c1) (0 + n) ([] ++ flatO l)) (hgrow : X.grownBy w4 (Value.ownBlock (.slice (some ⟨gE, 0, none⟩) 0 0))) :
    OwnO w4 w3.heap.size (.slice (some ⟨g1, 0, none⟩) n c1) l ∧ Below w3.heap.size w3 w4 := by
  subst hn
  rw [Nat.zero_add, List.nil_append] at hown
  exact ⟨hown, hb.grown hgrow hb.size (fun j hj => by cases hj; exact hg)⟩
theorem cr_two {w3 Z w5 : World} {l : List Cv.Off} {x y : Int} {n g1 c1 g2 c2 : Nat} (hn : l.length = n) (hb : Below w3.heap.size w3 Z) (hg : w3.heap.size ≤ g1)
    (hown : w5.ownsRow w3.heap.size 37 2 (.slice (some ⟨g2, 0, none⟩) (n + 1) c2) (n + 1) (flatO l ++ [.int .i64 x, .int .i64 y])) (hgrow : Z.grownBy w5 (Value.ownBlock (.slice (some ⟨g1, 0, none⟩) n c1))) :
    OwnO w5 w3.heap.size (.slice (some ⟨g2, 0, none⟩) (n + 1) c2) (l ++ [(x, y)]) ∧ Below w3.heap.size w3 w5 := by
  subst hn
  refine ⟨?_, hb.grown hgrow hb.size (fun j hj => by cases hj; exact hg)⟩
  unfold OwnO
  rw [flatO_append, List.length_append]
  exact hown
theorem cr_row {w5 : World} {B k g2 c2 : Nat} {l : List Cv.Off} (h : OwnO w5 B (.slice (some ⟨g2, 0, none⟩) k c2) l) : RowO w5 (some ⟨g2, 0, none⟩) l ∧ l.length ≤ c2 := by
  obtain ⟨a, c, e, _, r⟩ := h.row
  cases e
  refine ⟨r, ?_⟩
  rcases h.2 with ⟨h1, h0⟩ | ⟨g, cap, cur, h1, _, _, h3, _⟩
  · cases h1
  · cases h1; exact h3
theorem cr_own {w : World} {B n g c : Nat} {l : List Cv.Off} (hn : l.length = n) (h : OwnO w B (.slice (some ⟨g, 0, none⟩) n c) l) : w.ownsRow B 37 2 (.slice (some ⟨g, 0, none⟩) n c) n (flatO l) := by
  subst hn; exact h
/-- the one more offer, laid ahead of the empty row -/
theorem cr_m1 {w3 w4 : World} {M E : Obj} {n c : Nat} (h : (((w3.alloc M).alloc E).drew).grownBy w4 (Value.ownBlock (.slice (some ⟨w3.heap.size + 1, 0, none⟩) n c))) : w4.heap[w3.heap.size]? = some M :=
  (h.block w3.heap.size (by show _ < ((w3.alloc M).alloc E).heap.size; simp; omega) (fun e => by have e2 : w3.heap.size = w3.heap.size + 1 := Option.some.inj e; omega)).trans (heap_alloc2_old w3 M E)
/-- .. or behind it -/
theorem cr_m2 {w3 w4 : World} {M E : Obj} {n c : Nat} (h : (((w3.alloc E).alloc M).drew).grownBy w4 (Value.ownBlock (.slice (some ⟨w3.heap.size, 0, none⟩) n c))) : w4.heap[w3.heap.size + 1]? = some M :=
  (h.block (w3.heap.size + 1) (by show _ < ((w3.alloc E).alloc M).heap.size; simp) (fun e => by have e2 : w3.heap.size + 1 = w3.heap.size := Option.some.inj e; omega)).trans (heap_alloc2_new w3 E M)
theorem cr_e2 (w3 : World) (M : Obj) : (((w3.alloc M).alloc (.cells #[] 37)).drew).ownsRow w3.heap.size 37 2 (.slice (some ⟨w3.heap.size + 1, 0, none⟩) 0 0) 0 [] := by
  have h := World.ownsRow_made (base := w3.heap.size) (e := 37) (size := 2) (w3.alloc M) #[] 0 (by simp) (Nat.zero_le _) (by simp)
  rw [World.size_alloc] at h
  exact World.ownsRow.drew h
theorem OwnO.ge {w : World} {B g n c : Nat} {l : List Cv.Off} (h : OwnO w B (.slice (some ⟨g, 0, none⟩) n c) l) : B ≤ g := (World.ownsRow.lt h g rfl).1
set_option maxRecDepth 100000 in
set_option maxHeartbeats 4000000 in
theorem coverRises_any (l : List Cv.Off) (ad : Option Addr) (cap : Nat) (a b : Int) (X Y : Int) (w : World) (hm : l.length ≤ maxLen ∧ l.length ≤ cap) (hr : RowO w ad l) :
    Calls Try.prog 6 #[.slice ad l.length cap, .int .i64 a, .int .i64 b, .agg #[.int .i64 X, .int .i64 Y]] w fun e w' => e = .returned (.bool true) ∧ Below w.heap.size w w' := by
  have HM : Hid (l.length ≤ maxLen ∧ l.length ≤ cap) := hm
  have B0 : Hid (Below w.heap.size w (w.alloc (.cells #[.int .i64 X, .int .i64 Y] 37))) := below_box w _
  have R0 : Hid (RowO (w.alloc (.cells #[.int .i64 X, .int .i64 Y] 37)) ad l) := hr.below B0.out
  have C0 : Hid ((w.alloc (.cells #[.int .i64 X, .int .i64 Y] 37)).cell? ⟨w.heap.size, 0, none⟩ = some (.int .i64 X) ∧ (w.alloc (.cells #[.int .i64 X, .int .i64 Y] 37)).cell? ⟨w.heap.size, 1, none⟩ = some (.int .i64 Y)) := ⟨by simp, by simp⟩
  have Z0 : Hid (w.heap.size < (w.alloc (.cells #[.int .i64 X, .int .i64 Y] 37)).heap.size) := by show _ < _; simp
  obtain ⟨x, hx⟩ : ∃ x, Cv.val l a = x := ⟨_, rfl⟩
  obtain ⟨y, hy⟩ : ∃ y, Cv.val l b = y := ⟨_, rfl⟩
  obtain ⟨e0, he⟩ : ∃ e, Cv.code l a = e := ⟨_, rfl⟩
  obtain ⟨f0, hf⟩ : ∃ f, Cv.code l b = f := ⟨_, rfl⟩
  have HX : Hid (Cv.val l a = x ∧ Cv.code l a = e0) := ⟨hx, he⟩
  have HY : Hid (Cv.val l b = y ∧ Cv.code l b = f0) := ⟨hy, hf⟩
  have vx := Cv.val_bd' l a
  have vy := Cv.val_bd' l b
  rw [hx] at vx
  rw [hy] at vy
  obtain ⟨vx0, vx1⟩ := vx
  obtain ⟨vy0, vy1⟩ := vy
  by_cases ce : e0 = 0
  · by_cases cf : f0 = 0
    · subst ce cf
      obtain ⟨ok, a0, a1⟩ := (Cv.code_ok l a).1 he
      obtain ⟨-, b0, b1⟩ := (Cv.code_ok l b).1 hf
      obtain ⟨r1, r2, r3⟩ := Cv.rises l a b (X, Y) he hf
      have n0 := ok.n0
      have n8 := ok.n8
      obtain ⟨z, hz⟩ : ∃ z, Cv.val (l ++ [(X, Y)]) a = z := ⟨_, rfl⟩
      obtain ⟨g, hg⟩ : ∃ g, Cv.code (l ++ [(X, Y)]) a = g := ⟨_, rfl⟩
      obtain ⟨t, ht⟩ : ∃ t, Cv.val l (a + b) = t := ⟨_, rfl⟩
      obtain ⟨h0, hh⟩ : ∃ h, Cv.code l (a + b) = h := ⟨_, rfl⟩
      rw [hx, hy] at r1
      rw [hg, hz, hx] at r2
      rw [hh, ht, hx, hy] at r3
      have HG : Hid (Cv.val (l ++ [(X, Y)]) a = z ∧ Cv.code (l ++ [(X, Y)]) a = g) := ⟨hz, hg⟩
      have HT : Hid (Cv.val l (a + b) = t ∧ Cv.code l (a + b) = h0) := ⟨ht, hh⟩
      have Q1 : Hid (a ≤ b → x ≤ y) := r1
      have Q2 : Hid (g = 0 → z ≤ x) := r2
      have Q3 : Hid (h0 = 3 ∨ (h0 = 0 ∧ t ≤ x + y)) := r3
      obtain ⟨n, hn⟩ : ∃ n, l.length = n := ⟨_, rfl⟩
      have HN : Hid (l.length = n) := hn
      have HMN : Hid (n ≤ maxLen ∧ n ≤ cap) := hn ▸ hm
      rw [hn] at n0 n8 ⊢
      obtain ⟨i0, hi, hz0, hz1, hz2⟩ := infoO
      have HI : Hid (Try.prog.info? 37 = some i0 ∧ i0.zero = some (.agg #[.int .i64 0, .int .i64 0]) ∧ i0.size = 2 ∧ i0.bytes = 16) := ⟨hi, hz0, hz1, hz2⟩
      clear hm hr hx hy he hf ok r1 r2 r3 hz hg ht hh hn hi hz0 hz1 hz2
      go_enter Try.func6, Try.ntmps6
      go_wp2_with fail
      refine (best_at l ad _ cap a x 0 _ HN.out HM.out.1 HM.out.2 HX.out.1 HX.out.2 R0.out).mono ?_
      rintro e w1 ⟨rfl, hb⟩
      have B1 : Hid (Below w.heap.size w w1) := below_on B0.out (Nat.le_refl _) hb
      have R1 : Hid (RowO w1 ad l) := R0.out.below hb
      have C1 : Hid (w1.cell? ⟨w.heap.size, 0, none⟩ = some (.int .i64 X) ∧ w1.cell? ⟨w.heap.size, 1, none⟩ = some (.int .i64 Y)) := cr_keep C0.out Z0.out hb
      have Z1 : Hid (w.heap.size < w1.heap.size) := Nat.lt_of_lt_of_le Z0.out hb.size
      clear hb
      go_wp2_with fail
      refine (best_at l ad _ cap b y 0 _ HN.out HM.out.1 HM.out.2 HY.out.1 HY.out.2 R1.out).mono ?_
      rintro e w2 ⟨rfl, hb⟩
      have B2 : Hid (Below w.heap.size w w2) := below_on B1.out (Nat.le_refl _) hb
      have R2 : Hid (RowO w2 ad l) := R1.out.below hb
      have C2 : Hid (w2.cell? ⟨w.heap.size, 0, none⟩ = some (.int .i64 X) ∧ w2.cell? ⟨w.heap.size, 1, none⟩ = some (.int .i64 Y)) := cr_keep C1.out Z1.out hb
      have Z2 : Hid (w.heap.size < w2.heap.size) := Nat.lt_of_lt_of_le Z1.out hb.size
      clear hb
      go_wp2_with fail
      refine (cbegun_any _).mono ?_
      rintro e w3 ⟨rfl, hb⟩
      have B3 : Hid (Below w.heap.size w w3) := below_on B2.out (Nat.le_refl _) hb
      have R3 : Hid (RowO w3 ad l) := R2.out.below hb
      have C3 : Hid (w3.cell? ⟨w.heap.size, 0, none⟩ = some (.int .i64 X) ∧ w3.cell? ⟨w.heap.size, 1, none⟩ = some (.int .i64 Y)) := cr_keep C2.out Z2.out hb
      have Z3 : Hid (w.heap.size < w3.heap.size) := Nat.lt_of_lt_of_le Z2.out hb.size
      clear hb
      by_cases hab : a ≤ b
      · have hq1 : decide (y < x) = false := decide_eq_false (by have := Q1.out hab; omega)
        go_wp2
        obtain ⟨ab, ao, _, _, had, -, -, -, -⟩ := R3.out.lies (k := 0) (by rw [HN.out]; omega)
        subst had
        have hk0 := C3.out.1
        have hk1 := C3.out.2
        have hz3 := Z3.out
        go_region_held3 (fun w' => w'.cell? ⟨w.heap.size, 0, none⟩ = some (.int .i64 X) ∧ w'.cell? ⟨w.heap.size, 1, none⟩ = some (.int .i64 Y)) (first | go_keep | exact cr_keep C3.out Z3.out BW.out)
          (first
          | (refine step_append_lies _ (by rfl) _ _ _ (by rfl) w3.heap.size 37 i0 _ 2 16 Try.underlying22 HI.out.1 HI.out.2.1 HI.out.2.2.1 HI.out.2.2.2 rfl (by omega) (.slice (some ⟨w3.heap.size, 0, none⟩) 0 0) 0 [] (by rfl) (by first | exact World.ownsRow.drew (World.ownsRow_made w3 #[] 0 (Nat.le_refl _) (Nat.zero_le _) (by simp)) | exact World.ownsRow.drew (World.ownsRow.alloc (World.ownsRow_made w3 #[] 0 (Nat.le_refl _) (Nat.zero_le _) (by simp)) _)) ⟨ab, ao, none⟩ n cap (flatO l) (by rfl) (by rw [flatO_len, HN.out]) ((R3.out.below (by first | exact (below_box w3 _).drew | exact ((below_box w3 _).alloc (by simp) _).drew | exact (Below.refl _ w3).drew.alloc (Nat.le_refl _) _ | exact ((Below.refl _ w3).drew.alloc (Nat.le_refl _) _).alloc (by simp) _)).news _ rfl) (flatO_one l) (by omega) (by unfold maxLen; omega) (by omega) (by first | exact Nat.le_refl _ | omega | (simp <;> omega)) _ rfl ?_; intro g1 c1 w4 hown hgrow hat hlt; rw [Nat.zero_add n]; have T1 := cr_one HN.out (by first | exact (below_box w3 _).drew | exact ((below_box w3 _).alloc (by simp) _).drew | exact (Below.refl _ w3).drew.alloc (Nat.le_refl _) _ | exact ((Below.refl _ w3).drew.alloc (Nat.le_refl _) _).alloc (by simp) _) (by first | exact Nat.le_refl _ | omega | (simp <;> omega)) hown hgrow; have HO1 : Hid (OwnO w4 w3.heap.size (.slice (some ⟨g1, 0, none⟩) n c1) l) := T1.1; have BW : Hid (Below w3.heap.size w3 w4) := T1.2; (try (have HMB : Hid (w4.heap[w3.heap.size + 1]? = some (.cells #[.int .i64 X, .int .i64 Y] 37 (0, 0))) := cr_m2 hgrow)); clear T1 hown hgrow hat hlt)
          | (refine step_append_lies _ (by rfl) _ _ _ (by rfl) w3.heap.size 37 i0 _ 2 16 Try.underlying22 HI.out.1 HI.out.2.1 HI.out.2.2.1 HI.out.2.2.2 rfl (by omega) _ n (flatO l) (by rfl) (cr_own HN.out (OwnO.still HO1.out (below_box _ _))) ⟨w4.heap.size, 0, none⟩ 1 1 [.int .i64 X, .int .i64 Y] (by rfl) (by rfl) (World.news_of_block (heap_alloc_new w4 _)) (oneO X Y) (by omega) (by unfold maxLen; omega) (by omega) (by have := BW.out.size; first | exact this | (simp <;> omega)) _ rfl ?_; intro g2 c2 w5 hown hgrow hat hlt; have T2 := cr_two HN.out (BW.out.alloc BW.out.size _) HO1.out.ge hown hgrow; have HO2 : Hid (OwnO w5 w3.heap.size (.slice (some ⟨g2, 0, none⟩) (n + 1) c2) (l ++ [(X, Y)])) := T2.1; have BW : Hid (Below w3.heap.size w3 w5) := T2.2; clear T2 hown hgrow hat hlt)
          | (refine step_append_lies _ (by rfl) _ _ _ (by rfl) w3.heap.size 37 i0 _ 2 16 Try.underlying22 HI.out.1 HI.out.2.1 HI.out.2.2.1 HI.out.2.2.2 rfl (by omega) _ n (flatO l) (by rfl) (cr_own HN.out HO1.out) ⟨w3.heap.size, 0, none⟩ 1 1 [.int .i64 X, .int .i64 Y] (by rfl) (by rfl) (World.news_of_block HMB.out) (oneO X Y) (by omega) (by unfold maxLen; omega) (by omega) (by have := BW.out.size; first | exact this | (simp <;> omega)) _ rfl ?_; intro g2 c2 w5 hown hgrow hat hlt; have T2 := cr_two HN.out BW.out HO1.out.ge hown hgrow; have HO2 : Hid (OwnO w5 w3.heap.size (.slice (some ⟨g2, 0, none⟩) (n + 1) c2) (l ++ [(X, Y)])) := T2.1; have BW : Hid (Below w3.heap.size w3 w5) := T2.2; clear T2 hown hgrow hat hlt)
          | (go_at_call 9; refine (best_at (l ++ [(X, Y)]) (some ⟨g2, 0, none⟩) (n + 1) c2 a z g _ (by rw [List.length_append, HN.out]; rfl) (by rw [List.length_append, HN.out]; unfold maxLen; simp; omega) (cr_row HO2.out).2 HG.out.1 HG.out.2 (cr_row HO2.out).1).mono ?_; rintro e w6 ⟨rfl, hb6⟩; have BW : Hid (Below w3.heap.size w3 w6) := below_on BW.out (Nat.le_refl _) hb6; clear hb6)
          | (refine step_append_lies _ (by rfl) _ _ _ (by rfl) w3.heap.size 37 i0 _ 2 16 Try.underlying22 HI.out.1 HI.out.2.1 HI.out.2.2.1 HI.out.2.2.2 rfl (by omega) _ n (flatO l) (by rfl) (cr_own HN.out HO1.out) ⟨w3.heap.size + 1, 0, none⟩ 1 1 [.int .i64 X, .int .i64 Y] (by rfl) (by rfl) (World.news_of_block HMB.out) (oneO X Y) (by omega) (by unfold maxLen; omega) (by omega) (by have := BW.out.size; first | exact this | (simp <;> omega)) _ rfl ?_; intro g2 c2 w5 hown hgrow hat hlt; have T2 := cr_two HN.out BW.out HO1.out.ge hown hgrow; have HO2 : Hid (OwnO w5 w3.heap.size (.slice (some ⟨g2, 0, none⟩) (n + 1) c2) (l ++ [(X, Y)])) := T2.1; have BW : Hid (Below w3.heap.size w3 w5) := T2.2; clear T2 hown hgrow hat hlt)
          | (refine step_append_lies _ (by rfl) _ _ _ (by rfl) w3.heap.size 37 i0 _ 2 16 Try.underlying22 HI.out.1 HI.out.2.1 HI.out.2.2.1 HI.out.2.2.2 rfl (by omega) (.slice (some ⟨w3.heap.size + 1, 0, none⟩) 0 0) 0 [] (by rfl) (cr_e2 w3 _) ⟨ab, ao, none⟩ n cap (flatO l) (by rfl) (by rw [flatO_len, HN.out]) ((R3.out.below (by first | exact (below_box w3 _).drew | exact ((below_box w3 _).alloc (by simp) _).drew | exact (Below.refl _ w3).drew.alloc (Nat.le_refl _) _ | exact ((Below.refl _ w3).drew.alloc (Nat.le_refl _) _).alloc (by simp) _)).news _ rfl) (flatO_one l) (by omega) (by unfold maxLen; omega) (by omega) (by first | exact Nat.le_refl _ | omega | (simp <;> omega)) _ rfl ?_; intro g1 c1 w4 hown hgrow hat hlt; rw [Nat.zero_add n]; have T1 := cr_one HN.out (by first | exact (below_box w3 _).drew | exact ((below_box w3 _).alloc (by simp) _).drew | exact (Below.refl _ w3).drew.alloc (Nat.le_refl _) _ | exact ((Below.refl _ w3).drew.alloc (Nat.le_refl _) _).alloc (by simp) _) (by first | exact Nat.le_refl _ | omega | (simp <;> omega)) hown hgrow; have HO1 : Hid (OwnO w4 w3.heap.size (.slice (some ⟨g1, 0, none⟩) n c1) l) := T1.1; have BW : Hid (Below w3.heap.size w3 w4) := T1.2; have HMB : Hid (w4.heap[w3.heap.size]? = some (.cells #[.int .i64 X, .int .i64 Y] 37 (0, 0))) := cr_m1 hgrow; clear T1 hown hgrow hat hlt))
        all_goals
          have B6 : Hid (Below w.heap.size w w6) := below_on B3.out (Nat.le_refl _) BW.out
          have R6 : Hid (RowO w6 (some ⟨ab, ao, none⟩) l) := R3.out.below BW.out
          clear hk0 hk1 hz3
          by_cases hg0 : g = 0
          · have hz6 : decide (x < z) = false := decide_eq_false (by have := Q2.out hg0; omega)
            subst hg0
            go_wp2_with fail
            refine (best_at l (some ⟨ab, ao, none⟩) n cap (a + b) t h0 _ HN.out HM.out.1 HM.out.2 HT.out.1 HT.out.2 R6.out).mono ?_
            rintro e w7 ⟨rfl, hb⟩
            have B7 : Hid (Below w.heap.size w w7) := below_on B6.out (Nat.le_refl _) hb
            clear hb
            rcases Q3.out with q3 | ⟨q3, q4⟩
            · subst q3
              go_wp2
              go_ret
              exact ⟨rfl, B7.out⟩
            · subst q3
              go_wp2
              go_ret
              exact ⟨rfl, B7.out⟩
          · have hg1 : (g == 0) = false := by simpa using hg0
            clear hg0
            go_wp2_with fail
            refine (best_at l (some ⟨ab, ao, none⟩) n cap (a + b) t h0 _ HN.out HM.out.1 HM.out.2 HT.out.1 HT.out.2 R6.out).mono ?_
            rintro e w7 ⟨rfl, hb⟩
            have B7 : Hid (Below w.heap.size w w7) := below_on B6.out (Nat.le_refl _) hb
            clear hb
            rcases Q3.out with q3 | ⟨q3, q4⟩
            · subst q3
              go_wp2
              go_ret
              exact ⟨rfl, B7.out⟩
            · subst q3
              go_wp2
              go_ret
              exact ⟨rfl, B7.out⟩
      · have hab2 : decide (a ≤ b) = false := decide_eq_false hab
        go_wp2
        obtain ⟨ab, ao, _, _, had, -, -, -, -⟩ := R3.out.lies (k := 0) (by rw [HN.out]; omega)
        subst had
        have hk0 := C3.out.1
        have hk1 := C3.out.2
        have hz3 := Z3.out
        go_region_held3 (fun w' => w'.cell? ⟨w.heap.size, 0, none⟩ = some (.int .i64 X) ∧ w'.cell? ⟨w.heap.size, 1, none⟩ = some (.int .i64 Y)) (first | go_keep | exact cr_keep C3.out Z3.out BW.out)
          (first
          | (refine step_append_lies _ (by rfl) _ _ _ (by rfl) w3.heap.size 37 i0 _ 2 16 Try.underlying22 HI.out.1 HI.out.2.1 HI.out.2.2.1 HI.out.2.2.2 rfl (by omega) (.slice (some ⟨w3.heap.size, 0, none⟩) 0 0) 0 [] (by rfl) (by first | exact World.ownsRow.drew (World.ownsRow_made w3 #[] 0 (Nat.le_refl _) (Nat.zero_le _) (by simp)) | exact World.ownsRow.drew (World.ownsRow.alloc (World.ownsRow_made w3 #[] 0 (Nat.le_refl _) (Nat.zero_le _) (by simp)) _)) ⟨ab, ao, none⟩ n cap (flatO l) (by rfl) (by rw [flatO_len, HN.out]) ((R3.out.below (by first | exact (below_box w3 _).drew | exact ((below_box w3 _).alloc (by simp) _).drew | exact (Below.refl _ w3).drew.alloc (Nat.le_refl _) _ | exact ((Below.refl _ w3).drew.alloc (Nat.le_refl _) _).alloc (by simp) _)).news _ rfl) (flatO_one l) (by omega) (by unfold maxLen; omega) (by omega) (by first | exact Nat.le_refl _ | omega | (simp <;> omega)) _ rfl ?_; intro g1 c1 w4 hown hgrow hat hlt; rw [Nat.zero_add n]; have T1 := cr_one HN.out (by first | exact (below_box w3 _).drew | exact ((below_box w3 _).alloc (by simp) _).drew | exact (Below.refl _ w3).drew.alloc (Nat.le_refl _) _ | exact ((Below.refl _ w3).drew.alloc (Nat.le_refl _) _).alloc (by simp) _) (by first | exact Nat.le_refl _ | omega | (simp <;> omega)) hown hgrow; have HO1 : Hid (OwnO w4 w3.heap.size (.slice (some ⟨g1, 0, none⟩) n c1) l) := T1.1; have BW : Hid (Below w3.heap.size w3 w4) := T1.2; (try (have HMB : Hid (w4.heap[w3.heap.size + 1]? = some (.cells #[.int .i64 X, .int .i64 Y] 37 (0, 0))) := cr_m2 hgrow)); clear T1 hown hgrow hat hlt)
          | (refine step_append_lies _ (by rfl) _ _ _ (by rfl) w3.heap.size 37 i0 _ 2 16 Try.underlying22 HI.out.1 HI.out.2.1 HI.out.2.2.1 HI.out.2.2.2 rfl (by omega) _ n (flatO l) (by rfl) (cr_own HN.out (OwnO.still HO1.out (below_box _ _))) ⟨w4.heap.size, 0, none⟩ 1 1 [.int .i64 X, .int .i64 Y] (by rfl) (by rfl) (World.news_of_block (heap_alloc_new w4 _)) (oneO X Y) (by omega) (by unfold maxLen; omega) (by omega) (by have := BW.out.size; first | exact this | (simp <;> omega)) _ rfl ?_; intro g2 c2 w5 hown hgrow hat hlt; have T2 := cr_two HN.out (BW.out.alloc BW.out.size _) HO1.out.ge hown hgrow; have HO2 : Hid (OwnO w5 w3.heap.size (.slice (some ⟨g2, 0, none⟩) (n + 1) c2) (l ++ [(X, Y)])) := T2.1; have BW : Hid (Below w3.heap.size w3 w5) := T2.2; clear T2 hown hgrow hat hlt)
          | (refine step_append_lies _ (by rfl) _ _ _ (by rfl) w3.heap.size 37 i0 _ 2 16 Try.underlying22 HI.out.1 HI.out.2.1 HI.out.2.2.1 HI.out.2.2.2 rfl (by omega) _ n (flatO l) (by rfl) (cr_own HN.out HO1.out) ⟨w3.heap.size, 0, none⟩ 1 1 [.int .i64 X, .int .i64 Y] (by rfl) (by rfl) (World.news_of_block HMB.out) (oneO X Y) (by omega) (by unfold maxLen; omega) (by omega) (by have := BW.out.size; first | exact this | (simp <;> omega)) _ rfl ?_; intro g2 c2 w5 hown hgrow hat hlt; have T2 := cr_two HN.out BW.out HO1.out.ge hown hgrow; have HO2 : Hid (OwnO w5 w3.heap.size (.slice (some ⟨g2, 0, none⟩) (n + 1) c2) (l ++ [(X, Y)])) := T2.1; have BW : Hid (Below w3.heap.size w3 w5) := T2.2; clear T2 hown hgrow hat hlt)
          | (go_at_call 9; refine (best_at (l ++ [(X, Y)]) (some ⟨g2, 0, none⟩) (n + 1) c2 a z g _ (by rw [List.length_append, HN.out]; rfl) (by rw [List.length_append, HN.out]; unfold maxLen; simp; omega) (cr_row HO2.out).2 HG.out.1 HG.out.2 (cr_row HO2.out).1).mono ?_; rintro e w6 ⟨rfl, hb6⟩; have BW : Hid (Below w3.heap.size w3 w6) := below_on BW.out (Nat.le_refl _) hb6; clear hb6)
          | (refine step_append_lies _ (by rfl) _ _ _ (by rfl) w3.heap.size 37 i0 _ 2 16 Try.underlying22 HI.out.1 HI.out.2.1 HI.out.2.2.1 HI.out.2.2.2 rfl (by omega) _ n (flatO l) (by rfl) (cr_own HN.out HO1.out) ⟨w3.heap.size + 1, 0, none⟩ 1 1 [.int .i64 X, .int .i64 Y] (by rfl) (by rfl) (World.news_of_block HMB.out) (oneO X Y) (by omega) (by unfold maxLen; omega) (by omega) (by have := BW.out.size; first | exact this | (simp <;> omega)) _ rfl ?_; intro g2 c2 w5 hown hgrow hat hlt; have T2 := cr_two HN.out BW.out HO1.out.ge hown hgrow; have HO2 : Hid (OwnO w5 w3.heap.size (.slice (some ⟨g2, 0, none⟩) (n + 1) c2) (l ++ [(X, Y)])) := T2.1; have BW : Hid (Below w3.heap.size w3 w5) := T2.2; clear T2 hown hgrow hat hlt)
          | (refine step_append_lies _ (by rfl) _ _ _ (by rfl) w3.heap.size 37 i0 _ 2 16 Try.underlying22 HI.out.1 HI.out.2.1 HI.out.2.2.1 HI.out.2.2.2 rfl (by omega) (.slice (some ⟨w3.heap.size + 1, 0, none⟩) 0 0) 0 [] (by rfl) (cr_e2 w3 _) ⟨ab, ao, none⟩ n cap (flatO l) (by rfl) (by rw [flatO_len, HN.out]) ((R3.out.below (by first | exact (below_box w3 _).drew | exact ((below_box w3 _).alloc (by simp) _).drew | exact (Below.refl _ w3).drew.alloc (Nat.le_refl _) _ | exact ((Below.refl _ w3).drew.alloc (Nat.le_refl _) _).alloc (by simp) _)).news _ rfl) (flatO_one l) (by omega) (by unfold maxLen; omega) (by omega) (by first | exact Nat.le_refl _ | omega | (simp <;> omega)) _ rfl ?_; intro g1 c1 w4 hown hgrow hat hlt; rw [Nat.zero_add n]; have T1 := cr_one HN.out (by first | exact (below_box w3 _).drew | exact ((below_box w3 _).alloc (by simp) _).drew | exact (Below.refl _ w3).drew.alloc (Nat.le_refl _) _ | exact ((Below.refl _ w3).drew.alloc (Nat.le_refl _) _).alloc (by simp) _) (by first | exact Nat.le_refl _ | omega | (simp <;> omega)) hown hgrow; have HO1 : Hid (OwnO w4 w3.heap.size (.slice (some ⟨g1, 0, none⟩) n c1) l) := T1.1; have BW : Hid (Below w3.heap.size w3 w4) := T1.2; have HMB : Hid (w4.heap[w3.heap.size]? = some (.cells #[.int .i64 X, .int .i64 Y] 37 (0, 0))) := cr_m1 hgrow; clear T1 hown hgrow hat hlt))
        all_goals
          have B6 : Hid (Below w.heap.size w w6) := below_on B3.out (Nat.le_refl _) BW.out
          have R6 : Hid (RowO w6 (some ⟨ab, ao, none⟩) l) := R3.out.below BW.out
          clear hk0 hk1 hz3
          by_cases hg0 : g = 0
          · have hz6 : decide (x < z) = false := decide_eq_false (by have := Q2.out hg0; omega)
            subst hg0
            go_wp2_with fail
            refine (best_at l (some ⟨ab, ao, none⟩) n cap (a + b) t h0 _ HN.out HM.out.1 HM.out.2 HT.out.1 HT.out.2 R6.out).mono ?_
            rintro e w7 ⟨rfl, hb⟩
            have B7 : Hid (Below w.heap.size w w7) := below_on B6.out (Nat.le_refl _) hb
            clear hb
            rcases Q3.out with q3 | ⟨q3, q4⟩
            · subst q3
              go_wp2
              go_ret
              exact ⟨rfl, B7.out⟩
            · subst q3
              go_wp2
              go_ret
              exact ⟨rfl, B7.out⟩
          · have hg1 : (g == 0) = false := by simpa using hg0
            clear hg0
            go_wp2_with fail
            refine (best_at l (some ⟨ab, ao, none⟩) n cap (a + b) t h0 _ HN.out HM.out.1 HM.out.2 HT.out.1 HT.out.2 R6.out).mono ?_
            rintro e w7 ⟨rfl, hb⟩
            have B7 : Hid (Below w.heap.size w w7) := below_on B6.out (Nat.le_refl _) hb
            clear hb
            rcases Q3.out with q3 | ⟨q3, q4⟩
            · subst q3
              go_wp2
              go_ret
              exact ⟨rfl, B7.out⟩
            · subst q3
              go_wp2
              go_ret
              exact ⟨rfl, B7.out⟩
    · have cfn : (f0 != 0) = true := by simpa using cf
      have cfn2 : (f0 == 0) = false := by simpa using cf
      subst ce
      obtain rfl : y = 0 := by rw [← hy]; unfold Cv.val; rw [if_neg (by rw [hf]; exact cf)]
      clear hm hr hx hy he hf cf
      go_enter Try.func6, Try.ntmps6
      go_wp2_with fail
      refine (best_at l ad _ cap a x 0 _ rfl HM.out.1 HM.out.2 HX.out.1 HX.out.2 R0.out).mono ?_
      rintro e w1 ⟨rfl, hb⟩
      have B1 : Hid (Below w.heap.size w w1) := below_on B0.out (Nat.le_refl _) hb
      have R1 : Hid (RowO w1 ad l) := R0.out.below hb
      have C1 : Hid (w1.cell? ⟨w.heap.size, 0, none⟩ = some (.int .i64 X) ∧ w1.cell? ⟨w.heap.size, 1, none⟩ = some (.int .i64 Y)) := cr_keep C0.out Z0.out hb
      have Z1 : Hid (w.heap.size < w1.heap.size) := Nat.lt_of_lt_of_le Z0.out hb.size
      clear hb
      go_wp2_with fail
      refine (best_at l ad _ cap b 0 f0 _ rfl HM.out.1 HM.out.2 HY.out.1 HY.out.2 R1.out).mono ?_
      rintro e w2 ⟨rfl, hb⟩
      have B2 : Hid (Below w.heap.size w w2) := below_on B1.out (Nat.le_refl _) hb
      have R2 : Hid (RowO w2 ad l) := R1.out.below hb
      have C2 : Hid (w2.cell? ⟨w.heap.size, 0, none⟩ = some (.int .i64 X) ∧ w2.cell? ⟨w.heap.size, 1, none⟩ = some (.int .i64 Y)) := cr_keep C1.out Z1.out hb
      have Z2 : Hid (w.heap.size < w2.heap.size) := Nat.lt_of_lt_of_le Z1.out hb.size
      clear hb
      go_wp2_with fail
      refine (cbegun_any _).mono ?_
      rintro e w3 ⟨rfl, hb⟩
      have B3 : Hid (Below w.heap.size w w3) := below_on B2.out (Nat.le_refl _) hb
      have R3 : Hid (RowO w3 ad l) := R2.out.below hb
      have C3 : Hid (w3.cell? ⟨w.heap.size, 0, none⟩ = some (.int .i64 X) ∧ w3.cell? ⟨w.heap.size, 1, none⟩ = some (.int .i64 Y)) := cr_keep C2.out Z2.out hb
      have Z3 : Hid (w.heap.size < w3.heap.size) := Nat.lt_of_lt_of_le Z2.out hb.size
      clear hb
      go_wp2
      go_ret
      exact ⟨rfl, B3.out⟩
  · have cen : (e0 != 0) = true := by simpa using ce
    have cen2 : (e0 == 0) = false := by simpa using ce
    obtain rfl : x = 0 := by rw [← hx]; unfold Cv.val; rw [if_neg (by rw [he]; exact ce)]
    by_cases cf : f0 = 0
    · subst cf
      clear hm hr hx hy he hf ce
      go_enter Try.func6, Try.ntmps6
      go_wp2_with fail
      refine (best_at l ad _ cap a 0 e0 _ rfl HM.out.1 HM.out.2 HX.out.1 HX.out.2 R0.out).mono ?_
      rintro e w1 ⟨rfl, hb⟩
      have B1 : Hid (Below w.heap.size w w1) := below_on B0.out (Nat.le_refl _) hb
      have R1 : Hid (RowO w1 ad l) := R0.out.below hb
      have C1 : Hid (w1.cell? ⟨w.heap.size, 0, none⟩ = some (.int .i64 X) ∧ w1.cell? ⟨w.heap.size, 1, none⟩ = some (.int .i64 Y)) := cr_keep C0.out Z0.out hb
      have Z1 : Hid (w.heap.size < w1.heap.size) := Nat.lt_of_lt_of_le Z0.out hb.size
      clear hb
      go_wp2_with fail
      refine (best_at l ad _ cap b y 0 _ rfl HM.out.1 HM.out.2 HY.out.1 HY.out.2 R1.out).mono ?_
      rintro e w2 ⟨rfl, hb⟩
      have B2 : Hid (Below w.heap.size w w2) := below_on B1.out (Nat.le_refl _) hb
      have R2 : Hid (RowO w2 ad l) := R1.out.below hb
      have C2 : Hid (w2.cell? ⟨w.heap.size, 0, none⟩ = some (.int .i64 X) ∧ w2.cell? ⟨w.heap.size, 1, none⟩ = some (.int .i64 Y)) := cr_keep C1.out Z1.out hb
      have Z2 : Hid (w.heap.size < w2.heap.size) := Nat.lt_of_lt_of_le Z1.out hb.size
      clear hb
      go_wp2_with fail
      refine (cbegun_any _).mono ?_
      rintro e w3 ⟨rfl, hb⟩
      have B3 : Hid (Below w.heap.size w w3) := below_on B2.out (Nat.le_refl _) hb
      have R3 : Hid (RowO w3 ad l) := R2.out.below hb
      have C3 : Hid (w3.cell? ⟨w.heap.size, 0, none⟩ = some (.int .i64 X) ∧ w3.cell? ⟨w.heap.size, 1, none⟩ = some (.int .i64 Y)) := cr_keep C2.out Z2.out hb
      have Z3 : Hid (w.heap.size < w3.heap.size) := Nat.lt_of_lt_of_le Z2.out hb.size
      clear hb
      go_wp2
      go_ret
      exact ⟨rfl, B3.out⟩
    · have cfn2 : (f0 == 0) = false := by simpa using cf
      obtain rfl : y = 0 := by rw [← hy]; unfold Cv.val; rw [if_neg (by rw [hf]; exact cf)]
      clear hm hr hx hy he hf ce cf
      go_enter Try.func6, Try.ntmps6
      go_wp2_with fail
      refine (best_at l ad _ cap a 0 e0 _ rfl HM.out.1 HM.out.2 HX.out.1 HX.out.2 R0.out).mono ?_
      rintro e w1 ⟨rfl, hb⟩
      have B1 : Hid (Below w.heap.size w w1) := below_on B0.out (Nat.le_refl _) hb
      have R1 : Hid (RowO w1 ad l) := R0.out.below hb
      have C1 : Hid (w1.cell? ⟨w.heap.size, 0, none⟩ = some (.int .i64 X) ∧ w1.cell? ⟨w.heap.size, 1, none⟩ = some (.int .i64 Y)) := cr_keep C0.out Z0.out hb
      have Z1 : Hid (w.heap.size < w1.heap.size) := Nat.lt_of_lt_of_le Z0.out hb.size
      clear hb
      go_wp2_with fail
      refine (best_at l ad _ cap b 0 f0 _ rfl HM.out.1 HM.out.2 HY.out.1 HY.out.2 R1.out).mono ?_
      rintro e w2 ⟨rfl, hb⟩
      have B2 : Hid (Below w.heap.size w w2) := below_on B1.out (Nat.le_refl _) hb
      have R2 : Hid (RowO w2 ad l) := R1.out.below hb
      have C2 : Hid (w2.cell? ⟨w.heap.size, 0, none⟩ = some (.int .i64 X) ∧ w2.cell? ⟨w.heap.size, 1, none⟩ = some (.int .i64 Y)) := cr_keep C1.out Z1.out hb
      have Z2 : Hid (w.heap.size < w2.heap.size) := Nat.lt_of_lt_of_le Z1.out hb.size
      clear hb
      go_wp2_with fail
      refine (cbegun_any _).mono ?_
      rintro e w3 ⟨rfl, hb⟩
      have B3 : Hid (Below w.heap.size w w3) := below_on B2.out (Nat.le_refl _) hb
      have R3 : Hid (RowO w3 ad l) := R2.out.below hb
      have C3 : Hid (w3.cell? ⟨w.heap.size, 0, none⟩ = some (.int .i64 X) ∧ w3.cell? ⟨w.heap.size, 1, none⟩ = some (.int .i64 Y)) := cr_keep C2.out Z2.out hb
      have Z3 : Hid (w.heap.size < w3.heap.size) := Nat.lt_of_lt_of_le Z2.out hb.size
      clear hb
      go_wp2
      go_ret
      exact ⟨rfl, B3.out⟩
end Go.Proofs.Ythokgbbolijgiaa
