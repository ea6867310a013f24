/- The walk of package fare: the least price of a range around. -/
import Derived.Test.YtcaibonnkfhkmaaFIt
import Derived.Test.YtcaibonnkfhkmaaFWk
import Derived.RangeFuncFrom
namespace Go.Proofs.Ytcaibonnkfhkmaa
open Go.RowKit Go.Shelf
attribute [local go_sem] Oper.semAt_some

/-- the least so far, over ranges that are ones -/
def Fr.lac (P : Fr.Pr) (n : Nat) (l : List (Nat × Nat)) (a b : Nat) : Int := Fr.la P (l.map (Fr.cl n)) a b
theorem Fr.lac_snoc (P : Fr.Pr) (n : Nat) (l : List (Nat × Nat)) (a b : Nat) (q : Nat × Nat) : Fr.lac P n (l ++ [q]) a b = if (Fr.cl n q).1 ≤ a ∧ b ≤ (Fr.cl n q).2 then min (Fr.lac P n l a b) (P (Fr.cl n q).1 (Fr.cl n q).2) else Fr.lac P n l a b := by
  unfold Fr.lac
  rw [List.map_append]
  exact Fr.la_snoc P (l.map (Fr.cl n)) a b (Fr.cl n q)
theorem Fr.lac_rg (P : Fr.Pr) (n a b : Nat) : Fr.lac P n (Fr.rg n) a b = Fr.la P (Fr.rg n) a b := by
  unfold Fr.lac
  congr 1
  conv => rhs; rw [← List.map_id (Fr.rg n)]
  apply List.map_congr_left
  rintro ⟨x, y⟩ h
  exact Fr.cl_id ((Fr.mem_rg n x y).1 h)
theorem cell_new_l (W : World) (v : Value) (t : TypeId) : (W.alloc (.cells #[v] t)).cell? ⟨W.heap.size, 0, none⟩ = some v ∧ (W.alloc (.cells #[v] t)).frozen? ⟨W.heap.size, 0, none⟩ = false := ⟨by simp, by simp⟩
theorem cell_alloc_l {W : World} {a : Addr} {v : Value} (o : Obj) (h : W.cell? a = some v) : (W.alloc o).cell? a = some v := cell_kept h (World.grownBy_alloc W o none) (fun r e => by cases e)
theorem frozen_alloc_l {W : World} {a : Addr} {v : Value} (o : Obj) (h : W.cell? a = some v) (hf : W.frozen? a = false) : (W.alloc o).frozen? a = false := (frozen_kept h (World.grownBy_alloc W o none) (fun r e => by cases e)).trans hf
theorem five_boxes (w W0 : World) (v0 v1 v2 v3 v4 : Value) (t0 t1 t2 t3 t4 : TypeId) (h : ((((w.alloc (.cells #[v0] t0)).alloc (.cells #[v1] t1)).alloc (.cells #[v2] t2)).alloc (.cells #[v3] t3)).alloc (.cells #[v4] t4) = W0) :
    W0.heap.size = w.heap.size + 5 ∧ W0.cell? ⟨w.heap.size, 0, none⟩ = some v0 ∧ W0.cell? ⟨w.heap.size + 1, 0, none⟩ = some v1 ∧ W0.cell? ⟨w.heap.size + 2, 0, none⟩ = some v2 ∧ W0.cell? ⟨w.heap.size + 3, 0, none⟩ = some v3 ∧ W0.frozen? ⟨w.heap.size + 3, 0, none⟩ = false ∧ W0.cell? ⟨w.heap.size + 4, 0, none⟩ = some v4 := by
  have s0 := cell_new_l w v0 t0
  have s1 := cell_new_l (w.alloc (.cells #[v0] t0)) v1 t1
  have s2 := cell_new_l ((w.alloc (.cells #[v0] t0)).alloc (.cells #[v1] t1)) v2 t2
  have s3 := cell_new_l (((w.alloc (.cells #[v0] t0)).alloc (.cells #[v1] t1)).alloc (.cells #[v2] t2)) v3 t3
  have s4 := cell_new_l ((((w.alloc (.cells #[v0] t0)).alloc (.cells #[v1] t1)).alloc (.cells #[v2] t2)).alloc (.cells #[v3] t3)) v4 t4
  simp only [World.size_alloc] at s1 s2 s3 s4
  subst h
  exact ⟨by simp, cell_alloc_l _ (cell_alloc_l _ (cell_alloc_l _ (cell_alloc_l _ s0.1))), cell_alloc_l _ (cell_alloc_l _ (cell_alloc_l _ s1.1)), cell_alloc_l _ (cell_alloc_l _ s2.1), cell_alloc_l _ s3.1, frozen_alloc_l _ s3.1 s3.2, s4.1⟩
theorem far_cell {W : World} {b b' : Nat} {v : Value} (h : W.cell? ⟨b, 0, none⟩ = some v) (hne : b ≠ b') (u : Value) : (W.drew.setCell ⟨b', 0, none⟩ u).cell? ⟨b, 0, none⟩ = some v := by
  rw [World.cell?_setCell_far _ _ _ _ (by simpa using Ne.symm hne)]
  exact h
theorem la_post {w W : World} {P : Fr.Pr} {n a b : Nat} {v0 v1 v2 v3 : Value} {r : Int} {pre : List (Nat × Nat)} (d0 : W.cell? ⟨w.heap.size, 0, none⟩ = some v0) (d1 : W.cell? ⟨w.heap.size + 1, 0, none⟩ = some v1) (d2 : W.cell? ⟨w.heap.size + 2, 0, none⟩ = some v2) (d3 : W.cell? ⟨w.heap.size + 3, 0, none⟩ = some v3) (g3 : W.frozen? ⟨w.heap.size + 3, 0, none⟩ = false) (hB : Below w.heap.size w W) (hL : Fr.lac P n pre a b = r) :
    KeepsOthers W (W.drew.setCell ⟨w.heap.size + 1 + 1 + 1, 0, none⟩ (.int .i64 r)) ∧ KB (w.heap.size + 4) W (W.drew.setCell ⟨w.heap.size + 1 + 1 + 1, 0, none⟩ (.int .i64 r)) ∧
      ((W.drew.setCell ⟨w.heap.size + 1 + 1 + 1, 0, none⟩ (.int .i64 r)).cell? ⟨w.heap.size, 0, none⟩ = some v0 ∧ (W.drew.setCell ⟨w.heap.size + 1 + 1 + 1, 0, none⟩ (.int .i64 r)).cell? ⟨w.heap.size + 1, 0, none⟩ = some v1 ∧ (W.drew.setCell ⟨w.heap.size + 1 + 1 + 1, 0, none⟩ (.int .i64 r)).cell? ⟨w.heap.size + 2, 0, none⟩ = some v2 ∧ (W.drew.setCell ⟨w.heap.size + 1 + 1 + 1, 0, none⟩ (.int .i64 r)).cell? ⟨w.heap.size + 3, 0, none⟩ = some (.int .i64 (Fr.lac P n pre a b)) ∧ (W.drew.setCell ⟨w.heap.size + 1 + 1 + 1, 0, none⟩ (.int .i64 r)).frozen? ⟨w.heap.size + 3, 0, none⟩ = false) ∧ Below w.heap.size w (W.drew.setCell ⟨w.heap.size + 1 + 1 + 1, 0, none⟩ (.int .i64 r)) := by
  refine ⟨(KeepsOthers.drew W).trans (KeepsOthers.setCell _ _ _), ?_, ⟨far_cell d0 (by omega) _, far_cell d1 (by omega) _, far_cell d2 (by omega) _, ?_, ?_⟩, hB.drew.setCell (p := ⟨w.heap.size + 1 + 1 + 1, 0, none⟩) (by simp; omega) _⟩
  · exact heap_setCell_other W.drew ⟨w.heap.size + 1 + 1 + 1, 0, none⟩ (w.heap.size + 4) _ (by simp)
  · rw [hL]
    exact World.cell?_setCell_same' _ _ _ (by show (W.cell? ⟨w.heap.size + 3, 0, none⟩).isSome = true; rw [d3]; rfl)
  · rw [World.frozen?_setCell]
    exact g3
set_option maxRecDepth 100000 in
set_option maxHeartbeats 2000000 in
theorem around_any {f : List (List Int)} (hs : Sq f) (hP : Fr.Ok (Fr.pr f) f.length) (ad : Option Addr) (cap a b : Nat) (w : World) (hm : Mat w ad f) (hab : a ≤ b) (hb : b < f.length) (hn6 : f.length ≤ 6) :
    Calls Try.prog 23 #[.slice ad f.length cap, .int .i64 (a : Int), .int .i64 (b : Int)] w fun e w' => e = .returned (.int .i64 (Fr.la (Fr.pr f) (Fr.rg f.length) a b)) ∧ Below w.heap.size w w' := by
  have HS : Hid (Sq f) := hs
  have HP : Hid (Fr.Ok (Fr.pr f) f.length) := hP
  obtain ⟨n, hn⟩ : ∃ n, f.length = n := ⟨_, rfl⟩
  have HN : Hid (f.length = n) := hn
  rw [hn] at hb hn6 HP ⊢
  have hB0 : Below w.heap.size w (((w.alloc (.cells #[.slice ad n cap] 23)).alloc (.cells #[.int .i64 (a : Int)] 3)).alloc (.cells #[.int .i64 (b : Int)] 3)) := ((below_box w _).alloc (by simp) _).alloc (by simp; omega) _
  have HB0 : Hid (_) := hB0
  have hm0 : Mat (((w.alloc (.cells #[.slice ad n cap] 23)).alloc (.cells #[.int .i64 (a : Int)] 3)).alloc (.cells #[.int .i64 (b : Int)] 3)) ad f := hm.below hB0
  have HM0 : Hid (Mat (((w.alloc (.cells #[.slice ad n cap] 23)).alloc (.cells #[.int .i64 (a : Int)] 3)).alloc (.cells #[.int .i64 (b : Int)] 3)) ad f) := hm0
  have HM : Hid (Mat w ad f) := hm
  have p0 := price_at HS.out ad cap n a b (a : Int) (b : Int) (((w.alloc (.cells #[.slice ad n cap] 23)).alloc (.cells #[.int .i64 (a : Int)] 3)).alloc (.cells #[.int .i64 (b : Int)] 3)) HN.out rfl rfl HM0.out hab hb
  clear hs hP hm hn hB0 hm0
  refine (callsIn_wide (n := 2)).1 ?_
  refine callsIn_of_wp_marks Try.func23 rfl trivial ?_ rfl
  simp only [Try.ntmps23, List.size_toArray, List.length_cons, List.length_nil, Nat.reduceAdd, Nat.reduceSub, Array.replicate_succ, Array.replicate_zero, List.push_toArray, List.append_toArray, List.nil_append, List.cons_append]
  have : Fence.wide.fn 22 := trivial
  have : Fence.wide.fn 21 := trivial
  gi_wp2_with (first
    | (gi_at_call 22; refine (callsIn_wide.2 p0).mono ?_; rintro e w' ⟨rfl, rfl⟩)
    | (gi_at_call 21; refine (callsIn_wide.2 (ranges_in n _)).mono ?_; rintro e w' ⟨rfl, rfl⟩))
  clear p0 HM0
  obtain ⟨W0, hW0⟩ : ∃ W0, ((((w.alloc (.cells #[.slice ad n cap] 23)).alloc (.cells #[.int .i64 (a : Int)] 3)).alloc (.cells #[.int .i64 (b : Int)] 3)).alloc (.cells #[.int .i64 (Fr.pr f a b)] 3)).alloc (.cells #[.int .i64 (n : Int)] 3) = W0 := ⟨_, rfl⟩
  obtain ⟨z0, c0, c1, c2, c3, f3, c4⟩ := five_boxes w W0 (.slice ad n cap) (.int .i64 (a : Int)) (.int .i64 (b : Int)) (.int .i64 (Fr.pr f a b)) (.int .i64 (n : Int)) _ _ _ _ _ hW0
  have B0 : Below w.heap.size w W0 := by rw [← hW0]; exact (HB0.out.alloc HB0.out.size _).alloc (HB0.out.alloc HB0.out.size _).size _
  rw [hW0]
  clear hW0
  refine wpIn_rangeFunc_ownF (n := 2) rfl (by omega) (gf := 29) (lb := #[.pointer (some ⟨w.heap.size + 1 + 1 + 1 + 1, 0, none⟩)]) rfl trivial (enters_of Try.func29 (by kernel_rfl) rfl)
    (ranges_stops n (w.heap.size + 4) W0 hn6 (by omega) c4) KB.trans (KB.put (by omega)) (Below.refl _ _) (fun _ => rfl)
    (fun pre W => (W.cell? ⟨w.heap.size, 0, none⟩ = some (.slice ad n cap) ∧ W.cell? ⟨w.heap.size + 1, 0, none⟩ = some (.int .i64 (a : Int)) ∧ W.cell? ⟨w.heap.size + 2, 0, none⟩ = some (.int .i64 (b : Int)) ∧ W.cell? ⟨w.heap.size + 3, 0, none⟩ = some (.int .i64 (Fr.lac (Fr.pr f) n pre a b)) ∧ W.frozen? ⟨w.heap.size + 3, 0, none⟩ = false) ∧ Below w.heap.size w W)
    (fun _ _ _ => False)
    (OwnFrom.and (Own.from (fun s A B row hs hg hr => ⟨cell_kept hs.1 hg hr, cell_kept hs.2.1 hg hr, cell_kept hs.2.2.1 hg hr, cell_kept hs.2.2.2.1 hg hr, (frozen_kept hs.2.2.2.1 hg hr).trans hs.2.2.2.2⟩) _) (ownFrom_below (Nat.le_refl _) (by omega)))
    (fun _ _ _ _ _ hs _ _ => hs)
    ⟨⟨c0, c1, c2, c3, f3⟩, B0⟩
    (fun x => { tmps := #[.slice ad n cap, .int .i64 (a : Int), .int .i64 (b : Int), .pointer (some ⟨w.heap.size, 0, none⟩), .pointer (some ⟨w.heap.size + 1, 0, none⟩), .pointer (some ⟨w.heap.size + 1 + 1, 0, none⟩), .int .i64 0, .pointer (some ⟨w.heap.size + 1 + 1 + 1, 0, none⟩), .int .i64 ((Fr.cl n x).1 : Int), .int .i64 ((Fr.cl n x).2 : Int), .slice ad n cap, .int .i64 (a : Int), .int .i64 (b : Int), .int .i64 (Fr.pr f a b), .slice ad n cap, .int .i64 (n : Int), .func (.func 29) #[] #[.pointer (some ⟨w.heap.size + 1 + 1 + 1 + 1, 0, none⟩)], .int .i64 ((Fr.cl n x).1 : Int), .int .i64 ((Fr.cl n x).2 : Int), undef, undef, undef, undef, undef, undef, undef, undef, undef, undef, undef, undef, undef, undef, undef], defers := [] }) ?assign ?body ?done ?stop
  case assign =>
    intro l x W K hK
    simp only [enR]
    gi_wp2
    exact hK
  case body =>
    rintro l pre x W ⟨⟨d0, d1, d2, d3, g3⟩, hB⟩ _
    have HB : Hid (Below w.heap.size w W) := hB
    have HL := Fr.lac_snoc (Fr.pr f) n pre a b x
    obtain ⟨hq1, hq2⟩ := Fr.cl_ok (by omega : 1 ≤ n) x
    generalize Fr.cl n x = q at *
    obtain ⟨u, v⟩ := q
    simp only at HL hq1 hq2 ⊢
    have hBW : w.heap.size + 3 < W.heap.size := World.block_lt_of_cell? W _ d3
    clear hB
    by_cases h1 : u ≤ a
    · have h1' : decide ((u : Int) ≤ (a : Int)) = true := by simpa using h1
      by_cases h2 : b ≤ v
      · rw [if_pos ⟨h1, h2⟩] at HL
        have HPR : Hid (∀ W', Below w.heap.size w W' → Calls Try.prog 22 #[.slice ad n cap, .int .i64 (u : Int), .int .i64 (v : Int)] W' fun e w' => e = .returned (.int .i64 (Fr.pr f u v)) ∧ w' = W') := fun W' h => price_at HS.out ad cap n u v (u : Int) (v : Int) W' HN.out rfl rfl (HM.out.below h) hq1 hq2
        have d3' : W.drew.cell? ⟨w.heap.size + 1 + 1 + 1, 0, none⟩ = some (.int .i64 (Fr.lac (Fr.pr f) n pre a b)) := d3
        have g3' : W.drew.frozen? ⟨w.heap.size + 1 + 1 + 1, 0, none⟩ = false := g3
        have HLL : Hid (Fr.lac (Fr.pr f) n (pre ++ [x]) a b = min (Fr.lac (Fr.pr f) n pre a b) (Fr.pr f u v)) := HL
        clear HL
        generalize hLv : Fr.lac (Fr.pr f) n pre a b = L at *
        generalize hpv : Fr.pr f u v = p at *
        by_cases hmin : L ≤ p
        · have HL : Hid (Fr.lac (Fr.pr f) n (pre ++ [x]) a b = L) := by show _ = _; rw [HLL.out, Int.min_eq_left hmin]
          clear hLv hpv HLL
          gi_wp2
          refine regionIn_of (S := fun w' => w'.cell? ⟨w.heap.size, 0, none⟩ = some (.slice ad n cap)) (by kernel_rfl) (by kernel_rfl) ?hq d0 (fun hHeld => ?_)
          case hq => rintro ⟨a', w', h⟩; exact h
          simp only [List.size_toArray, List.length_cons, List.length_nil, Nat.reduceAdd, Array.replicate_succ, Array.replicate_zero, List.push_toArray, List.nil_append, List.cons_append]
          refine take_first (i := 1) (d := some 28) (v := ?v1) rfl rfl (by kernel_rfl) (by kernel_rfl) (by kernel_rfl) (fun _ _ _ h => h) (by rfl) ?hy1 (by assumption) ?rest1
          case hy1 => (intro w' hSw; (try dsimp only at hSw); go_simp; try with_reducible rfl)
          case rest1 =>
          simp only [Act.put, List.setIfInBounds_toArray, List.set_cons_zero, List.set_cons_succ]
          refine take_first (i := 2) (d := some 29) (v := ?v2) rfl rfl (by kernel_rfl) (by kernel_rfl) (by kernel_rfl) (fun _ _ _ h => h) (by rfl) ?hy2 (by assumption) ?rest2
          case hy2 => (intro w' hSw; (try dsimp only at hSw); go_simp; try with_reducible rfl)
          case rest2 =>
          simp only [Act.put, List.setIfInBounds_toArray, List.set_cons_zero, List.set_cons_succ]
          refine take_first (i := 3) (d := some 30) (v := ?v3) rfl rfl (by kernel_rfl) (by kernel_rfl) (by kernel_rfl) (fun _ _ _ h => h) (by rfl) ?hy3 (by assumption) ?rest3
          case hy3 => (intro w' hSw; (try dsimp only at hSw); go_simp; try with_reducible rfl)
          case rest3 =>
          simp only [Act.put, List.setIfInBounds_toArray, List.set_cons_zero, List.set_cons_succ]
          refine step_two (i := 0) (j := 4) rfl rfl (by kernel_rfl) (by rfl) (by rfl) ?_ ?_
          · refine op_value (d := some 27) (v := .int .i64 L) rfl (by go_simp; try with_reducible rfl) ?_
            refine ⟨hHeld, ?_⟩
            simp only [Act.put, List.setIfInBounds_toArray, List.set_cons_zero, List.set_cons_succ]
            refine step_only (i := 4) rfl (by kernel_rfl) (by rfl) ?_
            refine op_call (d := some 31) rfl (by go_simp; try with_reducible rfl) (HPR.out W.drew HB.out.drew) ?_
            rintro e w' ⟨rfl, rfl⟩
            refine ⟨_, rfl, hHeld, ?_⟩
            simp only [Act.put, List.setIfInBounds_toArray, List.set_cons_zero, List.set_cons_succ]
            refine step_only (i := 5) rfl (by kernel_rfl) (by rfl) ?_
            refine op_value (d := some 32) (v := .int .i64 (L)) (w' := W.drew) rfl (by go_simp; first | done | (intros; omega)) ?_
            refine ⟨hHeld, ?_⟩
            simp only [Act.put, List.setIfInBounds_toArray, List.set_cons_zero, List.set_cons_succ]
            refine step_only (i := 6) rfl (by kernel_rfl) (by rfl) ?_
            refine op_skip (d := none) (w' := W.drew.setCell ⟨w.heap.size + 1 + 1 + 1, 0, none⟩ (.int .i64 (L))) rfl (by go_simp; try with_reducible rfl) ?_
            refine ⟨far_cell d0 (by omega) _, ?_⟩
            refine wpAnyH_done (by kernel_rfl) ?_ _
            exact la_post d0 d1 d2 d3 g3 HB.out HL.out
          · refine op_call (d := some 31) rfl (by go_simp; try with_reducible rfl) (HPR.out W.drew HB.out.drew) ?_
            rintro e w' ⟨rfl, rfl⟩
            refine ⟨_, rfl, hHeld, ?_⟩
            simp only [Act.put, List.setIfInBounds_toArray, List.set_cons_zero, List.set_cons_succ]
            refine step_only (i := 0) rfl (by kernel_rfl) (by rfl) ?_
            refine op_value (d := some 27) (v := .int .i64 L) rfl (by go_simp; try with_reducible rfl) ?_
            refine ⟨hHeld, ?_⟩
            simp only [Act.put, List.setIfInBounds_toArray, List.set_cons_zero, List.set_cons_succ]
            refine step_only (i := 5) rfl (by kernel_rfl) (by rfl) ?_
            refine op_value (d := some 32) (v := .int .i64 (L)) (w' := W.drew) rfl (by go_simp; first | done | (intros; omega)) ?_
            refine ⟨hHeld, ?_⟩
            simp only [Act.put, List.setIfInBounds_toArray, List.set_cons_zero, List.set_cons_succ]
            refine step_only (i := 6) rfl (by kernel_rfl) (by rfl) ?_
            refine op_skip (d := none) (w' := W.drew.setCell ⟨w.heap.size + 1 + 1 + 1, 0, none⟩ (.int .i64 (L))) rfl (by go_simp; try with_reducible rfl) ?_
            refine ⟨far_cell d0 (by omega) _, ?_⟩
            refine wpAnyH_done (by kernel_rfl) ?_ _
            exact la_post d0 d1 d2 d3 g3 HB.out HL.out
        · have hmin' : p < L := by omega
          have HL : Hid (Fr.lac (Fr.pr f) n (pre ++ [x]) a b = p) := by show _ = _; rw [HLL.out, Int.min_eq_right (Int.le_of_lt hmin')]
          clear hLv hpv HLL
          gi_wp2
          refine regionIn_of (S := fun w' => w'.cell? ⟨w.heap.size, 0, none⟩ = some (.slice ad n cap)) (by kernel_rfl) (by kernel_rfl) ?hq d0 (fun hHeld => ?_)
          case hq => rintro ⟨a', w', h⟩; exact h
          simp only [List.size_toArray, List.length_cons, List.length_nil, Nat.reduceAdd, Array.replicate_succ, Array.replicate_zero, List.push_toArray, List.nil_append, List.cons_append]
          refine take_first (i := 1) (d := some 28) (v := ?v1) rfl rfl (by kernel_rfl) (by kernel_rfl) (by kernel_rfl) (fun _ _ _ h => h) (by rfl) ?hy1 (by assumption) ?rest1
          case hy1 => (intro w' hSw; (try dsimp only at hSw); go_simp; try with_reducible rfl)
          case rest1 =>
          simp only [Act.put, List.setIfInBounds_toArray, List.set_cons_zero, List.set_cons_succ]
          refine take_first (i := 2) (d := some 29) (v := ?v2) rfl rfl (by kernel_rfl) (by kernel_rfl) (by kernel_rfl) (fun _ _ _ h => h) (by rfl) ?hy2 (by assumption) ?rest2
          case hy2 => (intro w' hSw; (try dsimp only at hSw); go_simp; try with_reducible rfl)
          case rest2 =>
          simp only [Act.put, List.setIfInBounds_toArray, List.set_cons_zero, List.set_cons_succ]
          refine take_first (i := 3) (d := some 30) (v := ?v3) rfl rfl (by kernel_rfl) (by kernel_rfl) (by kernel_rfl) (fun _ _ _ h => h) (by rfl) ?hy3 (by assumption) ?rest3
          case hy3 => (intro w' hSw; (try dsimp only at hSw); go_simp; try with_reducible rfl)
          case rest3 =>
          simp only [Act.put, List.setIfInBounds_toArray, List.set_cons_zero, List.set_cons_succ]
          refine step_two (i := 0) (j := 4) rfl rfl (by kernel_rfl) (by rfl) (by rfl) ?_ ?_
          · refine op_value (d := some 27) (v := .int .i64 L) rfl (by go_simp; try with_reducible rfl) ?_
            refine ⟨hHeld, ?_⟩
            simp only [Act.put, List.setIfInBounds_toArray, List.set_cons_zero, List.set_cons_succ]
            refine step_only (i := 4) rfl (by kernel_rfl) (by rfl) ?_
            refine op_call (d := some 31) rfl (by go_simp; try with_reducible rfl) (HPR.out W.drew HB.out.drew) ?_
            rintro e w' ⟨rfl, rfl⟩
            refine ⟨_, rfl, hHeld, ?_⟩
            simp only [Act.put, List.setIfInBounds_toArray, List.set_cons_zero, List.set_cons_succ]
            refine step_only (i := 5) rfl (by kernel_rfl) (by rfl) ?_
            refine op_value (d := some 32) (v := .int .i64 (p)) (w' := W.drew) rfl (by go_simp; first | done | (intros; omega)) ?_
            refine ⟨hHeld, ?_⟩
            simp only [Act.put, List.setIfInBounds_toArray, List.set_cons_zero, List.set_cons_succ]
            refine step_only (i := 6) rfl (by kernel_rfl) (by rfl) ?_
            refine op_skip (d := none) (w' := W.drew.setCell ⟨w.heap.size + 1 + 1 + 1, 0, none⟩ (.int .i64 (p))) rfl (by go_simp; try with_reducible rfl) ?_
            refine ⟨far_cell d0 (by omega) _, ?_⟩
            refine wpAnyH_done (by kernel_rfl) ?_ _
            exact la_post d0 d1 d2 d3 g3 HB.out HL.out
          · refine op_call (d := some 31) rfl (by go_simp; try with_reducible rfl) (HPR.out W.drew HB.out.drew) ?_
            rintro e w' ⟨rfl, rfl⟩
            refine ⟨_, rfl, hHeld, ?_⟩
            simp only [Act.put, List.setIfInBounds_toArray, List.set_cons_zero, List.set_cons_succ]
            refine step_only (i := 0) rfl (by kernel_rfl) (by rfl) ?_
            refine op_value (d := some 27) (v := .int .i64 L) rfl (by go_simp; try with_reducible rfl) ?_
            refine ⟨hHeld, ?_⟩
            simp only [Act.put, List.setIfInBounds_toArray, List.set_cons_zero, List.set_cons_succ]
            refine step_only (i := 5) rfl (by kernel_rfl) (by rfl) ?_
            refine op_value (d := some 32) (v := .int .i64 (p)) (w' := W.drew) rfl (by go_simp; first | done | (intros; omega)) ?_
            refine ⟨hHeld, ?_⟩
            simp only [Act.put, List.setIfInBounds_toArray, List.set_cons_zero, List.set_cons_succ]
            refine step_only (i := 6) rfl (by kernel_rfl) (by rfl) ?_
            refine op_skip (d := none) (w' := W.drew.setCell ⟨w.heap.size + 1 + 1 + 1, 0, none⟩ (.int .i64 (p))) rfl (by go_simp; try with_reducible rfl) ?_
            refine ⟨far_cell d0 (by omega) _, ?_⟩
            refine wpAnyH_done (by kernel_rfl) ?_ _
            exact la_post d0 d1 d2 d3 g3 HB.out HL.out
      · rw [if_neg (by omega)] at HL
        have h2' : decide ((b : Int) ≤ (v : Int)) = false := by simp; omega
        have HLL : Hid (Fr.lac (Fr.pr f) n (pre ++ [x]) a b = Fr.lac (Fr.pr f) n pre a b) := HL
        clear HL
        gi_wp2
        exact ⟨KeepsOthers.refl _, rfl, ⟨d0, d1, d2, by rw [HLL.out]; exact d3, g3⟩, HB.out⟩
    · rw [if_neg (by omega)] at HL
      have h1' : decide ((u : Int) ≤ (a : Int)) = false := by simp; omega
      have HLL : Hid (Fr.lac (Fr.pr f) n (pre ++ [x]) a b = Fr.lac (Fr.pr f) n pre a b) := HL
      clear HL
      gi_wp2
      exact ⟨KeepsOthers.refl _, rfl, ⟨d0, d1, d2, by rw [HLL.out]; exact d3, g3⟩, HB.out⟩
  case done =>
    rintro D ys W hD rfl ⟨⟨_, _, _, hc, _⟩, hB⟩ hK
    rw [Fr.lac_rg] at hc
    gi_wp2
    refine ⟨by simp, .inl ⟨_, _, rfl, run_takeDeferred hK, ?_⟩⟩
    exact ⟨_, results_tmp rfl _ _ _, rfl, hB.trans (belowK_b (w := w) (Nat.le_refl _) W D _ _ (by omega) hK rfl rfl)⟩
  case stop =>
    rintro D c pre W _ _ h _
    exact h.elim
end Go.Proofs.Ytcaibonnkfhkmaa
