/- The walk of package fare: mended fares. -/
import Derived.Test.YtcaibonnkfhkmaaFFa
import Derived.Test.YtcaibonnkfhkmaaFRw
import Derived.Test.YtcaibonnkfhkmaaFMm
import Derived.Test.YtcaibonnkfhkmaaFenW
namespace Go.Proofs.Ytcaibonnkfhkmaa
open Go.RowKit Go.Shelf
attribute [local go_sem] Oper.semAt_some
theorem store_row {W : World} {b n k : Nat} {F : Nat → Value} (h : RowR W b n F) (v : Value) : RowR (W.setCell ⟨b, k, none⟩ v) b n (fun j => if j = k then v else F j) := World.rowIs.set h k v
theorem far_cell3 {W : World} {b b' : Nat} {v : Value} (h : W.cell? ⟨b, 0, none⟩ = some v) (hne : b ≠ b') (o : Nat) (u : Value) : (W.setCell ⟨b', o, none⟩ u).cell? ⟨b, 0, none⟩ = some v := by
  rw [World.cell?_setCell_far _ _ _ _ (by simpa using Ne.symm hne)]
  exact h
set_option maxRecDepth 100000 in
set_option maxHeartbeats 2000000 in
theorem mend_ok {f : List (List Int)} (ad : Option Addr) (cap : Nat) (w : World) (hl : f.length ≤ maxLen) (hm : Mat w ad f) (hc : Fr.chk f = 0) :
    Calls Try.prog 16 #[.slice ad f.length cap] w fun e w' => e = .returned (.tuple #[.slice (some ⟨w.heap.size + 1, 0, none⟩) f.length f.length, .int .i64 0]) ∧ Out w' (w.heap.size + 1) f.length (fun k => w.heap.size + 3 + k) (Fr.cv (Fr.pr f) f.length) ∧ Below w.heap.size w w' := by
  obtain ⟨hn1, hn6, hs, hP⟩ := Fr.chk_zero hc
  have C := fun W h => fcheck_any f ad cap W hl h
  rw [hc] at C
  have HS : Hid (Sq f) := hs
  have HP : Hid (Fr.Ok (Fr.pr f) f.length) := hP
  have HM : Hid (Mat w ad f) := hm
  obtain ⟨n, hn⟩ : ∃ n, f.length = n := ⟨_, rfl⟩
  have HN : Hid (f.length = n) := hn
  rw [hn] at hn1 hn6 HP C ⊢
  clear hs hP hn hc hl
  refine (callsIn_wide (n := 2)).1 ?_
  refine callsIn_of_wp_marks Try.func16 rfl trivial ?_ rfl
  simp only [Try.ntmps16, List.size_toArray, List.length_cons, List.length_nil, Nat.reduceAdd, Nat.reduceSub, Array.replicate_succ, Array.replicate_zero, List.push_toArray, List.append_toArray, List.nil_append, List.cons_append]
  have hmk := make_rows n (by omega)
  have : Fence.wide.fn 14 := trivial
  have : Fence.wide.fn 21 := trivial
  gi_wp2_with (first
    | (gi_at_call 14; refine (callsIn_wide.2 (C _ (hm.below (below_box w _)))).mono ?_; rintro e w' ⟨rfl, rfl⟩)
    | (gi_at_call 21; refine (callsIn_wide.2 (ranges_in n _)).mono ?_; rintro e w' ⟨rfl, rfl⟩))
  clear C hmk hm
  gi_loopw [6, 19] (fun _ kv wr => ∃ k : Nat, k ≤ n ∧ kv = .int .i64 k ∧ RowR wr (w.heap.size + 1) n (fun j => if j < k then .slice (some ⟨w.heap.size + 3 + j, 0, none⟩) (n - j) (n - j) else .slice none 0 0) ∧ (∀ j, j < k → RowI wr (w.heap.size + 3 + j) (n - j) (fun _ => 0)) ∧ wr.cell? ⟨w.heap.size, 0, none⟩ = some (.slice ad n cap) ∧ wr.cell? ⟨w.heap.size + 1 + 1, 0, none⟩ = some (.slice (some ⟨w.heap.size + 1, 0, none⟩) n n) ∧ wr.heap.size = w.heap.size + 3 + k ∧ Below w.heap.size w wr) (fun _ kv _ => n - (intOf kv).toNat)
  case atStart =>
    refine ⟨0, Nat.zero_le _, rfl, ?_, fun j hj => by omega, cell_alloc_l _ (cell_alloc_l _ (cell_new_l w _ _).1), ?_, by simp, ((below_box w _).alloc (by simp) _).alloc (by simp; omega) _⟩
    · exact World.rowIs.congr (World.rowIs.alloc (by have := RowR.made (w.alloc (.cells #[.slice ad n cap] 23)) n; rw [World.size_alloc] at this; exact this) _) (fun j _ => rfl)
    · have := (cell_new_l ((w.alloc (.cells #[.slice ad n cap] 23)).alloc (.cells (madeCells #[.slice none 0 0] n) 37)) (.slice (some ⟨w.heap.size + 1, 0, none⟩) n n) 23).1
      simp only [World.size_alloc] at this
      exact this
  case round =>
    obtain ⟨k, hk, rfl, hR, hI, c0, c2, hz, hB⟩ := hrel
    by_cases hlt : k < n
    · have hlt' : (k : Int) < (n : Int) := by omega
      have hmk := make_ints (n - k) (by omega) wr.drew
      have hwk : IntKind.i64.wrap ((n - k : Nat) : Int) = ((n - k : Nat) : Int) := by rw [IntKind.wrap_i64]; omega
      have e27 : (n : Int) - (k : Int) = ((n - k : Nat) : Int) := by omega
      have HR : Hid (RowR wr (w.heap.size + 1) n (fun j => if j < k then .slice (some ⟨w.heap.size + 3 + j, 0, none⟩) (n - j) (n - j) else .slice none 0 0)) := hR
      have HI : Hid (∀ j, j < k → RowI wr (w.heap.size + 3 + j) (n - j) (fun _ => 0)) := hI
      have HB : Hid (Below w.heap.size w wr) := hB
      have HZ : Hid (wr.heap.size = w.heap.size + 3 + k) := hz
      have cR : wr.cell? ⟨w.heap.size + 1, k, none⟩ = some (.slice none 0 0) := by have := World.rowIs.cell hR hlt; simpa using this
      have fR : wr.frozen? ⟨w.heap.size + 1, k, none⟩ = false := World.rowIs.frozen hR k
      clear hR hI hB hz
      gi_wp2
      refine regionIn_ofQ (S := fun w' => w'.cell? ⟨w.heap.size, 0, none⟩ = some (.slice ad n cap) ∧ w'.cell? ⟨w.heap.size + 1 + 1, 0, none⟩ = some (.slice (some ⟨w.heap.size + 1, 0, none⟩) n n)) (by kernel_rfl) (by kernel_rfl) ⟨c0, c2⟩ (fun hHeld => ?_)
      simp only [List.size_toArray, List.length_cons, List.length_nil, Nat.reduceAdd, Array.replicate_succ, Array.replicate_zero, List.push_toArray, List.nil_append, List.cons_append]
      refine take_first (i := 0) (d := some 22) (v := ?v0) rfl rfl (by kernel_rfl) (by kernel_rfl) (by kernel_rfl) (fun _ _ _ h => h) (by rfl) ?hy0 (by assumption) ?rest0
      case hy0 => (intro w' hSw; obtain ⟨hS1, hS2⟩ := hSw; (try dsimp only at hS1 hS2); go_simp; try with_reducible rfl)
      case rest0 =>
      simp only [Act.put, List.setIfInBounds_toArray, List.set_cons_zero, List.set_cons_succ]
      refine take_first (i := 1) (d := some 23) (v := ?v1) rfl rfl (by kernel_rfl) (by kernel_rfl) (by kernel_rfl) (fun _ _ _ h => h) (by rfl) ?hy1 (by assumption) ?rest1
      case hy1 => (intro w' hSw; obtain ⟨hS1, hS2⟩ := hSw; (try dsimp only at hS1 hS2); go_simp; try with_reducible rfl)
      case rest1 =>
      simp only [Act.put, List.setIfInBounds_toArray, List.set_cons_zero, List.set_cons_succ]
      refine take_first (i := 2) (d := some 24) (v := ?v2) rfl rfl (by kernel_rfl) (by kernel_rfl) (by kernel_rfl) (fun _ _ _ h => h) (by rfl) ?hy2 (by assumption) ?rest2
      case hy2 => (intro w' hSw; obtain ⟨hS1, hS2⟩ := hSw; (try dsimp only at hS1 hS2); go_simp; try with_reducible rfl)
      case rest2 =>
      simp only [Act.put, List.setIfInBounds_toArray, List.set_cons_zero, List.set_cons_succ]
      refine take_first (i := 3) (d := some 25) (v := ?v3) rfl rfl (by kernel_rfl) (by kernel_rfl) (by kernel_rfl) (fun _ _ _ h => h) (by rfl) ?hy3 (by assumption) ?rest3
      case hy3 => (intro w' hSw; obtain ⟨hS1, hS2⟩ := hSw; (try dsimp only at hS1 hS2); go_simp; try with_reducible rfl)
      case rest3 =>
      simp only [Act.put, List.setIfInBounds_toArray, List.set_cons_zero, List.set_cons_succ]
      refine take_first (i := 4) (d := some 26) (v := ?v4) rfl rfl (by kernel_rfl) (by kernel_rfl) (by kernel_rfl) (fun _ _ _ h => h) (by rfl) ?hy4 (by assumption) ?rest4
      case hy4 => (intro w' hSw; obtain ⟨hS1, hS2⟩ := hSw; (try dsimp only at hS1 hS2); go_simp; try with_reducible rfl)
      case rest4 =>
      simp only [Act.put, List.setIfInBounds_toArray, List.set_cons_zero, List.set_cons_succ]
      refine take_first (i := 5) (d := some 27) (v := ?v5) rfl rfl (by kernel_rfl) (by kernel_rfl) (by kernel_rfl) (fun _ _ _ h => h) (by rfl) ?hy5 (by assumption) ?rest5
      case hy5 => (intro w' hSw; obtain ⟨hS1, hS2⟩ := hSw; (try dsimp only at hS1 hS2); go_simp; try with_reducible rfl)
      case rest5 =>
      simp only [Act.put, List.setIfInBounds_toArray, List.set_cons_zero, List.set_cons_succ]
      have cA : (wr.alloc (.cells (madeCells #[.int .i64 0] (n - k)) 3)).cell? ⟨w.heap.size, 0, none⟩ = some (.slice ad n cap) := cell_alloc_l _ c0
      have cB : (wr.alloc (.cells (madeCells #[.int .i64 0] (n - k)) 3)).cell? ⟨w.heap.size + 1 + 1, 0, none⟩ = some (.slice (some ⟨w.heap.size + 1, 0, none⟩) n n) := cell_alloc_l _ c2
      have cC : (wr.alloc (.cells (madeCells #[.int .i64 0] (n - k)) 3)).cell? ⟨w.heap.size + 1, k, none⟩ = some (.slice none 0 0) := cell_alloc_l _ cR
      have fC : (wr.alloc (.cells (madeCells #[.int .i64 0] (n - k)) 3)).frozen? ⟨w.heap.size + 1, k, none⟩ = false := frozen_alloc_l _ cR fR
      refine step_only (i := 6) rfl (by kernel_rfl) (by rfl) ?_
      refine op_value (d := some 28) (v := .slice (some ⟨wr.heap.size, 0, none⟩) (n - k) (n - k)) (w' := (wr.alloc (.cells (madeCells #[.int .i64 0] (n - k)) 3)).drew) rfl (by go_simp; try with_reducible rfl) ?_
      refine ⟨⟨cA, cB⟩, ?_⟩
      simp only [Act.put, List.setIfInBounds_toArray, List.set_cons_zero, List.set_cons_succ]
      refine step_only (i := 7) rfl (by kernel_rfl) (by rfl) ?_
      refine op_value (d := some 29) (v := .pointer (some ⟨w.heap.size + 1, k, none⟩)) (w' := (wr.alloc (.cells (madeCells #[.int .i64 0] (n - k)) 3)).drew) rfl (by go_simp; try with_reducible rfl) ?_
      refine ⟨⟨cA, cB⟩, ?_⟩
      simp only [Act.put, List.setIfInBounds_toArray, List.set_cons_zero, List.set_cons_succ]
      refine step_only (i := 8) rfl (by kernel_rfl) (by rfl) ?_
      refine op_skip (d := none) (w' := ((wr.alloc (.cells (madeCells #[.int .i64 0] (n - k)) 3)).setCell ⟨w.heap.size + 1, k, none⟩ (.slice (some ⟨wr.heap.size, 0, none⟩) (n - k) (n - k))).drew) rfl (by go_simp; first | done | rfl) ?_
      refine ⟨⟨far_cell3 cA (by omega) _ _, far_cell3 cB (by omega) _ _⟩, ?_⟩
      simp only [Act.put, List.setIfInBounds_toArray, List.set_cons_zero, List.set_cons_succ]
      refine wpAnyH_done (by kernel_rfl) ?_ _
      refine quietQ_normal ?_
      clear hHeld
      obtain ⟨W2, hW2⟩ : ∃ W2, ((wr.alloc (.cells (madeCells #[.int .i64 0] (n - k)) 3)).setCell ⟨w.heap.size + 1, k, none⟩ (.slice (some ⟨wr.heap.size, 0, none⟩) (n - k) (n - k))).drew = W2 := ⟨_, rfl⟩
      have HW2 : Hid (((wr.alloc (.cells (madeCells #[.int .i64 0] (n - k)) 3)).setCell ⟨w.heap.size + 1, k, none⟩ (.slice (some ⟨wr.heap.size, 0, none⟩) (n - k) (n - k))).drew = W2) := hW2
      rw [hW2]
      clear hW2 cR fR cC fC
      have hW2 := HW2.out
      have zW : W2.heap.size = w.heap.size + 3 + (k + 1) := by rw [← hW2]; show (World.setCell _ _ _).heap.size = _; rw [Deep.nblk_setCell]; simp [HZ.out]; omega
      have q0 : W2.cell? ⟨w.heap.size, 0, none⟩ = some (.slice ad n cap) := by rw [← hW2]; exact far_cell3 cA (by omega) _ _
      have q2 : W2.cell? ⟨w.heap.size + 1 + 1, 0, none⟩ = some (.slice (some ⟨w.heap.size + 1, 0, none⟩) n n) := by rw [← hW2]; exact far_cell3 cB (by omega) _ _
      have qR : RowR W2 (w.heap.size + 1) n (fun j => if j < k + 1 then .slice (some ⟨w.heap.size + 3 + j, 0, none⟩) (n - j) (n - j) else .slice none 0 0) := by
        rw [← hW2]
        refine World.rowIs.congr (World.rowIs.set (World.rowIs.alloc HR.out _) k _) (fun j hj => ?_)
        by_cases c : j = k
        · subst c; rw [if_pos rfl, if_pos (by omega), HZ.out]
        · rw [if_neg c]
          by_cases c2 : j < k
          · rw [if_pos c2, if_pos (by omega)]
          · rw [if_neg c2, if_neg (by omega)]
      have qI : ∀ j, j < k + 1 → RowI W2 (w.heap.size + 3 + j) (n - j) (fun _ => 0) := by
        intro j hj
        rw [← hW2]
        by_cases c : j = k
        · subst c
          rw [← HZ.out]
          exact World.rowIs.setOther (RowI.made wr (n - j)) (a := ⟨w.heap.size + 1, j, none⟩) (by show wr.heap.size ≠ w.heap.size + 1; rw [HZ.out]; omega) _
        · exact World.rowIs.setOther (World.rowIs.alloc (HI.out j (by omega)) _) (a := ⟨w.heap.size + 1, k, none⟩) (by show _ ≠ w.heap.size + 1; omega) _
      have qB : Below w.heap.size w W2 := by rw [← hW2]; exact ((HB.out.alloc HB.out.size _).setCell (p := ⟨w.heap.size + 1, k, none⟩) (by simp) _).drew
      clear hW2 hmk
      gi_wp2
      exact ⟨⟨k + 1, by omega, by go_num, qR, qI, q0, q2, zW, qB⟩, by simp [intOf]; omega⟩
    · obtain rfl : n = k := by omega
      have HO : Hid (Out wr (w.heap.size + 1) n (fun k => w.heap.size + 3 + k) (fun _ _ => 0)) := ⟨World.rowIs.congr hR (fun j hj => by rw [if_pos hj]), hI⟩
      have HB : Hid (Below w.heap.size w wr) := hB
      clear hR hI hB
      gi_wp2_with (gi_at_call 21; refine (callsIn_wide.2 (ranges_in n _)).mono ?_; rintro e w' ⟨rfl, rfl⟩)
      obtain ⟨W0, hW0⟩ : ∃ W0, wr.alloc (.cells #[.int .i64 (n : Int)] 3) = W0 := ⟨_, rfl⟩
      have z0 : W0.heap.size = wr.heap.size + 1 := by rw [← hW0]; simp
      have c3 : W0.cell? ⟨wr.heap.size, 0, none⟩ = some (.int .i64 (n : Int)) := by rw [← hW0]; exact (cell_new_l wr _ _).1
      have d0 : W0.cell? ⟨w.heap.size, 0, none⟩ = some (.slice ad n cap) := by rw [← hW0]; exact cell_alloc_l _ c0
      have d2 : W0.cell? ⟨w.heap.size + 1 + 1, 0, none⟩ = some (.slice (some ⟨w.heap.size + 1, 0, none⟩) n n) := by rw [← hW0]; exact cell_alloc_l _ c2
      have O0 : Out W0 (w.heap.size + 1) n (fun k => w.heap.size + 3 + k) (fun _ _ => 0) := by rw [← hW0]; exact HO.out.below (below_box wr _)
      have B0 : Below w.heap.size w W0 := by rw [← hW0]; exact HB.out.alloc HB.out.size _
      rw [hW0]
      rw [hz] at c3 z0
      clear hW0 c0 c2
      refine wpIn_rangeFunc_ownF (n := 2) rfl (by omega) (gf := 29) (lb := #[.pointer (some ⟨w.heap.size + 3 + n, 0, none⟩)]) rfl trivial (enters_of Try.func29 (by kernel_rfl) rfl)
        (ranges_stops n (w.heap.size + 3 + n) W0 hn6 (by omega) c3) KB.trans (KB.put (by omega)) (Below.refl _ _) (fun _ => rfl)
        (fun pre W => (W.cell? ⟨w.heap.size, 0, none⟩ = some (.slice ad n cap) ∧ W.cell? ⟨w.heap.size + 1 + 1, 0, none⟩ = some (.slice (some ⟨w.heap.size + 1, 0, none⟩) n n) ∧ W.cell? ⟨w.heap.size + 3 + n, 0, none⟩ = some (.int .i64 (n : Int)) ∧ Out W (w.heap.size + 1) n (fun k => w.heap.size + 3 + k) (Fr.mstc (Fr.pr f) n pre)) ∧ Below w.heap.size w W)
        (fun _ _ _ => False)
        (OwnFrom.and (Own.from (fun s A B row hs hg hr => ⟨cell_kept hs.1 hg hr, cell_kept hs.2.1 hg hr, cell_kept hs.2.2.1 hg hr, hs.2.2.2.kept hg hr⟩) _) (ownFrom_below (Nat.le_refl _) (by omega)))
        (fun _ _ _ _ _ hs _ _ => hs)
        ⟨⟨d0, d2, c3, O0⟩, B0⟩
        (fun x => { tmps := #[.slice ad n cap, .pointer (some ⟨w.heap.size, 0, none⟩), .slice none 0 0, .int .i64 0, .int .i64 0, .pointer (some ⟨w.heap.size + 1 + 1, 0, none⟩), u6, .int .i64 ((Fr.cl n x).1 : Int), .int .i64 ((Fr.cl n x).2 : Int), .slice ad n cap, .int .i64 0, .int .i64 0, .bool false, undef, .slice ad n cap, .int .i64 (n : Int), .slice (some ⟨w.heap.size + 1, 0, none⟩) n n, .slice (some ⟨w.heap.size + 1, 0, none⟩) n n, .int .i64 (n : Int), .int .i64 (n : Int), .bool false, u21, u22, u23, u24, u25, u26, u27, u28, u29, u30, .slice ad n cap, .int .i64 (n : Int), .func (.func 29) #[] #[.pointer (some ⟨w.heap.size + 3 + n, 0, none⟩)], .int .i64 ((Fr.cl n x).1 : Int), .int .i64 ((Fr.cl n x).2 : Int), undef, undef, undef, undef, undef, undef, undef, undef, undef, undef, undef, undef, undef, undef, undef, undef, undef, undef], defers := [] }) ?assign ?body ?done ?stop
      case assign =>
        intro l x W K hK
        simp only [enR]
        gi_wp2
        exact hK
      case body =>
        rintro l pre x W ⟨⟨d0, d2, d3, hO⟩, hB⟩ _
        have HB : Hid (Below w.heap.size w W) := hB
        have HO : Hid (Out W (w.heap.size + 1) n (fun k => w.heap.size + 3 + k) (Fr.mstc (Fr.pr f) n pre)) := hO
        have HMS : Hid (Fr.mstc (Fr.pr f) n (pre ++ [x]) = Fr.mup (Fr.pr f) n (Fr.mstc (Fr.pr f) n pre) (Fr.cl n x)) := Fr.mstc_snoc _ _ _ _
        have HOK : Hid (Fr.Ok (Fr.mstc (Fr.pr f) n pre) n) := Fr.mstc_ok HP.out hn1 pre
        obtain ⟨hq1, hq2⟩ := Fr.cl_ok hn1 x
        generalize Fr.mstc (Fr.pr f) n pre = M at *
        generalize Fr.cl n x = q at *
        obtain ⟨u, v⟩ := q
        simp only at hq1 hq2 ⊢
        have hBW : (w.heap.size + 3 + n) < W.heap.size := World.block_lt_of_cell? W _ d3
        have hun : u < n := by omega
        have dR : W.cell? ⟨w.heap.size + 1, u, none⟩ = some (.slice (some ⟨w.heap.size + 3 + u, 0, none⟩) (n - u) (n - u)) := World.rowIs.cell hO.1 hun
        obtain ⟨t, ht⟩ : ∃ t, v - u = t := ⟨_, rfl⟩
        obtain ⟨r, hr⟩ : ∃ r, n - u = r := ⟨_, rfl⟩
        rw [hr] at dR
        have et : (v : Int) - (u : Int) = (t : Int) := by omega
        have hwt : IntKind.i64.wrap (t : Int) = (t : Int) := by rw [IntKind.wrap_i64]; omega
        have ht' : (t : Int) < (r : Int) := by omega
        have hu' : (u : Int) < (n : Int) := by omega
        have HTR : Hid (t < n - u) := by show _ < _; omega
        have HUT : Hid (v = u + t) := by show _ = _; omega
        clear hB hO
        have HLA : Hid (∀ W', Below w.heap.size w W' → Calls Try.prog 23 #[.slice ad n cap, .int .i64 (u : Int), .int .i64 (v : Int)] W' fun e w' => e = .returned (.int .i64 (Fr.la (Fr.pr f) (Fr.rg n) u v)) ∧ Below W'.heap.size W' w') := fun W' h => by have := around_any HS.out (HN.out ▸ HP.out) ad cap u v W' (HM.out.below h) hq1 (HN.out ▸ hq2) (HN.out ▸ hn6); rwa [HN.out] at this
        have HTW : Hid (∀ W', Out W' (w.heap.size + 1) n (fun k => w.heap.size + 3 + k) M → Calls Try.prog 24 #[.slice (some ⟨w.heap.size + 1, 0, none⟩) n n, .int .i64 (u : Int), .int .i64 (v : Int)] W' fun e w' => e = .returned (.int .i64 (Fr.lt M u v (v - u))) ∧ w' = W') := fun W' h => by
          have := two_any (outF_sq n M) (outF_ok n HOK.out) (some ⟨w.heap.size + 1, 0, none⟩) n u v W' (h.mat (by omega)) hq1 (by rw [outF_length]; exact hq2) (by rw [outF_length]; exact hn6)
          rwa [outF_length, outF_lt n M (by omega) hq2] at this
        have HMU : Hid (∀ x y, Fr.mup (Fr.pr f) n M (u, v) x y = if x = u ∧ y = u + t then min (Fr.la (Fr.pr f) (Fr.rg n) u v) (Fr.lt M u v (v - u)) else M x y) := fun x y => by
          show (if x = u ∧ y = v then _ else _) = _
          rw [HUT.out]
        generalize Fr.la (Fr.pr f) (Fr.rg n) u v = L at *
        generalize Fr.lt M u v (v - u) = T at *
        obtain ⟨m, hm⟩ : ∃ m, min L T = m := ⟨_, rfl⟩
        rw [hm] at HMU
        have hmm : m = L ∧ L ≤ T ∨ m = T ∧ T ≤ L := by omega
        clear hm
        clear ht hr
        gi_wp2
        refine regionIn_of (S := fun w' => w'.cell? ⟨w.heap.size, 0, none⟩ = some (.slice ad n cap) ∧ w'.cell? ⟨w.heap.size + 1 + 1, 0, none⟩ = some (.slice (some ⟨w.heap.size + 1, 0, none⟩) n n) ∧ w'.cell? ⟨w.heap.size + 1, u, none⟩ = some (.slice (some ⟨w.heap.size + 3 + u, 0, none⟩) r r)) (by kernel_rfl) (by kernel_rfl) ?hq ⟨d0, d2, dR⟩ (fun hHeld => ?_)
        case hq => rintro ⟨a', w', h⟩; exact h
        simp only [List.size_toArray, List.length_cons, List.length_nil, Nat.reduceAdd, Array.replicate_succ, Array.replicate_zero, List.push_toArray, List.nil_append, List.cons_append]
        refine take_first (i := 0) (d := some 36) (v := ?vz0) rfl rfl (by kernel_rfl) (by kernel_rfl) (by kernel_rfl) (fun _ _ _ h => h) (by rfl) ?hyz0 (by assumption) ?restz0
        case hyz0 => (intro w' hSw; obtain ⟨hS1, hS2, hS3⟩ := hSw; (try dsimp only at hS1 hS2 hS3); go_simp; try with_reducible rfl)
        case restz0 =>
        simp only [Act.put, List.setIfInBounds_toArray, List.set_cons_zero, List.set_cons_succ]
        refine take_first (i := 1) (d := some 37) (v := ?vz1) rfl rfl (by kernel_rfl) (by kernel_rfl) (by kernel_rfl) (fun _ _ _ h => h) (by rfl) ?hyz1 (by assumption) ?restz1
        case hyz1 => (intro w' hSw; obtain ⟨hS1, hS2, hS3⟩ := hSw; (try dsimp only at hS1 hS2 hS3); go_simp; try with_reducible rfl)
        case restz1 =>
        simp only [Act.put, List.setIfInBounds_toArray, List.set_cons_zero, List.set_cons_succ]
        refine take_first (i := 2) (d := some 38) (v := ?vz2) rfl rfl (by kernel_rfl) (by kernel_rfl) (by kernel_rfl) (fun _ _ _ h => h) (by rfl) ?hyz2 (by assumption) ?restz2
        case hyz2 => (intro w' hSw; obtain ⟨hS1, hS2, hS3⟩ := hSw; (try dsimp only at hS1 hS2 hS3); go_simp; try with_reducible rfl)
        case restz2 =>
        simp only [Act.put, List.setIfInBounds_toArray, List.set_cons_zero, List.set_cons_succ]
        refine take_first (i := 3) (d := some 39) (v := ?vz3) rfl rfl (by kernel_rfl) (by kernel_rfl) (by kernel_rfl) (fun _ _ _ h => h) (by rfl) ?hyz3 (by assumption) ?restz3
        case hyz3 => (intro w' hSw; obtain ⟨hS1, hS2, hS3⟩ := hSw; (try dsimp only at hS1 hS2 hS3); go_simp; try with_reducible rfl)
        case restz3 =>
        simp only [Act.put, List.setIfInBounds_toArray, List.set_cons_zero, List.set_cons_succ]
        refine take_first (i := 4) (d := some 40) (v := ?vz4) rfl rfl (by kernel_rfl) (by kernel_rfl) (by kernel_rfl) (fun _ _ _ h => h) (by rfl) ?hyz4 (by assumption) ?restz4
        case hyz4 => (intro w' hSw; obtain ⟨hS1, hS2, hS3⟩ := hSw; (try dsimp only at hS1 hS2 hS3); go_simp; try with_reducible rfl)
        case restz4 =>
        simp only [Act.put, List.setIfInBounds_toArray, List.set_cons_zero, List.set_cons_succ]
        refine take_first (i := 5) (d := some 41) (v := ?vz5) rfl rfl (by kernel_rfl) (by kernel_rfl) (by kernel_rfl) (fun _ _ _ h => h) (by rfl) ?hyz5 (by assumption) ?restz5
        case hyz5 => (intro w' hSw; obtain ⟨hS1, hS2, hS3⟩ := hSw; (try dsimp only at hS1 hS2 hS3); go_simp; try with_reducible rfl)
        case restz5 =>
        simp only [Act.put, List.setIfInBounds_toArray, List.set_cons_zero, List.set_cons_succ]
        refine take_first (i := 6) (d := some 42) (v := ?vz6) rfl rfl (by kernel_rfl) (by kernel_rfl) (by kernel_rfl) (fun _ _ _ h => h) (by rfl) ?hyz6 (by assumption) ?restz6
        case hyz6 => (intro w' hSw; obtain ⟨hS1, hS2, hS3⟩ := hSw; (try dsimp only at hS1 hS2 hS3); go_simp; try with_reducible rfl)
        case restz6 =>
        simp only [Act.put, List.setIfInBounds_toArray, List.set_cons_zero, List.set_cons_succ]
        refine take_first (i := 7) (d := some 43) (v := ?vz7) rfl rfl (by kernel_rfl) (by kernel_rfl) (by kernel_rfl) (fun _ _ _ h => h) (by rfl) ?hyz7 (by assumption) ?restz7
        case hyz7 => (intro w' hSw; obtain ⟨hS1, hS2, hS3⟩ := hSw; (try dsimp only at hS1 hS2 hS3); go_simp; try with_reducible rfl)
        case restz7 =>
        simp only [Act.put, List.setIfInBounds_toArray, List.set_cons_zero, List.set_cons_succ]
        refine take_first (i := 8) (d := some 44) (v := ?vz8) rfl rfl (by kernel_rfl) (by kernel_rfl) (by kernel_rfl) (fun _ _ _ h => h) (by rfl) ?hyz8 (by assumption) ?restz8
        case hyz8 => (intro w' hSw; obtain ⟨hS1, hS2, hS3⟩ := hSw; (try dsimp only at hS1 hS2 hS3); go_simp; try with_reducible rfl)
        case restz8 =>
        simp only [Act.put, List.setIfInBounds_toArray, List.set_cons_zero, List.set_cons_succ]
        refine take_first (i := 9) (d := some 45) (v := ?vz9) rfl rfl (by kernel_rfl) (by kernel_rfl) (by kernel_rfl) (fun _ _ _ h => h) (by rfl) ?hyz9 (by assumption) ?restz9
        case hyz9 => (intro w' hSw; obtain ⟨hS1, hS2, hS3⟩ := hSw; (try dsimp only at hS1 hS2 hS3); go_simp; try with_reducible rfl)
        case restz9 =>
        simp only [Act.put, List.setIfInBounds_toArray, List.set_cons_zero, List.set_cons_succ]
        refine take_first (i := 11) (d := some 47) (v := ?vz11) rfl rfl (by kernel_rfl) (by kernel_rfl) (by kernel_rfl) (fun _ _ _ h => h) (by rfl) ?hyz11 (by assumption) ?restz11
        case hyz11 => (intro w' hSw; obtain ⟨hS1, hS2, hS3⟩ := hSw; (try dsimp only at hS1 hS2 hS3); go_simp; try with_reducible rfl)
        case restz11 =>
        simp only [Act.put, List.setIfInBounds_toArray, List.set_cons_zero, List.set_cons_succ]
        refine take_first (i := 12) (d := some 48) (v := ?vz12) rfl rfl (by kernel_rfl) (by kernel_rfl) (by kernel_rfl) (fun _ _ _ h => h) (by rfl) ?hyz12 (by assumption) ?restz12
        case hyz12 => (intro w' hSw; obtain ⟨hS1, hS2, hS3⟩ := hSw; (try dsimp only at hS1 hS2 hS3); go_simp; try with_reducible rfl)
        case restz12 =>
        simp only [Act.put, List.setIfInBounds_toArray, List.set_cons_zero, List.set_cons_succ]
        refine take_first (i := 13) (d := some 49) (v := ?vz13) rfl rfl (by kernel_rfl) (by kernel_rfl) (by kernel_rfl) (fun _ _ _ h => h) (by rfl) ?hyz13 (by assumption) ?restz13
        case hyz13 => (intro w' hSw; obtain ⟨hS1, hS2, hS3⟩ := hSw; (try dsimp only at hS1 hS2 hS3); go_simp; try with_reducible rfl)
        case restz13 =>
        simp only [Act.put, List.setIfInBounds_toArray, List.set_cons_zero, List.set_cons_succ]
        refine step_only (i := 10) rfl (by kernel_rfl) (by rfl) ?_
        refine op_call (d := some 46) rfl (by go_simp; try with_reducible rfl) (HLA.out W.drew HB.out.drew) ?_
        rintro e W2 ⟨rfl, hb2⟩
        have hB2 : Below w.heap.size w W2 := below_on HB.out.drew (Nat.le_refl _) hb2
        have HO2 : Hid (Out W2 (w.heap.size + 1) n (fun k => w.heap.size + 3 + k) M) := Out.below (w := W.drew) HO.out hb2
        have hHeld2 : W2.cell? ⟨w.heap.size, 0, none⟩ = some (.slice ad n cap) ∧ W2.cell? ⟨w.heap.size + 1 + 1, 0, none⟩ = some (.slice (some ⟨w.heap.size + 1, 0, none⟩) n n) ∧ W2.cell? ⟨w.heap.size + 1, u, none⟩ = some (.slice (some ⟨w.heap.size + 3 + u, 0, none⟩) r r) :=
          ⟨(hb2.cell (p := ⟨w.heap.size, 0, none⟩) (by show w.heap.size < W.heap.size; omega)).trans d0, (hb2.cell (p := ⟨w.heap.size + 1 + 1, 0, none⟩) (by show w.heap.size + 1 + 1 < W.heap.size; omega)).trans d2, (hb2.cell (p := ⟨w.heap.size + 1, u, none⟩) (by show w.heap.size + 1 < W.heap.size; omega)).trans dR⟩
        have e3 : W2.cell? ⟨w.heap.size + 3 + n, 0, none⟩ = some (.int .i64 (n : Int)) := (hb2.cell (p := ⟨w.heap.size + 3 + n, 0, none⟩) hBW).trans d3
        have cS : W2.cell? ⟨w.heap.size + 3 + u, t, none⟩ = some (.int .i64 (M u (u + t))) := (HO2.out.2 u hun).cell HTR.out
        have fS : W2.frozen? ⟨w.heap.size + 3 + u, t, none⟩ = false := (HO2.out.2 u hun).frozen t
        refine ⟨_, rfl, hHeld2, ?_⟩
        simp only [Act.put, List.setIfInBounds_toArray, List.set_cons_zero, List.set_cons_succ]
        refine step_only (i := 14) rfl (by kernel_rfl) (by rfl) ?_
        refine op_call (d := some 50) rfl (by go_simp; try with_reducible rfl) (HTW.out W2 HO2.out) ?_
        rintro e w3 ⟨rfl, h3⟩
        rw [show w3 = W2 from h3]
        clear h3 w3
        refine ⟨_, rfl, hHeld2, ?_⟩
        simp only [Act.put, List.setIfInBounds_toArray, List.set_cons_zero, List.set_cons_succ]
        refine step_only (i := 15) rfl (by kernel_rfl) (by rfl) ?_
        refine op_value (d := some 51) (v := .int .i64 m) (w' := W2) rfl (by rcases hmm with ⟨e, hmin⟩ | ⟨e, hmin⟩ <;> subst e <;> (go_simp; first | done | (intros; omega))) ?_
        refine ⟨hHeld2, ?_⟩
        simp only [Act.put, List.setIfInBounds_toArray, List.set_cons_zero, List.set_cons_succ]
        refine step_only (i := 16) rfl (by kernel_rfl) (by rfl) ?_
        refine op_value (d := some 52) (v := .pointer (some ⟨w.heap.size + 3 + u, t, none⟩)) (w' := W2) rfl (by go_simp; try with_reducible rfl) ?_
        refine ⟨hHeld2, ?_⟩
        simp only [Act.put, List.setIfInBounds_toArray, List.set_cons_zero, List.set_cons_succ]
        refine step_only (i := 17) rfl (by kernel_rfl) (by rfl) ?_
        refine op_skip (d := none) (w' := W2.setCell ⟨w.heap.size + 3 + u, t, none⟩ (.int .i64 m)) rfl (by go_simp; try with_reducible rfl) ?_
        have far : ∀ b o v', b < w.heap.size + 3 → W2.cell? ⟨b, o, none⟩ = some v' → (W2.setCell ⟨w.heap.size + 3 + u, t, none⟩ (.int .i64 m)).cell? ⟨b, o, none⟩ = some v' := fun b o v' hb h => by
          rw [World.cell?_setCell_far _ _ _ _ (by show w.heap.size + 3 + u ≠ b; omega)]
          exact h
        refine ⟨⟨far _ _ _ (by omega) hHeld2.1, far _ _ _ (by omega) hHeld2.2.1, far _ _ _ (by omega) hHeld2.2.2⟩, ?_⟩
        refine wpAnyH_done (by kernel_rfl) ?_ _
        refine ⟨((KeepsOthers.drew W).trans (others_of_below hb2)).trans (KeepsOthers.setCell _ _ _), ?_, ⟨far _ _ _ (by omega) hHeld2.1, far _ _ _ (by omega) hHeld2.2.1, ?_, ?_⟩, hB2.setCell (p := ⟨w.heap.size + 3 + u, t, none⟩) (by show w.heap.size ≤ w.heap.size + 3 + u; omega) _⟩
        · exact (heap_setCell_other W2 ⟨w.heap.size + 3 + u, t, none⟩ (w.heap.size + 3 + n) _ (by first | (show w.heap.size + 3 + n ≠ w.heap.size + 3 + u; omega) | (show w.heap.size + 3 + u ≠ w.heap.size + 3 + n; omega))).trans (hb2.block (w.heap.size + 3 + n) hBW)
        · rw [World.cell?_setCell_far _ _ _ _ (by show w.heap.size + 3 + u ≠ (w.heap.size + 3 + n); omega)]
          exact e3
        · rw [HMS.out]
          exact (HO2.out.set (fun k _ => by omega) (fun j k _ _ e => by omega) hun m).congr fun x y _ _ => (HMU.out x y).symm
      case done =>
        rintro D ys W hD rfl ⟨⟨_, hc, _, hO⟩, hB⟩ hK
        gi_wp2
        refine ⟨by simp, .inl ⟨_, _, rfl, run_takeDeferred hK, ?_⟩⟩
        refine ⟨.tuple #[.slice (some ⟨w.heap.size + 1, 0, none⟩) n n, .int .i64 0], ?_, rfl, ?_, hB.trans (belowK_b (w := w) (Nat.le_refl _) W D _ _ (by omega) hK rfl rfl)⟩
        · simp [results, Try.f16, go_sem]
        · exact (hO.kept (grownBy_putObj' W D (.deferred none)) (fun r e => by cases e; exact ⟨_, hK, rfl⟩)).congr fun x y h1 h2 => Fr.mstc_rg HP.out x y h1 h2
      case stop =>
        rintro D c pre W _ _ h _
        exact h.elim
set_option maxRecDepth 100000 in
set_option maxHeartbeats 800000 in
theorem mend_bad {f : List (List Int)} (ad : Option Addr) (cap : Nat) (w : World) (hl : f.length ≤ maxLen) (hm : Mat w ad f) (hc : Fr.chk f ≠ 0) :
    Calls Try.prog 16 #[.slice ad f.length cap] w fun e w' => e = .returned (.tuple #[.slice none 0 0, .int .i64 (Fr.chk f)]) ∧ Below w.heap.size w w' := by
  have C := fcheck_any f ad cap _ hl (hm.below (below_box w (.cells #[.slice ad f.length cap] 23)))
  clear hm hl
  obtain ⟨n, hn⟩ : ∃ n, f.length = n := ⟨_, rfl⟩
  rw [hn] at C ⊢
  generalize Fr.chk f = c at *
  have hc' : (c != 0) = true := by simpa using hc
  clear hn
  go_enter Try.func16, Try.ntmps16
  go_wp2_with (go_at_call 14; refine C.mono ?_; rintro e w1 ⟨rfl, rfl⟩)
  go_ret2
  exact ⟨rfl, below_box w _⟩
end Go.Proofs.Ytcaibonnkfhkmaa
