/- The walk of package fare: are fares fair. -/
import Derived.Test.YtcaibonnkfhkmaaFLa
import Derived.Test.YtcaibonnkfhkmaaFCk
namespace Go.Proofs.Ytcaibonnkfhkmaa
open Go.RowKit Go.Shelf
attribute [local go_sem] Oper.semAt_some

namespace Fr
/-- fair, as it is asked, range by range -/
def fb1 (P : Pr) (n : Nat) (q : Nat × Nat) : Bool := decide (P q.1 q.2 ≤ min (la P (rg n) q.1 q.2) (lt P q.1 q.2 (q.2 - q.1)))
def fb (P : Pr) (n : Nat) : Bool := (rg n).all (fb1 P n)
theorem fb_iff {P : Pr} {n : Nat} (hP : Ok P n) : fb P n = true ↔ Fair P n := by
  rw [fair_iff hP]
  unfold fb fb1 FairAt
  rw [List.all_eq_true]
  simp
theorem rg_cl (n : Nat) : (rg n).map (cl n) = rg n := by
  conv => rhs; rw [← List.map_id (rg n)]
  apply List.map_congr_left
  rintro ⟨x, y⟩ h
  exact cl_id ((mem_rg n x y).1 h)
/-- of ranges that are ones -/
def fbc (P : Pr) (n : Nat) (l : List (Nat × Nat)) : Bool := (l.map (cl n)).all (fb1 P n)
theorem fbc_snoc (P : Pr) (n : Nat) (l : List (Nat × Nat)) (q : Nat × Nat) : fbc P n (l ++ [q]) = (fbc P n l && fb1 P n (cl n q)) := by unfold fbc; simp
theorem fbc_rg (P : Pr) (n : Nat) : fbc P n (rg n) = fb P n := by unfold fbc fb; rw [rg_cl]
theorem fbc_pre {P : Pr} {n : Nat} {l : List (Nat × Nat)} (h : l <+: rg n) (hf : fbc P n l = false) : fb P n = false := by
  obtain ⟨t, ht⟩ := h
  rw [← fbc_rg, ← ht]
  unfold fbc at hf ⊢
  rw [List.map_append, List.all_append, hf]
  rfl
end Fr
theorem others_of_below {W W' : World} (h : Below W.heap.size W W') : KeepsOthers W W' :=
  ⟨h.size, fun k o hk _ => by rw [h.block k (Array.getElem?_eq_some_iff.1 hk).1]; exact hk⟩
theorem kb_of_below {W W' : World} {B : Nat} (h : Below W.heap.size W W') (hB : B < W.heap.size) : KB B W W' := h.block B hB
theorem far_cell2 {W : World} {b b' : Nat} {v : Value} (h : W.cell? ⟨b, 0, none⟩ = some v) (hne : b ≠ b') (u : Value) : (W.setCell ⟨b', 0, none⟩ u).cell? ⟨b, 0, none⟩ = some v := by
  rw [World.cell?_setCell_far _ _ _ _ (by simpa using Ne.symm hne)]
  exact h
theorem four_boxes (w W0 : World) (v0 v1 v2 v3 : Value) (t0 t1 t2 t3 : TypeId) (h : (((w.alloc (.cells #[v0] t0)).alloc (.cells #[v1] t1)).alloc (.cells #[v2] t2)).alloc (.cells #[v3] t3) = W0) :
    W0.heap.size = w.heap.size + 4 ∧ W0.cell? ⟨w.heap.size, 0, none⟩ = some v0 ∧ W0.cell? ⟨w.heap.size + 1, 0, none⟩ = some v1 ∧ W0.frozen? ⟨w.heap.size + 1, 0, none⟩ = false ∧ W0.cell? ⟨w.heap.size + 2, 0, none⟩ = some v2 ∧ W0.frozen? ⟨w.heap.size + 2, 0, none⟩ = false ∧ W0.cell? ⟨w.heap.size + 3, 0, none⟩ = some v3 := by
  have s0 := cell_new_l w v0 t0
  have s1 := cell_new_l (w.alloc (.cells #[v0] t0)) v1 t1
  have s2 := cell_new_l ((w.alloc (.cells #[v0] t0)).alloc (.cells #[v1] t1)) v2 t2
  have s3 := cell_new_l (((w.alloc (.cells #[v0] t0)).alloc (.cells #[v1] t1)).alloc (.cells #[v2] t2)) v3 t3
  simp only [World.size_alloc] at s1 s2 s3
  subst h
  exact ⟨by simp, cell_alloc_l _ (cell_alloc_l _ (cell_alloc_l _ s0.1)), cell_alloc_l _ (cell_alloc_l _ s1.1), frozen_alloc_l _ (cell_alloc_l _ s1.1) (frozen_alloc_l _ s1.1 s1.2), cell_alloc_l _ s2.1, frozen_alloc_l _ s2.1 s2.2, s3.1⟩
set_option maxRecDepth 100000 in
set_option maxHeartbeats 800000 in
theorem fair_bad {f : List (List Int)} (ad : Option Addr) (cap : Nat) (w : World) (hl : f.length ≤ maxLen) (hm : Mat w ad f) (hc : Fr.chk f ≠ 0) :
    Calls Try.prog 9 #[.slice ad f.length cap] w fun e w' => e = .returned (.tuple #[.bool false, .int .i64 (Fr.chk f)]) ∧ Below w.heap.size w w' := by
  have hm0 : Mat (((w.alloc (.cells #[.slice ad f.length cap] 23)).alloc (.cells #[.bool false] 4)).alloc (.cells #[.int .i64 0] 24)) ad f := hm.below (((below_box w _).alloc (by simp) _).alloc (by simp; omega) _)
  have hB0 : Below w.heap.size w (((w.alloc (.cells #[.slice ad f.length cap] 23)).alloc (.cells #[.bool false] 4)).alloc (.cells #[.int .i64 0] 24)) := ((below_box w _).alloc (by simp) _).alloc (by simp; omega) _
  have HB0 : Hid (_) := hB0
  have C := fcheck_any f ad cap _ hl hm0
  clear hm hm0 hB0 hl
  obtain ⟨n, hn⟩ : ∃ n, f.length = n := ⟨_, rfl⟩
  rw [hn] at C HB0 ⊢
  generalize Fr.chk f = c at *
  have hc' : (c != 0) = true := by simpa using hc
  clear hn
  go_enter Try.func9, Try.ntmps9
  go_wp2_with (go_at_call 14; refine C.mono ?_; rintro e w1 ⟨rfl, rfl⟩)
  refine bodyPost_ret (v := .tuple #[.bool false, .int .i64 c]) ?_ rfl ?_
  · simp [results, Try.f9, go_sem]
  · exact ⟨rfl, ((below_box w _).alloc (by simp) _).alloc (by simp; omega) _⟩
set_option maxRecDepth 100000 in
set_option maxHeartbeats 2000000 in
theorem fair_ok {f : List (List Int)} (ad : Option Addr) (cap : Nat) (w : World) (hl : f.length ≤ maxLen) (hm : Mat w ad f) (hc : Fr.chk f = 0) :
    Calls Try.prog 9 #[.slice ad f.length cap] w fun e w' => e = .returned (.tuple #[.bool (Fr.fb (Fr.pr f) f.length), .int .i64 0]) ∧ Below w.heap.size w w' := by
  obtain ⟨hn1, hn6, hs, hP⟩ := Fr.chk_zero hc
  have hm0 : Mat (((w.alloc (.cells #[.slice ad f.length cap] 23)).alloc (.cells #[.bool false] 4)).alloc (.cells #[.int .i64 0] 24)) ad f := hm.below (((below_box w _).alloc (by simp) _).alloc (by simp; omega) _)
  have hB0 : Below w.heap.size w (((w.alloc (.cells #[.slice ad f.length cap] 23)).alloc (.cells #[.bool false] 4)).alloc (.cells #[.int .i64 0] 24)) := ((below_box w _).alloc (by simp) _).alloc (by simp; omega) _
  have HB0 : Hid (_) := hB0
  have C := fcheck_any f ad cap _ hl hm0
  rw [hc] at C
  have HS : Hid (Sq f) := hs
  have HP : Hid (Fr.Ok (Fr.pr f) f.length) := hP
  have HM : Hid (Mat w ad f) := hm
  obtain ⟨n, hn⟩ : ∃ n, f.length = n := ⟨_, rfl⟩
  have HN : Hid (f.length = n) := hn
  rw [hn] at hn1 hn6 HP HB0 C ⊢
  clear hs hP hm hn hm0 hB0 hc hl
  refine (callsIn_wide (n := 2)).1 ?_
  refine callsIn_of_wp_marks Try.func9 rfl trivial ?_ rfl
  simp only [Try.ntmps9, List.size_toArray, List.length_cons, List.length_nil, Nat.reduceAdd, Nat.reduceSub, Array.replicate_succ, Array.replicate_zero, List.push_toArray, List.append_toArray, List.nil_append, List.cons_append]
  have : Fence.wide.fn 14 := trivial
  have : Fence.wide.fn 21 := trivial
  gi_wp2_with (first
    | (gi_at_call 14; refine (callsIn_wide.2 C).mono ?_; rintro e w' ⟨rfl, rfl⟩)
    | (gi_at_call 21; refine (callsIn_wide.2 (ranges_in n _)).mono ?_; rintro e w' ⟨rfl, rfl⟩))
  clear C
  obtain ⟨W0, hW0⟩ : ∃ W0, (((w.alloc (.cells #[.slice ad n cap] 23)).alloc (.cells #[.bool false] 4)).alloc (.cells #[.int .i64 0] 24)).alloc (.cells #[.int .i64 (n : Int)] 3) = W0 := ⟨_, rfl⟩
  obtain ⟨z0, c0, c1, f1, c2, f2, c3⟩ := four_boxes w W0 (.slice ad n cap) (.bool false) (.int .i64 0) (.int .i64 (n : Int)) _ _ _ _ hW0
  have B0 : Below w.heap.size w W0 := by rw [← hW0]; exact HB0.out.alloc HB0.out.size _
  rw [hW0]
  clear hW0
  refine wpIn_rangeFunc_ownF (n := 2) rfl (by omega) (gf := 29) (lb := #[.pointer (some ⟨w.heap.size + 1 + 1 + 1, 0, none⟩)]) rfl trivial (enters_of Try.func29 (by kernel_rfl) rfl)
    (ranges_stops n (w.heap.size + 3) W0 hn6 (by omega) c3) KB.trans (KB.put (by omega)) (Below.refl _ _) (fun _ => rfl)
    (fun pre W => (Fr.fbc (Fr.pr f) n pre = true ∧ W.cell? ⟨w.heap.size, 0, none⟩ = some (.slice ad n cap) ∧ W.cell? ⟨w.heap.size + 1, 0, none⟩ = some (.bool false) ∧ W.frozen? ⟨w.heap.size + 1, 0, none⟩ = false ∧ W.cell? ⟨w.heap.size + 2, 0, none⟩ = some (.int .i64 0) ∧ W.frozen? ⟨w.heap.size + 2, 0, none⟩ = false ∧ W.cell? ⟨w.heap.size + 3, 0, none⟩ = some (.int .i64 (n : Int))) ∧ Below w.heap.size w W)
    (fun c pre W => (c = .ret ∧ Fr.fbc (Fr.pr f) n pre = false ∧ W.cell? ⟨w.heap.size + 1, 0, none⟩ = some (.bool false) ∧ W.cell? ⟨w.heap.size + 2, 0, none⟩ = some (.int .i64 0)) ∧ Below w.heap.size w W)
    (OwnFrom.and (Own.from (fun s A B row hs hg hr => ⟨hs.1, cell_kept hs.2.1 hg hr, cell_kept hs.2.2.1 hg hr, (frozen_kept hs.2.2.1 hg hr).trans hs.2.2.2.1, cell_kept hs.2.2.2.2.1 hg hr, (frozen_kept hs.2.2.2.2.1 hg hr).trans hs.2.2.2.2.2.1, cell_kept hs.2.2.2.2.2.2 hg hr⟩) _) (ownFrom_below (Nat.le_refl _) (by omega)))
    (fun c => OwnFrom.and (Own.from (fun s A B row hs hg hr => ⟨hs.1, hs.2.1, cell_kept hs.2.2.1 hg hr, cell_kept hs.2.2.2 hg hr⟩) _) (ownFrom_below (Nat.le_refl _) (by omega)))
    ⟨⟨rfl, c0, c1, f1, c2, f2, c3⟩, B0⟩
    (fun x => { tmps := #[.slice ad n cap, .pointer (some ⟨w.heap.size, 0, none⟩), .pointer (some ⟨w.heap.size + 1, 0, none⟩), .pointer (some ⟨w.heap.size + 1 + 1, 0, none⟩), .int .i64 0, .int .i64 ((Fr.cl n x).1 : Int), .int .i64 ((Fr.cl n x).2 : Int), .slice ad n cap, .int .i64 0, .int .i64 0, .bool false, undef, .slice ad n cap, .int .i64 (n : Int), .func (.func 29) #[] #[.pointer (some ⟨w.heap.size + 1 + 1 + 1, 0, none⟩)], .int .i64 ((Fr.cl n x).1 : Int), .int .i64 ((Fr.cl n x).2 : Int), undef, undef, undef, undef, undef, undef, undef, undef, undef, undef, undef, undef, undef, undef], defers := [] }) ?assign ?body ?done ?stop
  case assign =>
    intro l x W K hK
    simp only [enR]
    gi_wp2
    exact hK
  case body =>
    rintro l pre x W ⟨⟨hf, d0, d1, g1, d2, g2, d3⟩, hB⟩ _
    have HB : Hid (Below w.heap.size w W) := hB
    have HL := Fr.fbc_snoc (Fr.pr f) n pre x
    rw [hf, Bool.true_and] at HL
    obtain ⟨hq1, hq2⟩ := Fr.cl_ok (by omega : 1 ≤ n) x
    have HF : Hid (Fr.fbc (Fr.pr f) n (pre ++ [x]) = Fr.fb1 (Fr.pr f) n (Fr.cl n x)) := HL
    clear HL hf
    generalize Fr.cl n x = q at *
    obtain ⟨u, v⟩ := q
    simp only at hq1 hq2 ⊢
    have hBW : w.heap.size + 3 < W.heap.size := World.block_lt_of_cell? W _ d3
    clear hB
    have HPR : Hid (∀ W', Below w.heap.size w W' → Calls Try.prog 22 #[.slice ad n cap, .int .i64 (u : Int), .int .i64 (v : Int)] W' fun e w' => e = .returned (.int .i64 (Fr.pr f u v)) ∧ w' = W') := fun W' h => price_at HS.out ad cap n u v (u : Int) (v : Int) W' HN.out rfl rfl (HM.out.below h) hq1 hq2
    have HLA : Hid (∀ W', Below w.heap.size w W' → Calls Try.prog 23 #[.slice ad n cap, .int .i64 (u : Int), .int .i64 (v : Int)] W' fun e w' => e = .returned (.int .i64 (Fr.la (Fr.pr f) (Fr.rg n) u v)) ∧ Below W'.heap.size W' w') := fun W' h => by have := around_any HS.out (HN.out ▸ HP.out) ad cap u v W' (HM.out.below h) hq1 (HN.out ▸ hq2) (HN.out ▸ hn6); rwa [HN.out] at this
    have HTW : Hid (∀ W', Below w.heap.size w W' → Calls Try.prog 24 #[.slice ad n cap, .int .i64 (u : Int), .int .i64 (v : Int)] W' fun e w' => e = .returned (.int .i64 (Fr.lt (Fr.pr f) u v (v - u))) ∧ w' = W') := fun W' h => by have := two_any HS.out (HN.out ▸ HP.out) ad cap u v W' (HM.out.below h) hq1 (HN.out ▸ hq2) (HN.out ▸ hn6); rwa [HN.out] at this
    have HFB : Hid (Fr.fb1 (Fr.pr f) n (u, v) = decide (Fr.pr f u v ≤ min (Fr.la (Fr.pr f) (Fr.rg n) u v) (Fr.lt (Fr.pr f) u v (v - u)))) := rfl
    generalize Fr.pr f u v = p at *
    generalize Fr.la (Fr.pr f) (Fr.rg n) u v = L at *
    generalize Fr.lt (Fr.pr f) u v (v - u) = T at *
    obtain ⟨m, hm⟩ : ∃ m, min L T = m := ⟨_, rfl⟩
    rw [hm] at HFB
    have hmm : m = L ∧ L ≤ T ∨ m = T ∧ T ≤ L := by omega
    clear hm
    by_cases hp : m < p
    · have hp' : decide (m < p) = true := by simpa using hp
      have HR : Hid (Fr.fbc (Fr.pr f) n (pre ++ [x]) = false) := by show _ = _; rw [HF.out, HFB.out]; simpa using hp
      gi_wp2
      refine regionIn_of (S := fun w' => w'.cell? ⟨w.heap.size, 0, none⟩ = some (.slice ad n cap)) (by kernel_rfl) (by kernel_rfl) ?hq d0 (fun hHeld => ?_)
      case hq => rintro ⟨a', w', h⟩; exact h
      simp only [List.size_toArray, List.length_cons, List.length_nil, Nat.reduceAdd, Array.replicate_succ, Array.replicate_zero, List.push_toArray, List.nil_append, List.cons_append]
      refine take_first (i := 0) (d := some 17) (v := ?v0) rfl rfl (by kernel_rfl) (by kernel_rfl) (by kernel_rfl) (fun _ _ _ h => h) (by rfl) ?hy0 (by assumption) ?rest0
      case hy0 => (intro w' hSw; (try dsimp only at hSw); go_simp; try with_reducible rfl)
      case rest0 =>
      simp only [Act.put, List.setIfInBounds_toArray, List.set_cons_zero, List.set_cons_succ]
      refine take_first (i := 1) (d := some 18) (v := ?v1) rfl rfl (by kernel_rfl) (by kernel_rfl) (by kernel_rfl) (fun _ _ _ h => h) (by rfl) ?hy1 (by assumption) ?rest1
      case hy1 => (intro w' hSw; (try dsimp only at hSw); go_simp; try with_reducible rfl)
      case rest1 =>
      simp only [Act.put, List.setIfInBounds_toArray, List.set_cons_zero, List.set_cons_succ]
      refine take_first (i := 2) (d := some 19) (v := ?v2) rfl rfl (by kernel_rfl) (by kernel_rfl) (by kernel_rfl) (fun _ _ _ h => h) (by rfl) ?hy2 (by assumption) ?rest2
      case hy2 => (intro w' hSw; (try dsimp only at hSw); go_simp; try with_reducible rfl)
      case rest2 =>
      simp only [Act.put, List.setIfInBounds_toArray, List.set_cons_zero, List.set_cons_succ]
      refine take_first (i := 4) (d := some 21) (v := ?v4) rfl rfl (by kernel_rfl) (by kernel_rfl) (by kernel_rfl) (fun _ _ _ h => h) (by rfl) ?hy4 (by assumption) ?rest4
      case hy4 => (intro w' hSw; (try dsimp only at hSw); go_simp; try with_reducible rfl)
      case rest4 =>
      simp only [Act.put, List.setIfInBounds_toArray, List.set_cons_zero, List.set_cons_succ]
      refine take_first (i := 5) (d := some 22) (v := ?v5) rfl rfl (by kernel_rfl) (by kernel_rfl) (by kernel_rfl) (fun _ _ _ h => h) (by rfl) ?hy5 (by assumption) ?rest5
      case hy5 => (intro w' hSw; (try dsimp only at hSw); go_simp; try with_reducible rfl)
      case rest5 =>
      simp only [Act.put, List.setIfInBounds_toArray, List.set_cons_zero, List.set_cons_succ]
      refine take_first (i := 6) (d := some 23) (v := ?v6) rfl rfl (by kernel_rfl) (by kernel_rfl) (by kernel_rfl) (fun _ _ _ h => h) (by rfl) ?hy6 (by assumption) ?rest6
      case hy6 => (intro w' hSw; (try dsimp only at hSw); go_simp; try with_reducible rfl)
      case rest6 =>
      simp only [Act.put, List.setIfInBounds_toArray, List.set_cons_zero, List.set_cons_succ]
      refine take_first (i := 8) (d := some 25) (v := ?v8) rfl rfl (by kernel_rfl) (by kernel_rfl) (by kernel_rfl) (fun _ _ _ h => h) (by rfl) ?hy8 (by assumption) ?rest8
      case hy8 => (intro w' hSw; (try dsimp only at hSw); go_simp; try with_reducible rfl)
      case rest8 =>
      simp only [Act.put, List.setIfInBounds_toArray, List.set_cons_zero, List.set_cons_succ]
      refine take_first (i := 9) (d := some 26) (v := ?v9) rfl rfl (by kernel_rfl) (by kernel_rfl) (by kernel_rfl) (fun _ _ _ h => h) (by rfl) ?hy9 (by assumption) ?rest9
      case hy9 => (intro w' hSw; (try dsimp only at hSw); go_simp; try with_reducible rfl)
      case rest9 =>
      simp only [Act.put, List.setIfInBounds_toArray, List.set_cons_zero, List.set_cons_succ]
      refine take_first (i := 10) (d := some 27) (v := ?v10) rfl rfl (by kernel_rfl) (by kernel_rfl) (by kernel_rfl) (fun _ _ _ h => h) (by rfl) ?hy10 (by assumption) ?rest10
      case hy10 => (intro w' hSw; (try dsimp only at hSw); go_simp; try with_reducible rfl)
      case rest10 =>
      simp only [Act.put, List.setIfInBounds_toArray, List.set_cons_zero, List.set_cons_succ]
      refine step_only (i := 3) rfl (by kernel_rfl) (by rfl) ?_
      refine op_call (d := some 20) rfl (by go_simp; try with_reducible rfl) (HPR.out W.drew HB.out.drew) ?_
      rintro e w' ⟨rfl, rfl⟩
      refine ⟨_, rfl, hHeld, ?_⟩
      simp only [Act.put, List.setIfInBounds_toArray, List.set_cons_zero, List.set_cons_succ]
      refine step_only (i := 7) rfl (by kernel_rfl) (by rfl) ?_
      refine op_call (d := some 24) rfl (by go_simp; try with_reducible rfl) (HLA.out W.drew HB.out.drew) ?_
      rintro e W2 ⟨rfl, hb2⟩
      have hB2 : Below w.heap.size w W2 := below_on HB.out.drew (Nat.le_refl _) hb2
      have hHeld2 : W2.cell? ⟨w.heap.size, 0, none⟩ = some (.slice ad n cap) := (hb2.cell (p := ⟨w.heap.size, 0, none⟩) (by show w.heap.size < W.heap.size; omega)).trans hHeld
      have e1 : W2.cell? ⟨w.heap.size + 1, 0, none⟩ = some (.bool false) := (hb2.cell (p := ⟨w.heap.size + 1, 0, none⟩) (by show w.heap.size + 1 < W.heap.size; omega)).trans d1
      have g1' : W2.frozen? ⟨w.heap.size + 1, 0, none⟩ = false := (hb2.frozen (p := ⟨w.heap.size + 1, 0, none⟩) (by show w.heap.size + 1 < W.heap.size; omega)).trans g1
      have e2 : W2.cell? ⟨w.heap.size + 1 + 1, 0, none⟩ = some (.int .i64 0) := (hb2.cell (p := ⟨w.heap.size + 2, 0, none⟩) (by show w.heap.size + 2 < W.heap.size; omega)).trans d2
      have g2' : W2.frozen? ⟨w.heap.size + 1 + 1, 0, none⟩ = false := (hb2.frozen (p := ⟨w.heap.size + 2, 0, none⟩) (by show w.heap.size + 2 < W.heap.size; omega)).trans g2
      refine ⟨_, rfl, hHeld2, ?_⟩
      simp only [Act.put, List.setIfInBounds_toArray, List.set_cons_zero, List.set_cons_succ]
      refine step_only (i := 11) rfl (by kernel_rfl) (by rfl) ?_
      refine op_call (d := some 28) rfl (by go_simp; try with_reducible rfl) (HTW.out W2 hB2) ?_
      rintro e w3 ⟨rfl, h3⟩
      rw [show w3 = W2 from h3]
      clear h3 w3
      refine ⟨_, rfl, hHeld2, ?_⟩
      simp only [Act.put, List.setIfInBounds_toArray, List.set_cons_zero, List.set_cons_succ]
      refine step_only (i := 12) rfl (by kernel_rfl) (by rfl) ?_
      refine op_value (d := some 29) (v := .int .i64 m) (w' := W2) rfl (by rcases hmm with ⟨e, hmin⟩ | ⟨e, hmin⟩ <;> subst e <;> (go_simp; first | done | (intros; omega))) ?_
      refine ⟨hHeld2, ?_⟩
      simp only [Act.put, List.setIfInBounds_toArray, List.set_cons_zero, List.set_cons_succ]
      refine step_only (i := 13) rfl (by kernel_rfl) (by rfl) ?_
      refine op_value (d := some 30) (v := .bool true) (w' := W2) rfl (by go_simp; try with_reducible rfl) ?_
      refine ⟨hHeld2, ?_⟩
      simp only [Act.put, List.setIfInBounds_toArray, List.set_cons_zero, List.set_cons_succ]
      refine wpAnyH_done (by kernel_rfl) ?_ _
      have hO : KeepsOthers W W2 := (KeepsOthers.drew W).trans (others_of_below hb2)
      gi_wp2
      refine ⟨hO.trans ((KeepsOthers.setCell _ _ _).trans (KeepsOthers.setCell _ _ _)), ⟨rfl, HR.out, ?_, ?_⟩, (hB2.setCell (p := ⟨w.heap.size + 1, 0, none⟩) (by simp) _).setCell (p := ⟨w.heap.size + 1 + 1, 0, none⟩) (by simp; omega) _⟩
      · exact far_cell2 (World.cell?_setCell_same' _ _ _ (by rw [e1]; rfl)) (by omega) _
      · exact World.cell?_setCell_same' _ _ _ (by rw [far_cell2 e2 (by omega)]; rfl)
    · have hp' : decide (m < p) = false := by simpa using hp
      have HR : Hid (Fr.fbc (Fr.pr f) n (pre ++ [x]) = true) := by show _ = _; rw [HF.out, HFB.out]; simpa using hp
      gi_wp2
      refine regionIn_of (S := fun w' => w'.cell? ⟨w.heap.size, 0, none⟩ = some (.slice ad n cap)) (by kernel_rfl) (by kernel_rfl) ?hq d0 (fun hHeld => ?_)
      case hq => rintro ⟨a', w', h⟩; exact h
      simp only [List.size_toArray, List.length_cons, List.length_nil, Nat.reduceAdd, Array.replicate_succ, Array.replicate_zero, List.push_toArray, List.nil_append, List.cons_append]
      refine take_first (i := 0) (d := some 17) (v := ?v0) rfl rfl (by kernel_rfl) (by kernel_rfl) (by kernel_rfl) (fun _ _ _ h => h) (by rfl) ?hy0 (by assumption) ?rest0
      case hy0 => (intro w' hSw; (try dsimp only at hSw); go_simp; try with_reducible rfl)
      case rest0 =>
      simp only [Act.put, List.setIfInBounds_toArray, List.set_cons_zero, List.set_cons_succ]
      refine take_first (i := 1) (d := some 18) (v := ?v1) rfl rfl (by kernel_rfl) (by kernel_rfl) (by kernel_rfl) (fun _ _ _ h => h) (by rfl) ?hy1 (by assumption) ?rest1
      case hy1 => (intro w' hSw; (try dsimp only at hSw); go_simp; try with_reducible rfl)
      case rest1 =>
      simp only [Act.put, List.setIfInBounds_toArray, List.set_cons_zero, List.set_cons_succ]
      refine take_first (i := 2) (d := some 19) (v := ?v2) rfl rfl (by kernel_rfl) (by kernel_rfl) (by kernel_rfl) (fun _ _ _ h => h) (by rfl) ?hy2 (by assumption) ?rest2
      case hy2 => (intro w' hSw; (try dsimp only at hSw); go_simp; try with_reducible rfl)
      case rest2 =>
      simp only [Act.put, List.setIfInBounds_toArray, List.set_cons_zero, List.set_cons_succ]
      refine take_first (i := 4) (d := some 21) (v := ?v4) rfl rfl (by kernel_rfl) (by kernel_rfl) (by kernel_rfl) (fun _ _ _ h => h) (by rfl) ?hy4 (by assumption) ?rest4
      case hy4 => (intro w' hSw; (try dsimp only at hSw); go_simp; try with_reducible rfl)
      case rest4 =>
      simp only [Act.put, List.setIfInBounds_toArray, List.set_cons_zero, List.set_cons_succ]
      refine take_first (i := 5) (d := some 22) (v := ?v5) rfl rfl (by kernel_rfl) (by kernel_rfl) (by kernel_rfl) (fun _ _ _ h => h) (by rfl) ?hy5 (by assumption) ?rest5
      case hy5 => (intro w' hSw; (try dsimp only at hSw); go_simp; try with_reducible rfl)
      case rest5 =>
      simp only [Act.put, List.setIfInBounds_toArray, List.set_cons_zero, List.set_cons_succ]
      refine take_first (i := 6) (d := some 23) (v := ?v6) rfl rfl (by kernel_rfl) (by kernel_rfl) (by kernel_rfl) (fun _ _ _ h => h) (by rfl) ?hy6 (by assumption) ?rest6
      case hy6 => (intro w' hSw; (try dsimp only at hSw); go_simp; try with_reducible rfl)
      case rest6 =>
      simp only [Act.put, List.setIfInBounds_toArray, List.set_cons_zero, List.set_cons_succ]
      refine take_first (i := 8) (d := some 25) (v := ?v8) rfl rfl (by kernel_rfl) (by kernel_rfl) (by kernel_rfl) (fun _ _ _ h => h) (by rfl) ?hy8 (by assumption) ?rest8
      case hy8 => (intro w' hSw; (try dsimp only at hSw); go_simp; try with_reducible rfl)
      case rest8 =>
      simp only [Act.put, List.setIfInBounds_toArray, List.set_cons_zero, List.set_cons_succ]
      refine take_first (i := 9) (d := some 26) (v := ?v9) rfl rfl (by kernel_rfl) (by kernel_rfl) (by kernel_rfl) (fun _ _ _ h => h) (by rfl) ?hy9 (by assumption) ?rest9
      case hy9 => (intro w' hSw; (try dsimp only at hSw); go_simp; try with_reducible rfl)
      case rest9 =>
      simp only [Act.put, List.setIfInBounds_toArray, List.set_cons_zero, List.set_cons_succ]
      refine take_first (i := 10) (d := some 27) (v := ?v10) rfl rfl (by kernel_rfl) (by kernel_rfl) (by kernel_rfl) (fun _ _ _ h => h) (by rfl) ?hy10 (by assumption) ?rest10
      case hy10 => (intro w' hSw; (try dsimp only at hSw); go_simp; try with_reducible rfl)
      case rest10 =>
      simp only [Act.put, List.setIfInBounds_toArray, List.set_cons_zero, List.set_cons_succ]
      refine step_only (i := 3) rfl (by kernel_rfl) (by rfl) ?_
      refine op_call (d := some 20) rfl (by go_simp; try with_reducible rfl) (HPR.out W.drew HB.out.drew) ?_
      rintro e w' ⟨rfl, rfl⟩
      refine ⟨_, rfl, hHeld, ?_⟩
      simp only [Act.put, List.setIfInBounds_toArray, List.set_cons_zero, List.set_cons_succ]
      refine step_only (i := 7) rfl (by kernel_rfl) (by rfl) ?_
      refine op_call (d := some 24) rfl (by go_simp; try with_reducible rfl) (HLA.out W.drew HB.out.drew) ?_
      rintro e W2 ⟨rfl, hb2⟩
      have hB2 : Below w.heap.size w W2 := below_on HB.out.drew (Nat.le_refl _) hb2
      have hHeld2 : W2.cell? ⟨w.heap.size, 0, none⟩ = some (.slice ad n cap) := (hb2.cell (p := ⟨w.heap.size, 0, none⟩) (by show w.heap.size < W.heap.size; omega)).trans hHeld
      have e1 : W2.cell? ⟨w.heap.size + 1, 0, none⟩ = some (.bool false) := (hb2.cell (p := ⟨w.heap.size + 1, 0, none⟩) (by show w.heap.size + 1 < W.heap.size; omega)).trans d1
      have g1' : W2.frozen? ⟨w.heap.size + 1, 0, none⟩ = false := (hb2.frozen (p := ⟨w.heap.size + 1, 0, none⟩) (by show w.heap.size + 1 < W.heap.size; omega)).trans g1
      have e2 : W2.cell? ⟨w.heap.size + 1 + 1, 0, none⟩ = some (.int .i64 0) := (hb2.cell (p := ⟨w.heap.size + 2, 0, none⟩) (by show w.heap.size + 2 < W.heap.size; omega)).trans d2
      have g2' : W2.frozen? ⟨w.heap.size + 1 + 1, 0, none⟩ = false := (hb2.frozen (p := ⟨w.heap.size + 2, 0, none⟩) (by show w.heap.size + 2 < W.heap.size; omega)).trans g2
      refine ⟨_, rfl, hHeld2, ?_⟩
      simp only [Act.put, List.setIfInBounds_toArray, List.set_cons_zero, List.set_cons_succ]
      refine step_only (i := 11) rfl (by kernel_rfl) (by rfl) ?_
      refine op_call (d := some 28) rfl (by go_simp; try with_reducible rfl) (HTW.out W2 hB2) ?_
      rintro e w3 ⟨rfl, h3⟩
      rw [show w3 = W2 from h3]
      clear h3 w3
      refine ⟨_, rfl, hHeld2, ?_⟩
      simp only [Act.put, List.setIfInBounds_toArray, List.set_cons_zero, List.set_cons_succ]
      refine step_only (i := 12) rfl (by kernel_rfl) (by rfl) ?_
      refine op_value (d := some 29) (v := .int .i64 m) (w' := W2) rfl (by rcases hmm with ⟨e, hmin⟩ | ⟨e, hmin⟩ <;> subst e <;> (go_simp; first | done | (intros; omega))) ?_
      refine ⟨hHeld2, ?_⟩
      simp only [Act.put, List.setIfInBounds_toArray, List.set_cons_zero, List.set_cons_succ]
      refine step_only (i := 13) rfl (by kernel_rfl) (by rfl) ?_
      refine op_value (d := some 30) (v := .bool false) (w' := W2) rfl (by go_simp; try with_reducible rfl) ?_
      refine ⟨hHeld2, ?_⟩
      simp only [Act.put, List.setIfInBounds_toArray, List.set_cons_zero, List.set_cons_succ]
      refine wpAnyH_done (by kernel_rfl) ?_ _
      have hO : KeepsOthers W W2 := (KeepsOthers.drew W).trans (others_of_below hb2)
      gi_wp2
      exact ⟨hO, hb2.block (w.heap.size + 3) (by show w.heap.size + 3 < W.heap.size; omega), ⟨HR.out, hHeld2, e1, g1', e2, g2', (hb2.cell (p := ⟨w.heap.size + 3, 0, none⟩) (by show w.heap.size + 3 < W.heap.size; omega)).trans d3⟩, hB2⟩
  case done =>
    rintro D ys W hD rfl ⟨⟨hf, _, hcr, hfr, hcr2, hfr2, _⟩, hB⟩ hK
    rw [Fr.fbc_rg] at hf
    gi_wp2
    have hK' := (KeepsOthers.setCell (W.setCell ⟨w.heap.size + 1, 0, none⟩ (.bool true)) ⟨w.heap.size + 1 + 1, 0, none⟩ (.int .i64 0)).same D _ ((KeepsOthers.setCell W ⟨w.heap.size + 1, 0, none⟩ (.bool true)).same D _ hK rfl) rfl
    refine ⟨by simp, .inl ⟨_, _, rfl, run_takeDeferred hK', ?_⟩⟩
    have hc5 := cell_kept (far_cell2 (World.cell?_setCell_same' W ⟨w.heap.size + 1, 0, none⟩ (.bool true) (by rw [hcr]; rfl)) (b' := w.heap.size + 1 + 1) (by omega) (.int .i64 0)) (grownBy_putObj' _ D (.deferred none)) (fun r e => by cases e; exact ⟨_, hK', rfl⟩)
    have hc6 := cell_kept (World.cell?_setCell_same' (W.setCell ⟨w.heap.size + 1, 0, none⟩ (.bool true)) ⟨w.heap.size + 1 + 1, 0, none⟩ (.int .i64 0) (by rw [far_cell2 (b := w.heap.size + 1 + 1) hcr2 (by omega)]; rfl)) (grownBy_putObj' _ D (.deferred none)) (fun r e => by cases e; exact ⟨_, hK', rfl⟩)
    refine ⟨.tuple #[.bool true, .int .i64 0], ?_, by rw [hf], ((hB.setCell (p := ⟨w.heap.size + 1, 0, none⟩) (by simp) _).setCell (p := ⟨w.heap.size + 1 + 1, 0, none⟩) (by simp; omega) _).trans (belowK_b (w := w) (Nat.le_refl _) _ D _ _ (by omega) hK' rfl rfl)⟩
    simp [results, Try.f9, go_sem, hc5, hc6]
  case stop =>
    rintro D c pre W hD hpre ⟨⟨rfl, hin, hcr, hcr2⟩, hB⟩ hK
    gi_wp2
    refine ⟨by simp, .inl ⟨_, _, rfl, run_takeDeferred hK, ?_⟩⟩
    have hc5 := cell_kept hcr (grownBy_putObj' _ D (.deferred none)) (fun r e => by cases e; exact ⟨_, hK, rfl⟩)
    have hc6 := cell_kept hcr2 (grownBy_putObj' _ D (.deferred none)) (fun r e => by cases e; exact ⟨_, hK, rfl⟩)
    refine ⟨.tuple #[.bool false, .int .i64 0], ?_, by rw [Fr.fbc_pre hpre hin], hB.trans (belowK_b (w := w) (Nat.le_refl _) W D _ _ (by omega) hK rfl rfl)⟩
    simp [results, Try.f9, go_sem, hc5, hc6]
end Go.Proofs.Ytcaibonnkfhkmaa
