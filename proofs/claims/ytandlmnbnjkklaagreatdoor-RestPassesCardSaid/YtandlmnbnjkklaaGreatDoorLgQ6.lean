/- The program's copies of a posting, of a ledger. -/
import Derived.Test.YtandlmnbnjkklaaGreatDoorLgQ4ToLgQ5
import Derived.Maps.AppendAt
namespace Go.Proofs.YtandlmnbnjkklaaGreatDoor
open Go.RowKit Go.BigFrame

/-- a posting that was copied -/
def cpPost (w : World) (id : Int) (ls : List Lg.Ln) (n : Nat) (e : Ending) (w' : World) : Prop := ∃ g c, e = .returned (.agg #[.int .i64 id, .slice (some ⟨g, 0, none⟩) n c]) ∧ n ≤ c ∧ w.heap.size ≤ g ∧ g < w'.heap.size ∧ RowL w' (some ⟨g, 0, none⟩) ls ∧ Below w.heap.size w w'
/-- two blocks of two cells, laid anew, behind what happens above them -/
structure LTwo (w : World) (x y : Value) (w' : World) : Prop where
  a : Blk2 w' w.heap.size x y
  b : Blk2 w' (w.heap.size + 1) (.int .i64 0) (.slice none 0 0)
  below : Below w.heap.size w w'
theorem LTwo.new (w : World) (x y : Value) (t t' : TypeId) : LTwo w x y ((w.alloc (.cells #[x, y] t)).alloc (.cells #[.int .i64 0, .slice none 0 0] t')) := by
  have h1 := Blk2.new w x y t
  have h2 := Blk2.new (w.alloc (.cells #[x, y] t)) (.int .i64 0) (.slice none 0 0) t'
  rw [World.size_alloc] at h2
  exact ⟨h1.alloc _, h2, (below_box w _).alloc (by simp) _⟩
theorem LTwo.on {w w' w'' : World} {x y : Value} (h : LTwo w x y w') (hb : Below w'.heap.size w' w'') : LTwo w x y w'' := ⟨h.a.below hb, h.b.below hb, below_on h.below (Nat.le_refl _) hb⟩
theorem Blk2.set0 {w : World} {b : Nat} {x y : Value} (h : Blk2 w b x y) (v : Value) : Blk2 (w.setCell ⟨b, 0, none⟩ v) b v y := by
  obtain ⟨h0, h1, h2, h3, h4⟩ := h
  refine ⟨by rw [Deep.nblk_setCell]; exact h0, ?_, ?_, ?_, ?_⟩
  · exact World.cell?_setCell_same _ _ _ h1
  · exact (World.cell?_setCell_other _ _ _ _ (fun e => by cases e)).trans h2
  · rw [World.frozen?_setCell]; exact h3
  · rw [World.frozen?_setCell]; exact h4
theorem RowL.far {w : World} {b : Nat} {l : List Lg.Ln} (h : RowL w (some ⟨b, 0, none⟩) l) {p : Addr} (hp : p.block ≠ b) (v : Value) : RowL (w.setCell p v) (some ⟨b, 0, none⟩) l := by
  rcases h with h | ⟨b', off, e, hlt, hc⟩
  · exact .inl h
  · cases e
    refine .inr ⟨b, 0, rfl, by rw [Deep.nblk_setCell]; exact hlt, fun i hi => ⟨?_, ?_⟩⟩
    · exact (World.cell?_setCell_far _ _ _ _ hp).trans (hc i hi).1
    · exact (World.cell?_setCell_far _ _ _ _ hp).trans (hc i hi).2
theorem RowL.lt {w : World} {b : Nat} {l : List Lg.Ln} (h : RowL w (some ⟨b, 0, none⟩) l) (hne : l ≠ []) : b < w.heap.size := by
  rcases h with h | ⟨b', off, e, hlt, hc⟩
  · exact absurd h hne
  · cases e; exact hlt
theorem RowL.grown {w w1 : World} {b : Nat} {l : List Lg.Ln} {row : Option Nat} (h : RowL w (some ⟨b, 0, none⟩) l) (hg : w.grownBy w1 row) (hr : row ≠ some b) : RowL w1 (some ⟨b, 0, none⟩) l := by
  rcases h with h | ⟨b', off, e, hlt, hc⟩
  · exact .inl h
  · cases e
    exact .inr ⟨b, 0, rfl, Nat.lt_of_lt_of_le hlt hg.size, fun i hi => ⟨hg.cell (hc i hi).1 (fun e => hr e.symm), hg.cell (hc i hi).2 (fun e => hr e.symm)⟩⟩
theorem LTwo.store {w w1 : World} {x y : Value} (h : LTwo w x y w1) (i v : Value) {g : Nat} {ls : List Lg.Ln} (hg : w.heap.size + 2 ≤ g) (hr : RowL w1 (some ⟨g, 0, none⟩) ls) :
    Blk2 ((w1.setCell ⟨w.heap.size + 1, 0, none⟩ i).setCell ⟨w.heap.size + 1, 1, none⟩ v) w.heap.size x y ∧ Blk2 ((w1.setCell ⟨w.heap.size + 1, 0, none⟩ i).setCell ⟨w.heap.size + 1, 1, none⟩ v) (w.heap.size + 1) i v ∧
    RowL ((w1.setCell ⟨w.heap.size + 1, 0, none⟩ i).setCell ⟨w.heap.size + 1, 1, none⟩ v) (some ⟨g, 0, none⟩) ls ∧ Below w.heap.size w ((w1.setCell ⟨w.heap.size + 1, 0, none⟩ i).setCell ⟨w.heap.size + 1, 1, none⟩ v) :=
  ⟨(h.a.other (by show _ ≠ _; simp only; omega) _).other (by show _ ≠ _; simp only; omega) _, (h.b.set0 i).set1 v, (hr.far (by show _ ≠ _; simp only; omega) _).far (by show _ ≠ _; simp only; omega) _,
    (h.below.setCell (show w.heap.size ≤ w.heap.size + 1 by omega) _).setCell (show w.heap.size ≤ w.heap.size + 1 by omega) _⟩
set_option maxRecDepth 100000 in
set_option maxHeartbeats 1000000 in
theorem copyOf_any (id : Int) (ls : List Lg.Ln) (n : Nat) (pa : Option Addr) (pc : Nat) (w : World) (hn : ls.length = n) (h6 : n ≤ 6) (hne : ls ≠ []) (hr : RowL w pa ls) :
    Calls Tryz.prog 34 #[.agg #[.int .i64 id, .slice pa n pc]] w (cpPost w id ls n) := by
  have R : Hid (RowL w pa ls) := hr
  have HNE : Hid (ls ≠ []) := hne
  have HN : Hid (ls.length = n) := hn
  have HT : Hid (LTwo w (.int .i64 id) (.slice pa n pc) ((w.alloc (.cells #[.int .i64 id, .slice pa n pc] 34)).alloc (.cells #[.int .i64 0, .slice none 0 0] 34)).drew) := (LTwo.new w _ _ _ _).on (Below.refl _ _).drew
  clear hr hne hn
  go_enter Tryz.func34, Tryz.ntmps34
  go_wp2_with fail
  refine wp_region_noPanic ?_
  refine ord_region (S := fun w' => w'.cell? ⟨w.heap.size, 0, none⟩ = some (.int .i64 id) ∧ w'.cell? ⟨w.heap.size, 1, none⟩ = some (.slice pa n pc) ∧ (w'.cell? ⟨w.heap.size + 1, 0, none⟩).isSome = true ∧ (w'.cell? ⟨w.heap.size + 1, 1, none⟩).isSome = true ∧ w'.frozen? ⟨w.heap.size + 1, 0, none⟩ = false ∧ w'.frozen? ⟨w.heap.size + 1, 1, none⟩ = false) (by kernel_rfl) ⟨HT.out.a.2.1, HT.out.a.2.2.1, by rw [HT.out.b.2.1]; rfl, by rw [HT.out.b.2.2.1]; rfl, HT.out.b.2.2.2.1, HT.out.b.2.2.2.2⟩ ?_
  intro hS0
  refine ord_take (i := 0) (d := some 3) (v := ?v0) rfl rfl (by kernel_rfl) (by kernel_rfl) (by kernel_rfl) (fun _ _ _ h => h) (by rfl) ?hy0 (by assumption) ?rest0
  case hy0 => (intro w' hSw; (try dsimp only at hSw); go_simp; try with_reducible rfl)
  case rest0 =>
  simp only [Act.put, List.setIfInBounds_toArray, List.set_cons_zero, List.set_cons_succ]
  refine ord_take (i := 1) (d := some 4) (v := ?v1) rfl rfl (by kernel_rfl) (by kernel_rfl) (by kernel_rfl) (fun _ _ _ h => h) (by rfl) ?hy1 (by assumption) ?rest1
  case hy1 => (intro w' hSw; (try dsimp only at hSw); go_simp; try with_reducible rfl)
  case rest1 =>
  simp only [Act.put, List.setIfInBounds_toArray, List.set_cons_zero, List.set_cons_succ]
  refine ord_take (i := 2) (d := some 5) (v := ?v2) rfl rfl (by kernel_rfl) (by kernel_rfl) (by kernel_rfl) (fun _ _ _ h => h) (by rfl) ?hy2 (by assumption) ?rest2
  case hy2 => (intro w' hSw; (try dsimp only at hSw); go_simp; try with_reducible rfl)
  case rest2 =>
  simp only [Act.put, List.setIfInBounds_toArray, List.set_cons_zero, List.set_cons_succ]
  refine ord_take (i := 3) (d := some 6) (v := ?v3) rfl rfl (by kernel_rfl) (by kernel_rfl) (by kernel_rfl) (fun _ _ _ h => h) (by rfl) ?hy3 (by assumption) ?rest3
  case hy3 => (intro w' hSw; (try dsimp only at hSw); go_simp; try with_reducible rfl)
  case rest3 =>
  simp only [Act.put, List.setIfInBounds_toArray, List.set_cons_zero, List.set_cons_succ]
  refine ord_only (i := 4) rfl (by kernel_rfl) (by rfl) ?_
  refine ord_call (d := some 7) (f := 60) (args := #[.slice pa n pc]) rfl (by go_simp; try with_reducible rfl) (R := fun e w' => ∃ g c, e = .returned (.slice (some ⟨g, 0, none⟩) n c) ∧ n ≤ c ∧ w.heap.size + 2 ≤ g ∧ RowL w' (some ⟨g, 0, none⟩) ls ∧ LTwo w (.int .i64 id) (.slice pa n pc) w') ?hcall ?_
  case hcall =>
    have hcl := lClone_any ls pa pc ((w.alloc (.cells #[.int .i64 id, .slice pa n pc] 34)).alloc (.cells #[.int .i64 0, .slice none 0 0] 34)).drew (by rw [HN.out]; omega) HNE.out (R.out.below HT.out.below)
    rw [HN.out] at hcl
    refine hcl.mono ?_
    rintro e w1 ⟨g, c, rfl, h1, h2, h3, h4⟩
    exact ⟨g, c, rfl, h1, by simpa using h2, h3, HT.out.on h4⟩
  rintro e w1 ⟨g, c, rfl, hc, hg, hrow, ht⟩
  have HT1 : Hid (LTwo w (.int .i64 id) (.slice pa n pc) w1) := ht
  have HRW : Hid (RowL w1 (some ⟨g, 0, none⟩) ls) := hrow
  clear ht hrow
  refine ⟨_, rfl, ⟨HT1.out.a.2.1, HT1.out.a.2.2.1, by rw [HT1.out.b.2.1]; rfl, by rw [HT1.out.b.2.2.1]; rfl, HT1.out.b.2.2.2.1, HT1.out.b.2.2.2.2⟩, ?_⟩
  (try simp only [Act.put]); (repeat first | simp only [List.setIfInBounds_toArray] | simp only [List.set_cons_zero] | simp only [List.set_cons_succ])
  refine ord_only (i := 5) rfl (by kernel_rfl) (by rfl) ?_
  refine ord_value (d := some 8) (v := .agg #[.int .i64 id, .slice (some ⟨g, 0, none⟩) n c]) (w' := w1) rfl (by go_simp; try with_reducible rfl) ?_
  refine ⟨⟨HT1.out.a.2.1, HT1.out.a.2.2.1, by rw [HT1.out.b.2.1]; rfl, by rw [HT1.out.b.2.2.1]; rfl, HT1.out.b.2.2.2.1, HT1.out.b.2.2.2.2⟩, ?_⟩
  (try simp only [Act.put]); (repeat first | simp only [List.setIfInBounds_toArray] | simp only [List.set_cons_zero] | simp only [List.set_cons_succ])
  refine ord_only (i := 6) rfl (by kernel_rfl) (by rfl) ?_
  have HST : Hid (_) := HT1.out.store (.int .i64 id) (.slice (some ⟨g, 0, none⟩) n c) hg HRW.out
  have t0 := HT1.out.b.2.1
  have t1 : ((w1.setCell ⟨w.heap.size + 1, 0, none⟩ (.int .i64 id)).cell? ⟨w.heap.size + 1, 1, none⟩) = some (.slice none 0 0) := (World.cell?_setCell_other _ _ _ _ (fun e => by cases e)).trans HT1.out.b.2.2.1
  have t2 := HT1.out.b.2.2.2.1
  have t3 := HT1.out.b.2.2.2.2
  have t4 : (w1.setCell ⟨w.heap.size + 1, 0, none⟩ (.int .i64 id)).frozen? ⟨w.heap.size + 1, 1, none⟩ = false := by rw [World.frozen?_setCell]; exact t3
  have t5 := HT1.out.b.2.2.1
  refine ord_skip (d := none) (w' := (w1.setCell ⟨w.heap.size + 1, 0, none⟩ (.int .i64 id)).setCell ⟨w.heap.size + 1, 1, none⟩ (.slice (some ⟨g, 0, none⟩) n c)) rfl (by go_simp; try with_reducible rfl) ?_
  refine ⟨⟨HST.out.1.2.1, HST.out.1.2.2.1, by rw [HST.out.2.1.2.1]; rfl, by rw [HST.out.2.1.2.2.1]; rfl, HST.out.2.1.2.2.2.1, HST.out.2.1.2.2.2.2⟩, ?_⟩
  refine wpAnyH_done (by kernel_rfl) ?_ _
  refine NoPanic.normal ?_
  have r0 := HST.out.2.1.2.1
  have r1 := HST.out.2.1.2.2.1
  clear t0 t1 t2 t3 t4 t5
  generalize (w1.setCell ⟨w.heap.size + 1, 0, none⟩ (.int .i64 id)).setCell ⟨w.heap.size + 1, 1, none⟩ (.slice (some ⟨g, 0, none⟩) n c) = w2 at *
  go_wp2
  exact bodyPost_ret (v := .agg #[.int .i64 id, .slice (some ⟨g, 0, none⟩) n c]) (by simp [results, Tryz.results34, go_sem, *]) rfl ⟨g, c, rfl, hc, by omega, HST.out.2.2.1.lt HNE.out, HST.out.2.2.1, HST.out.2.2.2⟩
/-- a posting's cells, its lines in a block of their own that is not the row's -/
def CpP (w : World) (v : Value) (u : Pu) (p : Lg.Ps) : Prop := u.1 = p.1 ∧ ∃ g c, u.2 = .slice (some ⟨g, 0, none⟩) p.2.length c ∧ p.2.length ≤ c ∧ v.ownBlock ≠ some g ∧ g < w.heap.size ∧ RowL w (some ⟨g, 0, none⟩) p.2
def CpAll (w : World) (v : Value) (us : List Pu) (l : List Lg.Ps) : Prop := us.length = l.length ∧ ∀ (i : Nat) (u : Pu) (p : Lg.Ps), us[i]? = some u → l[i]? = some p → CpP w v u p
theorem CpAll.nil (w : World) (v : Value) : CpAll w v [] [] := ⟨rfl, fun i u p hu _ => by simp at hu⟩
theorem CpAll.rd {w : World} {v : Value} {us : List Pu} {l : List Lg.Ps} (h : CpAll w v us l) : RdAll w us l :=
  ⟨h.1, fun i u p hu hp => by
    obtain ⟨h1, g, c, h2, h3, _, _, h4⟩ := h.2 i u p hu hp
    exact ⟨h1, _, c, h2, h3, h4⟩⟩
theorem CpAll.below {w w' : World} {v : Value} {us : List Pu} {l : List Lg.Ps} (h : CpAll w v us l) (hb : Below w.heap.size w w') : CpAll w' v us l :=
  ⟨h.1, fun i u p hu hp => by
    obtain ⟨h1, g, c, h2, h3, h4, h5, h6⟩ := h.2 i u p hu hp
    exact ⟨h1, g, c, h2, h3, h4, Nat.lt_of_lt_of_le h5 hb.size, h6.below hb⟩⟩
theorem CpAll.grown {w w1 : World} {v v' : Value} {us : List Pu} {l : List Lg.Ps} (h : CpAll w v us l) (hg : w.grownBy w1 v.ownBlock) (hv : v'.ownBlock = v.ownBlock ∨ v'.ownBlock = some w.heap.size) : CpAll w1 v' us l :=
  ⟨h.1, fun i u p hu hp => by
    obtain ⟨h1, g, c, h2, h3, h4, h5, h6⟩ := h.2 i u p hu hp
    refine ⟨h1, g, c, h2, h3, ?_, Nat.lt_of_lt_of_le h5 hg.size, h6.grown hg h4⟩
    rcases hv with hv | hv <;> rw [hv]
    · exact h4
    · intro e; have := Option.some.inj e; omega⟩
theorem CpAll.snoc {w : World} {v : Value} {us : List Pu} {l : List Lg.Ps} (h : CpAll w v us l) {u : Pu} {p : Lg.Ps} (hp : CpP w v u p) : CpAll w v (us ++ [u]) (l ++ [p]) := by
  refine ⟨by simp [h.1], fun i x q hx hq => ?_⟩
  rcases Nat.lt_or_ge i us.length with c | c
  · rw [List.getElem?_append_left c] at hx
    rw [List.getElem?_append_left (by have := h.1; omega)] at hq
    exact h.2 i x q hx hq
  · rw [List.getElem?_append_right c] at hx
    rw [List.getElem?_append_right (by have := h.1; omega)] at hq
    have h1 := h.1
    rw [← h1] at hq
    match hk : i - us.length, hx, hq with
    | 0, hx, hq => simp at hx hq; subst hx hq; exact hp
    | k + 1, hx, hq => simp at hx
theorem OwnG.nil (w : World) (B : Nat) : OwnG w B (.slice none 0 0) [] := World.ownsRow_nil _ _ _ _
theorem OwnG.still {w w' : World} {B : Nat} {v : Value} {us : List Pu} (h : OwnG w B v us) (hb : Below w.heap.size w w') : OwnG w' B v us := by
  have hlt := World.ownsRow.lt h
  obtain ⟨h1, h2⟩ := h
  refine ⟨h1, ?_⟩
  rcases h2 with h2 | ⟨g, cap, cur, rfl, b, c, d⟩
  · exact .inl h2
  · exact .inr ⟨g, cap, cur, rfl, b, (hb.block g (hlt g rfl).2).trans c, d⟩
/-- Behind an append of one posting that was copied into a block of its own. -/
theorem CpAll.step {w wr w2 w1 : World} {v v' : Value} {us : List Pu} {l : List Lg.Ps} {id : Int} {ls : List Lg.Ln} {n g c : Nat} {t : TypeId} (hn : ls.length = n) (hB : Below w.heap.size w w2) (ho : OwnG w2 w.heap.size v us) (hc : CpAll w2 v us l)
    (hv : ∀ j, v.ownBlock = some j → j < wr.heap.size) (hg1 : wr.heap.size ≤ g) (hg2 : g < w2.heap.size) (hnc : n ≤ c) (hr : RowL w2 (some ⟨g, 0, none⟩) ls)
    (hown : w1.ownsRow w.heap.size 34 2 v' (us.length + 1) (flatP us ++ [.int .i64 id, .slice (some ⟨g, 0, none⟩) n c]))
    (hgrow : (w2.alloc (.cells #[.int .i64 id, .slice (some ⟨g, 0, none⟩) n c] t)).grownBy w1 v.ownBlock) (hat : v'.ownBlock = v.ownBlock ∨ v'.ownBlock = some (w2.heap.size + 1)) :
    ∃ us', us'.length = us.length + 1 ∧ OwnG w1 w.heap.size v' us' ∧ CpAll w1 v' us' (l ++ [(id, ls)]) ∧ Below w.heap.size w w1 := by
  subst hn
  have hne : v.ownBlock ≠ some g := fun e => by have := hv g e; omega
  refine ⟨us ++ [(id, .slice (some ⟨g, 0, none⟩) ls.length c)], by simp, ?_, ?_, ?_⟩
  · unfold OwnG; rw [flatP_append, List.length_append]; exact hown
  · refine ((hc.below (below_box w2 _)).grown hgrow (by rw [World.size_alloc]; exact hat)).snoc ⟨rfl, g, c, rfl, hnc, ?_, ?_, ?_⟩
    · rcases hat with e | e <;> rw [e]
      · exact hne
      · intro e2; have := Option.some.inj e2; omega
    · exact Nat.lt_of_lt_of_le (by simp; omega) hgrow.size
    · exact (hr.below (below_box w2 _)).grown hgrow hne
  · exact (hB.alloc hB.size _).grown hgrow (by have := hB.size; simp; omega) (fun j hj => (World.ownsRow.lt ho j hj).1)
/-- a ledger that was copied -/
def cpsPost (w : World) (l : List Lg.Ps) (e : Ending) (w' : World) : Prop := ∃ v us, e = .returned v ∧ OwnG w' w.heap.size v us ∧ CpAll w' v us l ∧ Below w.heap.size w w'
set_option maxRecDepth 100000 in
set_option maxHeartbeats 4000000 in
theorem copied_any (l : List Lg.Ps) (a : Option Addr) (cap : Nat) (w : World) (h100 : l.length ≤ 100) (hok : ∀ p ∈ l, Lg.POk p) (hr : RowG w a l) :
    Calls Tryz.prog 33 #[.slice a l.length cap] w (cpsPost w l) := by
  have R : Hid (RowG w a l) := hr
  have HOK : Hid (∀ p ∈ l, Lg.POk p) := hok
  obtain ⟨n, hn⟩ : ∃ n, l.length = n := ⟨_, rfl⟩
  have HN : Hid (l.length = n) := hn
  obtain ⟨i0, hi0, hi1, hi2, hi3⟩ := infoG
  have HI : Hid (Tryz.prog.info? 34 = some i0 ∧ i0.zero = some (.agg #[.int .i64 0, .slice none 0 0]) ∧ i0.size = 2 ∧ i0.bytes = 32) := ⟨hi0, hi1, hi2, hi3⟩
  rw [hn] at h100 ⊢
  clear hr hok hn hi0 hi1 hi2 hi3
  go_enter Tryz.func33, Tryz.ntmps33
  go_wp2
  go_loopw [3, 8] (fun ov iv wr => ∃ (k : Nat) (us : List Pu) (v : Value), k ≤ n ∧ iv = .int .i64 k ∧ v = ov ∧ OwnG wr w.heap.size v us ∧ CpAll wr v us (l.take k) ∧ Below w.heap.size w wr) (fun _ iv _ => n - (intOf iv).toNat)
  case atStart => exact ⟨0, [], _, Nat.zero_le _, rfl, rfl, OwnG.nil _ _, CpAll.nil _ _, Below.refl _ _⟩
  case round =>
    obtain ⟨k, us, v, hk, rfl, rfl, hown, hcp, hb⟩ := hrel
    have HO : Hid (OwnG wr w.heap.size v us) := hown
    have HC : Hid (CpAll wr v us (l.take k)) := hcp
    have HB : Hid (Below w.heap.size w wr) := hb
    have HUL : Hid (us.length = k) := by show _ = _; rw [hcp.1, List.length_take, HN.out]; omega
    clear hown hcp hb
    by_cases hlt : k < n
    · have hlt' : (k : Int) < (n : Int) := by omega
      obtain ⟨b, off, id, ls, la, lc, rfl, -, hx, c1, c2, -, hrl⟩ := (R.out.below HB.out).at (k := k) (by rw [HN.out]; exact hlt)
      have HX : Hid (l[k]? = some (id, ls)) := hx
      have pok := HOK.out (id, ls) (List.mem_of_getElem? hx)
      have HSX : Hid (ls.length ≤ 6) := pok.six
      have HNE : Hid (ls ≠ []) := by have := pok.two; show _ ≠ _; intro e; simp [e] at this
      have HRL : Hid (RowL (wr.alloc (.cells #[.int .i64 id, .slice la ls.length lc] 34)) la ls) := hrl.below (below_box wr _)
      clear hx hrl pok
      go_wp2_with (first
        | (go_at_call 34; refine (copyOf_any id ls _ la lc _ rfl HSX.out HNE.out HRL.out).mono ?_; rintro e w2 ⟨g, c, rfl, hgc, hg1, hg2, hgr, hb2⟩)
        | (at_builtin; refine wpList_append_own_at _ rfl (.tmp 12) (.tmp 15) 31 rfl w.heap.size 34 i0 _ 2 32 Tryz.underlying31 HI.out.1 HI.out.2.1 HI.out.2.2.1 HI.out.2.2.2 rfl (by decide) v us.length (flatP us) rfl (World.ownsRow.alloc ((HO.out.still (below_box wr _)).still hb2) _) ⟨w2.heap.size, 0, none⟩ 1 1 [.int .i64 id, .slice (some ⟨g, 0, none⟩) ls.length c] rfl rfl (cellL_new _ _ _ _) ?q1 ?q2 ?q3 ?q4 ?_))
      case q1 => intro u hu; simp at hu; rcases hu with rfl | rfl <;> rfl
      case q2 => unfold maxLen; have := HUL.out; omega
      case q3 => have := HUL.out; omega
      case q4 => have := HB.out.size; have := hb2.size; simp at this ⊢; omega
      intro v' w1 hown hgrow _ hat
      have hb3 : Below wr.heap.size wr w2 := (box2_below hb2).2.2
      obtain ⟨us', hul, ho', hc', hb'⟩ := CpAll.step rfl (below_on HB.out (Nat.le_refl _) hb3) (HO.out.still hb3) (HC.out.below hb3) (fun j hj => (World.ownsRow.lt HO.out j hj).2) (by simp at hg1; omega) hg2 hgc hgr hown hgrow hat
      rw [← Lg.take_snoc l k _ HX.out] at hc'
      have HF : Hid (OwnG w1 w.heap.size v' us' ∧ CpAll w1 v' us' (l.take (k + 1)) ∧ Below w.heap.size w w1) := ⟨ho', hc', hb'⟩
      clear hown hgrow hat hb2 hb3 ho' hc' hb' hgr
      go_wp2
      go_roundw
      case rel => exact ⟨k + 1, us', _, by omega, by go_num, rfl, HF.out.1, HF.out.2.1, HF.out.2.2⟩
      case measure => simp [intOf]; omega
    · obtain rfl : k = n := by omega
      have HTK : Hid (l.take k = l) := by show _ = _; rw [List.take_of_length_le (by rw [HN.out]; exact Nat.le_refl _)]
      go_wp2
      go_ret
      refine ⟨_, us, rfl, HO.out, ?_, HB.out⟩
      have := HC.out
      rw [HTK.out] at this
      exact this
end Go.Proofs.YtandlmnbnjkklaaGreatDoor
