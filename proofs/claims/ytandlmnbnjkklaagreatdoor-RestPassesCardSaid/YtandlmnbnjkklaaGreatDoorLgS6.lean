/- The program's copies of a posting, of a ledger, with what may be written told besides. -/
import Derived.Test.YtandlmnbnjkklaaGreatDoorLgQ6
import Derived.Test.YtandlmnbnjkklaaGreatDoorLgBegToLgS5
namespace Go.Proofs.YtandlmnbnjkklaaGreatDoor
open Go.RowKit Go.BigFrame

/-- a posting that was copied -/
def cpPostS (w : World) (id : Int) (ls : List Lg.Ln) (n : Nat) (e : Ending) (w' : World) : Prop := ∃ g c, e = .returned (.agg #[.int .i64 id, .slice (some ⟨g, 0, none⟩) n c]) ∧ n ≤ c ∧ w.heap.size ≤ g ∧ g < w'.heap.size ∧ RowL w' (some ⟨g, 0, none⟩) ls ∧ BlkL w' g n ∧ Below w.heap.size w w'
set_option maxRecDepth 100000 in
set_option maxHeartbeats 1000000 in
theorem copyOf_own (id : Int) (ls : List Lg.Ln) (n : Nat) (pa : Option Addr) (pc : Nat) (w : World) (hn : ls.length = n) (h6 : n ≤ 6) (hne : ls ≠ []) (hr : RowL w pa ls) :
    Calls Tryz.prog 34 #[.agg #[.int .i64 id, .slice pa n pc]] w (cpPostS w id ls n) := by
  have R : Hid (RowL w pa ls) := hr
  have HNE : Hid (ls ≠ []) := hne
  have HN : Hid (ls.length = n) := hn
  have HT : Hid (LTwo w (.int .i64 id) (.slice pa n pc) ((w.alloc (.cells #[.int .i64 id, .slice pa n pc] 34)).alloc (.cells #[.int .i64 0, .slice none 0 0] 34)).drew) := (LTwo.new w _ _ _ _).on (Below.refl _ _).drew
  clear hr hne hn
  go_enter Tryz.func34, Tryz.ntmps34
  go_wp2_with fail
  refine wp_region_noPanic ?_
  refine ord_region (S := fun w' => w'.cell? ⟨w.heap.size, 0, none⟩ = some (.int .i64 id) ∧ w'.cell? ⟨w.heap.size, 1, none⟩ = some (.slice pa n pc) ∧ (w'.cell? ⟨w.heap.size + 1, 0, none⟩).isSome = true ∧ (w'.cell? ⟨w.heap.size + 1, 1, none⟩).isSome = true ∧ w'.frozen? ⟨w.heap.size + 1, 0, none⟩ = false ∧ w'.frozen? ⟨w.heap.size + 1, 1, none⟩ = false) (by kernel_rfl) ⟨HT.out.a.2.1, HT.out.a.2.2.1, by rw [HT.out.b.2.1]; rfl, by rw [HT.out.b.2.2.1]; rfl, HT.out.b.2.2.2.1, HT.out.b.2.2.2.2⟩ ?_
  intro hS0
  refine ord_take (i := 0) (d := some 3) (v := ?v0) rfl rfl (by kernel_rfl) (by kernel_rfl) (by kernel_rfl) (fun _ _ _ h => h) (by rfl) ?hy0 (by assumption) ?rest0
  case hy0 => (intro w' hSw; (try dsimp only at hSw); go_simp; try with_reducible rfl)
  case rest0 =>
  simp only [Act.put, List.setIfInBounds_toArray, List.set_cons_zero, List.set_cons_succ]
  refine ord_take (i := 1) (d := some 4) (v := ?v1) rfl rfl (by kernel_rfl) (by kernel_rfl) (by kernel_rfl) (fun _ _ _ h => h) (by rfl) ?hy1 (by assumption) ?rest1
  case hy1 => (intro w' hSw; (try dsimp only at hSw); go_simp; try with_reducible rfl)
  case rest1 =>
  simp only [Act.put, List.setIfInBounds_toArray, List.set_cons_zero, List.set_cons_succ]
  refine ord_take (i := 2) (d := some 5) (v := ?v2) rfl rfl (by kernel_rfl) (by kernel_rfl) (by kernel_rfl) (fun _ _ _ h => h) (by rfl) ?hy2 (by assumption) ?rest2
  case hy2 => (intro w' hSw; (try dsimp only at hSw); go_simp; try with_reducible rfl)
  case rest2 =>
  simp only [Act.put, List.setIfInBounds_toArray, List.set_cons_zero, List.set_cons_succ]
  refine ord_take (i := 3) (d := some 6) (v := ?v3) rfl rfl (by kernel_rfl) (by kernel_rfl) (by kernel_rfl) (fun _ _ _ h => h) (by rfl) ?hy3 (by assumption) ?rest3
  case hy3 => (intro w' hSw; (try dsimp only at hSw); go_simp; try with_reducible rfl)
  case rest3 =>
  simp only [Act.put, List.setIfInBounds_toArray, List.set_cons_zero, List.set_cons_succ]
  refine ord_only (i := 4) rfl (by kernel_rfl) (by rfl) ?_
  refine ord_call (d := some 7) (f := 60) (args := #[.slice pa n pc]) rfl (by go_simp; try with_reducible rfl) (R := fun e w' => ∃ g c, e = .returned (.slice (some ⟨g, 0, none⟩) n c) ∧ n ≤ c ∧ w.heap.size + 2 ≤ g ∧ RowL w' (some ⟨g, 0, none⟩) ls ∧ BlkL w' g n ∧ LTwo w (.int .i64 id) (.slice pa n pc) w') ?hcall ?_
  case hcall =>
    have hcl := lClone_own ls pa pc ((w.alloc (.cells #[.int .i64 id, .slice pa n pc] 34)).alloc (.cells #[.int .i64 0, .slice none 0 0] 34)).drew (by rw [HN.out]; omega) HNE.out (R.out.below HT.out.below)
    rw [HN.out] at hcl
    refine hcl.mono ?_
    rintro e w1 ⟨g, c, rfl, h1, h2, h3, h5, h4⟩
    exact ⟨g, c, rfl, h1, by simpa using h2, h3, h5, HT.out.on h4⟩
  rintro e w1 ⟨g, c, rfl, hc, hg, hrow, hbk, ht⟩
  have HBK : Hid (BlkL ((w1.setCell ⟨w.heap.size + 1, 0, none⟩ (.int .i64 id)).setCell ⟨w.heap.size + 1, 1, none⟩ (.slice (some ⟨g, 0, none⟩) n c)) g n) := (hbk.set _ _ _).set _ _ _
  clear hbk
  have HT1 : Hid (LTwo w (.int .i64 id) (.slice pa n pc) w1) := ht
  have HRW : Hid (RowL w1 (some ⟨g, 0, none⟩) ls) := hrow
  clear ht hrow
  refine ⟨_, rfl, ⟨HT1.out.a.2.1, HT1.out.a.2.2.1, by rw [HT1.out.b.2.1]; rfl, by rw [HT1.out.b.2.2.1]; rfl, HT1.out.b.2.2.2.1, HT1.out.b.2.2.2.2⟩, ?_⟩
  (try simp only [Act.put]); (repeat first | simp only [List.setIfInBounds_toArray] | simp only [List.set_cons_zero] | simp only [List.set_cons_succ])
  refine ord_only (i := 5) rfl (by kernel_rfl) (by rfl) ?_
  refine ord_value (d := some 8) (v := .agg #[.int .i64 id, .slice (some ⟨g, 0, none⟩) n c]) (w' := w1) rfl (by go_simp; try with_reducible rfl) ?_
  refine ⟨⟨HT1.out.a.2.1, HT1.out.a.2.2.1, by rw [HT1.out.b.2.1]; rfl, by rw [HT1.out.b.2.2.1]; rfl, HT1.out.b.2.2.2.1, HT1.out.b.2.2.2.2⟩, ?_⟩
  (try simp only [Act.put]); (repeat first | simp only [List.setIfInBounds_toArray] | simp only [List.set_cons_zero] | simp only [List.set_cons_succ])
  refine ord_only (i := 6) rfl (by kernel_rfl) (by rfl) ?_
  have HST : Hid (_) := HT1.out.store (.int .i64 id) (.slice (some ⟨g, 0, none⟩) n c) hg HRW.out
  have t0 := HT1.out.b.2.1
  have t1 : ((w1.setCell ⟨w.heap.size + 1, 0, none⟩ (.int .i64 id)).cell? ⟨w.heap.size + 1, 1, none⟩) = some (.slice none 0 0) := (World.cell?_setCell_other _ _ _ _ (fun e => by cases e)).trans HT1.out.b.2.2.1
  have t2 := HT1.out.b.2.2.2.1
  have t3 := HT1.out.b.2.2.2.2
  have t4 : (w1.setCell ⟨w.heap.size + 1, 0, none⟩ (.int .i64 id)).frozen? ⟨w.heap.size + 1, 1, none⟩ = false := by rw [World.frozen?_setCell]; exact t3
  have t5 := HT1.out.b.2.2.1
  refine ord_skip (d := none) (w' := (w1.setCell ⟨w.heap.size + 1, 0, none⟩ (.int .i64 id)).setCell ⟨w.heap.size + 1, 1, none⟩ (.slice (some ⟨g, 0, none⟩) n c)) rfl (by go_simp; try with_reducible rfl) ?_
  refine ⟨⟨HST.out.1.2.1, HST.out.1.2.2.1, by rw [HST.out.2.1.2.1]; rfl, by rw [HST.out.2.1.2.2.1]; rfl, HST.out.2.1.2.2.2.1, HST.out.2.1.2.2.2.2⟩, ?_⟩
  refine wpAnyH_done (by kernel_rfl) ?_ _
  refine NoPanic.normal ?_
  have r0 := HST.out.2.1.2.1
  have r1 := HST.out.2.1.2.2.1
  clear t0 t1 t2 t3 t4 t5
  generalize (w1.setCell ⟨w.heap.size + 1, 0, none⟩ (.int .i64 id)).setCell ⟨w.heap.size + 1, 1, none⟩ (.slice (some ⟨g, 0, none⟩) n c) = w2 at *
  go_wp2
  exact bodyPost_ret (v := .agg #[.int .i64 id, .slice (some ⟨g, 0, none⟩) n c]) (by simp [results, Tryz.results34, go_sem, *]) rfl ⟨g, c, rfl, hc, by omega, HST.out.2.2.1.lt HNE.out, HST.out.2.2.1, HBK.out, HST.out.2.2.2⟩
/-- the lines of all postings lie in blocks of their own, from B on, that may be written -/
def BA (w : World) (B : Nat) (v : Value) (us : List Pu) : Prop := ∀ (i : Nat) (u : Pu), us[i]? = some u → ∃ g n c, u.2 = .slice (some ⟨g, 0, none⟩) n c ∧ B ≤ g ∧ v.ownBlock ≠ some g ∧ n ≤ 6 ∧ BlkL w g n
theorem BA.nil (w : World) (B : Nat) (v : Value) : BA w B v [] := fun i u h => by simp at h
theorem BA.below {w w' : World} {B : Nat} {v : Value} {us : List Pu} (h : BA w B v us) (hb : Below w.heap.size w w') : BA w' B v us := fun i u hu => by
  obtain ⟨g, n, c, h1, h2, h3, h4, h5⟩ := h i u hu
  exact ⟨g, n, c, h1, h2, h3, h4, h5.below hb⟩
theorem BA.grown {w w1 : World} {B : Nat} {v v' : Value} {us : List Pu} (h : BA w B v us) (hg : w.grownBy w1 v.ownBlock) (hv : v'.ownBlock = v.ownBlock ∨ v'.ownBlock = some w.heap.size) : BA w1 B v' us := fun i u hu => by
  obtain ⟨g, n, c, h1, h2, h3, h4, h5⟩ := h i u hu
  refine ⟨g, n, c, h1, h2, ?_, h4, h5.grown hg h3⟩
  have := h5.1
  rcases hv with hv | hv <;> rw [hv]
  · exact h3
  · intro e; have := Option.some.inj e; omega
theorem BA.snoc {w : World} {B : Nat} {v : Value} {us : List Pu} (h : BA w B v us) {u : Pu} (hp : ∃ g n c, u.2 = .slice (some ⟨g, 0, none⟩) n c ∧ B ≤ g ∧ v.ownBlock ≠ some g ∧ n ≤ 6 ∧ BlkL w g n) : BA w B v (us ++ [u]) := fun i x hx => by
  rcases Nat.lt_or_ge i us.length with c | c
  · rw [List.getElem?_append_left c] at hx
    exact h i x hx
  · rw [List.getElem?_append_right c] at hx
    match hk : i - us.length, hx with
    | 0, hx => simp at hx; subst hx; exact hp
    | k + 1, hx => simp at hx
/-- Behind an append of one posting that was copied into a block of its own. -/
theorem CpAll.stepS {w wr w2 w1 : World} {v v' : Value} {us : List Pu} {l : List Lg.Ps} {id : Int} {ls : List Lg.Ln} {n g c : Nat} {t : TypeId} (hn : ls.length = n) (hbk : BlkL w2 g n) (hba : BA w2 w.heap.size v us) (h6 : n ≤ 6) (hB : Below w.heap.size w w2) (ho : OwnG w2 w.heap.size v us) (hc : CpAll w2 v us l)
    (hv : ∀ j, v.ownBlock = some j → j < wr.heap.size) (hw : w.heap.size ≤ wr.heap.size) (hg1 : wr.heap.size ≤ g) (hg2 : g < w2.heap.size) (hnc : n ≤ c) (hr : RowL w2 (some ⟨g, 0, none⟩) ls)
    (hown : w1.ownsRow w.heap.size 34 2 v' (us.length + 1) (flatP us ++ [.int .i64 id, .slice (some ⟨g, 0, none⟩) n c]))
    (hgrow : (w2.alloc (.cells #[.int .i64 id, .slice (some ⟨g, 0, none⟩) n c] t)).grownBy w1 v.ownBlock) (hat : v'.ownBlock = v.ownBlock ∨ v'.ownBlock = some (w2.heap.size + 1)) :
    ∃ us', us'.length = us.length + 1 ∧ OwnG w1 w.heap.size v' us' ∧ CpAll w1 v' us' (l ++ [(id, ls)]) ∧ BA w1 w.heap.size v' us' ∧ Below w.heap.size w w1 := by
  subst hn
  have hne : v.ownBlock ≠ some g := fun e => by have := hv g e; omega
  have hne' : v'.ownBlock ≠ some g := by
    rcases hat with e | e <;> rw [e]
    · exact hne
    · intro e2; have := Option.some.inj e2; omega
  refine ⟨us ++ [(id, .slice (some ⟨g, 0, none⟩) ls.length c)], by simp, ?_, ?_, ?_, ?_⟩
  · unfold OwnG; rw [flatP_append, List.length_append]; exact hown
  · refine ((hc.below (below_box w2 _)).grown hgrow (by rw [World.size_alloc]; exact hat)).snoc ⟨rfl, g, c, rfl, hnc, hne', ?_, ?_⟩
    · exact Nat.lt_of_lt_of_le (by simp; omega) hgrow.size
    · exact (hr.below (below_box w2 _)).grown hgrow hne
  · exact ((hba.below (below_box w2 _)).grown hgrow (by rw [World.size_alloc]; exact hat)).snoc ⟨g, _, c, rfl, by omega, hne', h6, (hbk.below (below_box w2 _)).grown hgrow hne⟩
  · exact (hB.alloc hB.size _).grown hgrow (by have := hB.size; simp; omega) (fun j hj => (World.ownsRow.lt ho j hj).1)
/-- a ledger that was copied -/
def cpsPostS (w : World) (l : List Lg.Ps) (e : Ending) (w' : World) : Prop := ∃ v us, e = .returned v ∧ OwnG w' w.heap.size v us ∧ CpAll w' v us l ∧ BA w' w.heap.size v us ∧ Below w.heap.size w w'
set_option maxRecDepth 100000 in
set_option maxHeartbeats 4000000 in
theorem copied_own (l : List Lg.Ps) (a : Option Addr) (cap : Nat) (w : World) (h100 : l.length ≤ 100) (hok : ∀ p ∈ l, Lg.POk p) (hr : RowG w a l) :
    Calls Tryz.prog 33 #[.slice a l.length cap] w (cpsPostS w l) := by
  have R : Hid (RowG w a l) := hr
  have HOK : Hid (∀ p ∈ l, Lg.POk p) := hok
  obtain ⟨n, hn⟩ : ∃ n, l.length = n := ⟨_, rfl⟩
  have HN : Hid (l.length = n) := hn
  obtain ⟨i0, hi0, hi1, hi2, hi3⟩ := infoG
  have HI : Hid (Tryz.prog.info? 34 = some i0 ∧ i0.zero = some (.agg #[.int .i64 0, .slice none 0 0]) ∧ i0.size = 2 ∧ i0.bytes = 32) := ⟨hi0, hi1, hi2, hi3⟩
  rw [hn] at h100 ⊢
  clear hr hok hn hi0 hi1 hi2 hi3
  go_enter Tryz.func33, Tryz.ntmps33
  go_wp2
  go_loopw [3, 8] (fun ov iv wr => ∃ (k : Nat) (us : List Pu) (v : Value), k ≤ n ∧ iv = .int .i64 k ∧ v = ov ∧ OwnG wr w.heap.size v us ∧ CpAll wr v us (l.take k) ∧ BA wr w.heap.size v us ∧ Below w.heap.size w wr) (fun _ iv _ => n - (intOf iv).toNat)
  case atStart => exact ⟨0, [], _, Nat.zero_le _, rfl, rfl, OwnG.nil _ _, CpAll.nil _ _, BA.nil _ _ _, Below.refl _ _⟩
  case round =>
    obtain ⟨k, us, v, hk, rfl, rfl, hown, hcp, hba, hb⟩ := hrel
    have HA : Hid (BA wr w.heap.size v us) := hba
    have HO : Hid (OwnG wr w.heap.size v us) := hown
    have HC : Hid (CpAll wr v us (l.take k)) := hcp
    have HB : Hid (Below w.heap.size w wr) := hb
    have HUL : Hid (us.length = k) := by show _ = _; rw [hcp.1, List.length_take, HN.out]; omega
    clear hown hcp hba hb
    by_cases hlt : k < n
    · have hlt' : (k : Int) < (n : Int) := by omega
      obtain ⟨b, off, id, ls, la, lc, rfl, -, hx, c1, c2, -, hrl⟩ := (R.out.below HB.out).at (k := k) (by rw [HN.out]; exact hlt)
      have HX : Hid (l[k]? = some (id, ls)) := hx
      have pok := HOK.out (id, ls) (List.mem_of_getElem? hx)
      have HSX : Hid (ls.length ≤ 6) := pok.six
      have HNE : Hid (ls ≠ []) := by have := pok.two; show _ ≠ _; intro e; simp [e] at this
      have HRL : Hid (RowL (wr.alloc (.cells #[.int .i64 id, .slice la ls.length lc] 34)) la ls) := hrl.below (below_box wr _)
      clear hx hrl pok
      go_wp2_with (first
        | (go_at_call 34; refine (copyOf_own id ls _ la lc _ rfl HSX.out HNE.out HRL.out).mono ?_; rintro e w2 ⟨g, c, rfl, hgc, hg1, hg2, hgr, hbk, hb2⟩)
        | (at_builtin; refine wpList_append_own_at _ rfl (.tmp 12) (.tmp 15) 31 rfl w.heap.size 34 i0 _ 2 32 Tryz.underlying31 HI.out.1 HI.out.2.1 HI.out.2.2.1 HI.out.2.2.2 rfl (by decide) v us.length (flatP us) rfl (World.ownsRow.alloc ((HO.out.still (below_box wr _)).still hb2) _) ⟨w2.heap.size, 0, none⟩ 1 1 [.int .i64 id, .slice (some ⟨g, 0, none⟩) ls.length c] rfl rfl (cellL_new _ _ _ _) ?q1 ?q2 ?q3 ?q4 ?_))
      case q1 => intro u hu; simp at hu; rcases hu with rfl | rfl <;> rfl
      case q2 => unfold maxLen; have := HUL.out; omega
      case q3 => have := HUL.out; omega
      case q4 => have := HB.out.size; have := hb2.size; simp at this ⊢; omega
      intro v' w1 hown hgrow _ hat
      have hb3 : Below wr.heap.size wr w2 := (box2_below hb2).2.2
      obtain ⟨us', hul, ho', hc', hba', hb'⟩ := CpAll.stepS rfl hbk (HA.out.below hb3) HSX.out (below_on HB.out (Nat.le_refl _) hb3) (HO.out.still hb3) (HC.out.below hb3) (fun j hj => (World.ownsRow.lt HO.out j hj).2) HB.out.size (by simp at hg1; omega) hg2 hgc hgr hown hgrow hat
      rw [← Lg.take_snoc l k _ HX.out] at hc'
      have HF : Hid (OwnG w1 w.heap.size v' us' ∧ CpAll w1 v' us' (l.take (k + 1)) ∧ BA w1 w.heap.size v' us' ∧ Below w.heap.size w w1) := ⟨ho', hc', hba', hb'⟩
      clear hown hgrow hat hb2 hb3 ho' hc' hba' hb' hgr hbk
      go_wp2
      go_roundw
      case rel => exact ⟨k + 1, us', _, by omega, by go_num, rfl, HF.out.1, HF.out.2.1, HF.out.2.2.1, HF.out.2.2.2⟩
      case measure => simp [intOf]; omega
    · obtain rfl : k = n := by omega
      have HTK : Hid (l.take k = l) := by show _ = _; rw [List.take_of_length_le (by rw [HN.out]; exact Nat.le_refl _)]
      go_wp2
      go_ret
      refine ⟨_, us, rfl, HO.out, ?_, HA.out, HB.out⟩
      have := HC.out
      rw [HTK.out] at this
      exact this
end Go.Proofs.YtandlmnbnjkklaaGreatDoor
