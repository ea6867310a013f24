/- Lines, postings, and what must be in any case. The program's copy of lines, with what may be written told besides. -/
import Derived.Test.YtandlmnbnjkklaaGreatDoorLgQ8ToLgP
import Derived.Test.YtandlmnbnjkklaaGreatDoorLgQ4ToLgQ5
namespace Go.Proofs.YtandlmnbnjkklaaGreatDoor
open Go.RowKit Go.BigFrame

theorem mkLine_any (x y : Int) (w : World) : Calls Tryz.prog 14 #[.int .i64 x, .int .i64 y] w fun e w' => e = .returned (.agg #[.int .i64 x, .int .i64 y]) ∧ Below w.heap.size w w' := by
  go_enter Tryz.func14, Tryz.ntmps14
  go_wp2
  exact bodyPost_ret (v := .agg #[.int .i64 x, .int .i64 y]) (by simp [results, Tryz.results14, go_sem]) rfl ⟨rfl, (Below.refl _ _).alloc (Nat.le_refl _) _⟩
theorem mkPosting_any (id : Int) (a : Option Addr) (n c : Nat) (w : World) : Calls Tryz.prog 44 #[.int .i64 id, .slice a n c] w fun e w' => e = .returned (.agg #[.int .i64 id, .slice a n c]) ∧ Below w.heap.size w w' := by
  go_enter Tryz.func44, Tryz.ntmps44
  go_wp2
  exact bodyPost_ret (v := .agg #[.int .i64 id, .slice a n c]) (by simp [results, Tryz.results44, go_sem]) rfl ⟨rfl, (Below.refl _ _).alloc (Nat.le_refl _) _⟩
/-- a ledger that was answered, to be read on -/
structure Ldg (w : World) (a : Option Addr) (n cap : Nat) (l : List Lg.Ps) : Prop where
  len : l.length = n
  fits : l.length ≤ maxLen ∧ l.length ≤ cap
  nil : a = none → l = [] ∧ cap = 0
  fit : Fit l
  row : RowG w a l
theorem Ldg.below {w w' : World} {a : Option Addr} {n cap : Nat} {l : List Lg.Ps} (h : Ldg w a n cap l) (hb : Below w.heap.size w w') : Ldg w' a n cap l := ⟨h.len, h.fits, h.nil, h.fit, h.row.below hb⟩
theorem Ldg.empty (w : World) : Ldg w none 0 0 [] := ⟨rfl, ⟨Nat.zero_le _, Nat.zero_le _⟩, fun _ => ⟨rfl, rfl⟩, fun p hp => (by cases hp), RowG.nil _ _⟩
theorem ldg_of {w w' : World} {r : List Lg.Ps × Int} {l : List Lg.Ps} {c : Int} {e : Ending} (h : ldgPost w r e w') (hr : r = (l, c)) (hm : l.length ≤ maxLen) : ∃ a cap, e = .returned (.tuple #[.slice a l.length cap, .int .i64 c]) ∧ Ldg w' a l.length cap l ∧ Below w.heap.size w w' := by
  subst hr
  obtain ⟨a, cap, h1, h2, h3, h4, h5, h6⟩ := h
  exact ⟨a, cap, h1, ⟨rfl, ⟨hm, h2⟩, h3, h4, h5⟩, h6⟩
theorem lPost_at {l : List Lg.Ps} {a : Option Addr} {n cap : Nat} {w : World} (h : Ldg w a n cap l) (id : Int) (ls : List Lg.Ln) (pa : Option Addr) (q pc : Nat) (r : List Lg.Ps) (c : Int) (hq : ls.length = q) (hpl : ls.length ≤ maxLen ∧ ls.length ≤ pc) (hpr : RowL w pa ls) (hc : Lg.post l (id, ls) = (r, c)) (hm : r.length ≤ maxLen) :
    Calls Tryz.prog 9 #[.slice a n cap, .agg #[.int .i64 id, .slice pa q pc]] w fun e w' => ∃ a' cap', e = .returned (.tuple #[.slice a' r.length cap', .int .i64 c]) ∧ Ldg w' a' r.length cap' r ∧ Below w.heap.size w w' := by
  have := h.len
  subst this hq
  exact (lPost_any l a cap id ls pa pc w h.fits h.nil h.fit h.row hpl hpr).mono fun _ _ hh => ldg_of hh hc hm
theorem lReverse_at {l : List Lg.Ps} {a : Option Addr} {n cap : Nat} {w : World} (h : Ldg w a n cap l) (id as' : Int) (r : List Lg.Ps) (c : Int) (hc : Lg.rev l id as' = (r, c)) (hm : r.length ≤ maxLen) :
    Calls Tryz.prog 45 #[.slice a n cap, .int .i64 id, .int .i64 as'] w fun e w' => ∃ a' cap', e = .returned (.tuple #[.slice a' r.length cap', .int .i64 c]) ∧ Ldg w' a' r.length cap' r ∧ Below w.heap.size w w' := by
  have := h.len
  subst this
  exact (lReverse_any l a cap id as' w h.fits h.nil h.fit h.row).mono fun _ _ hh => ldg_of hh hc hm
theorem lBalance_at {l : List Lg.Ps} {a : Option Addr} {n cap : Nat} {w : World} (h : Ldg w a n cap l) (acc v c : Int) (hv : Lg.balV l acc = v) (hc : Lg.balC l acc = c) :
    Calls Tryz.prog 46 #[.slice a n cap, .int .i64 acc] w fun e w' => e = .returned (.tuple #[.int .i64 v, .int .i64 c]) ∧ Below w.heap.size w w' := by
  have := h.len
  subst this hv hc
  exact lBalance_any l a cap acc w h.fits h.fit h.row
theorem lCheck_at {l : List Lg.Ps} {a : Option Addr} {n cap : Nat} {w : World} (h : Ldg w a n cap l) (c : Int) (hc : Lg.chk l = c) :
    Calls Tryz.prog 29 #[.slice a n cap] w fun e w' => e = .returned (.int .i64 c) ∧ Below w.heap.size w w' := by
  have := h.len
  subst this hc
  exact lCheck_any l a cap w h.fits h.fit h.row
def ls6 : List Lg.Ln := [(1, 600), (2, -600)]
def ls7 : List Lg.Ln := [(1, 700), (2, -700)]
def ls5 : List Lg.Ln := [(1, 600), (2, -500)]
def lg1 : List Lg.Ps := [(5, ls6)]
def lg2 : List Lg.Ps := [(5, ls6), (6, [(1, -600), (2, 600)])]
theorem bg1 : Lg.post [] (5, ls6) = (lg1, 0) := by decide +kernel
theorem bg2 : Lg.post lg1 (5, ls6) = (lg1, 0) := by decide +kernel
theorem bg3 : Lg.post lg1 (5, ls7) = ([], 6) := by decide +kernel
theorem bg4 : Lg.rev lg1 5 6 = (lg2, 0) := by decide +kernel
theorem bg5 : Lg.balV lg1 1 = 600 ∧ Lg.balC lg1 1 = 0 := by decide +kernel
theorem bg6 : Lg.balV lg2 1 = 0 ∧ Lg.balC lg2 1 = 0 := by decide +kernel
theorem bg7 : Lg.post lg1 (7, ls5) = ([], 4) := by decide +kernel
set_option maxRecDepth 100000 in
set_option maxHeartbeats 4000000 in
theorem lbegun_any (w : World) : Calls Tryz.prog 12 #[] w fun e w' => e = .returned (.bool true) ∧ Below w.heap.size w w' := by
  go_enter Tryz.func12, Tryz.ntmps12
  have B0 : Hid (Below w.heap.size w w) := Below.refl _ _
  go_wp2_with fail
  refine (mkLine_any 1 (600) _).mono ?_
  rintro e w1 ⟨rfl, hb⟩
  have B1 : Hid (Below w.heap.size w w1) := below_on B0.out (Nat.le_refl _) hb
  clear hb
  go_wp2_with fail
  refine (mkLine_any 2 (-600) _).mono ?_
  rintro e w2 ⟨rfl, hb⟩
  have B2 : Hid (Below w.heap.size w w2) := below_on B1.out (Nat.le_refl _) hb
  clear hb
  have RL2 : Hid (RowL (w2.alloc (.cells #[.int .i64 1, .int .i64 (600), .int .i64 2, .int .i64 (-600)] 54)) (some ⟨w2.heap.size, 0, none⟩) ls6) := lit_rowL w2 ls6 _ rfl (by decide)
  go_wp2_with fail
  refine (mkPosting_any 5 _ _ _ _).mono ?_
  rintro e w3 ⟨rfl, hb⟩
  have RP3 : Hid (RowL w3 (some ⟨w2.heap.size, 0, none⟩) ls6) := RL2.out.below hb
  have BB3 : Hid (Below w2.heap.size w2 w3) := below_on (below_box w2 _) (Nat.le_refl _) hb
  have B3 : Hid (Below w.heap.size w w3) := below_on B2.out (Nat.le_refl _) BB3.out
  clear hb
  go_wp2_with fail
  refine (lPost_at (Ldg.empty _) 5 ls6 _ _ _ lg1 0 rfl ⟨by decide, by decide⟩ RP3.out bg1 (by decide)).mono ?_
  rintro e w4 ⟨Aa, Ac, rfl, hl, hb⟩
  have B4 : Hid (Below w.heap.size w w4) := below_on B3.out (Nat.le_refl _) hb
  have LA : Hid (Ldg w4 Aa lg1.length Ac lg1) := hl
  clear hb hl
  go_wp2_with fail
  refine (mkLine_any 1 (600) _).mono ?_
  rintro e w5 ⟨rfl, hb⟩
  have B5 : Hid (Below w.heap.size w w5) := below_on B4.out (Nat.le_refl _) hb
  have LA : Hid (Ldg w5 Aa lg1.length Ac lg1) := LA.out.below hb
  clear hb
  go_wp2_with fail
  refine (mkLine_any 2 (-600) _).mono ?_
  rintro e w6 ⟨rfl, hb⟩
  have B6 : Hid (Below w.heap.size w w6) := below_on B5.out (Nat.le_refl _) hb
  have LA : Hid (Ldg w6 Aa lg1.length Ac lg1) := LA.out.below hb
  clear hb
  have RL6 : Hid (RowL (w6.alloc (.cells #[.int .i64 1, .int .i64 (600), .int .i64 2, .int .i64 (-600)] 54)) (some ⟨w6.heap.size, 0, none⟩) ls6) := lit_rowL w6 ls6 _ rfl (by decide)
  go_wp2_with fail
  refine (mkPosting_any 5 _ _ _ _).mono ?_
  rintro e w7 ⟨rfl, hb⟩
  have RP7 : Hid (RowL w7 (some ⟨w6.heap.size, 0, none⟩) ls6) := RL6.out.below hb
  have BB7 : Hid (Below w6.heap.size w6 w7) := below_on (below_box w6 _) (Nat.le_refl _) hb
  have B7 : Hid (Below w.heap.size w w7) := below_on B6.out (Nat.le_refl _) BB7.out
  have LA : Hid (Ldg w7 Aa lg1.length Ac lg1) := LA.out.below BB7.out
  clear hb
  go_wp2_with fail
  refine (lPost_at LA.out 5 ls6 _ _ _ lg1 0 rfl ⟨by decide, by decide⟩ RP7.out bg2 (by decide)).mono ?_
  rintro e w8 ⟨Ba, Bc, rfl, hl, hb⟩
  have B8 : Hid (Below w.heap.size w w8) := below_on B7.out (Nat.le_refl _) hb
  have LA : Hid (Ldg w8 Aa lg1.length Ac lg1) := LA.out.below hb
  have LB : Hid (Ldg w8 Ba lg1.length Bc lg1) := hl
  clear hb hl
  go_wp2_with fail
  refine (mkLine_any 1 (700) _).mono ?_
  rintro e w9 ⟨rfl, hb⟩
  have B9 : Hid (Below w.heap.size w w9) := below_on B8.out (Nat.le_refl _) hb
  have LA : Hid (Ldg w9 Aa lg1.length Ac lg1) := LA.out.below hb
  have LB : Hid (Ldg w9 Ba lg1.length Bc lg1) := LB.out.below hb
  clear hb
  go_wp2_with fail
  refine (mkLine_any 2 (-700) _).mono ?_
  rintro e w10 ⟨rfl, hb⟩
  have B10 : Hid (Below w.heap.size w w10) := below_on B9.out (Nat.le_refl _) hb
  have LA : Hid (Ldg w10 Aa lg1.length Ac lg1) := LA.out.below hb
  have LB : Hid (Ldg w10 Ba lg1.length Bc lg1) := LB.out.below hb
  clear hb
  have RL10 : Hid (RowL (w10.alloc (.cells #[.int .i64 1, .int .i64 (700), .int .i64 2, .int .i64 (-700)] 54)) (some ⟨w10.heap.size, 0, none⟩) ls7) := lit_rowL w10 ls7 _ rfl (by decide)
  go_wp2_with fail
  refine (mkPosting_any 5 _ _ _ _).mono ?_
  rintro e w11 ⟨rfl, hb⟩
  have RP11 : Hid (RowL w11 (some ⟨w10.heap.size, 0, none⟩) ls7) := RL10.out.below hb
  have BB11 : Hid (Below w10.heap.size w10 w11) := below_on (below_box w10 _) (Nat.le_refl _) hb
  have B11 : Hid (Below w.heap.size w w11) := below_on B10.out (Nat.le_refl _) BB11.out
  have LA : Hid (Ldg w11 Aa lg1.length Ac lg1) := LA.out.below BB11.out
  have LB : Hid (Ldg w11 Ba lg1.length Bc lg1) := LB.out.below BB11.out
  clear hb
  go_wp2_with fail
  refine (lPost_at LA.out 5 ls7 _ _ _ [] 6 rfl ⟨by decide, by decide⟩ RP11.out bg3 (by decide)).mono ?_
  rintro e w12 ⟨Da, Dc, rfl, hl, hb⟩
  have B12 : Hid (Below w.heap.size w w12) := below_on B11.out (Nat.le_refl _) hb
  have LA : Hid (Ldg w12 Aa lg1.length Ac lg1) := LA.out.below hb
  have LB : Hid (Ldg w12 Ba lg1.length Bc lg1) := LB.out.below hb
  clear hb hl
  go_wp2_with fail
  refine (lReverse_at LB.out 5 6 lg2 0 bg4 (by decide)).mono ?_
  rintro e w13 ⟨Ca, Cc, rfl, hl, hb⟩
  have B13 : Hid (Below w.heap.size w w13) := below_on B12.out (Nat.le_refl _) hb
  have LA : Hid (Ldg w13 Aa lg1.length Ac lg1) := LA.out.below hb
  have LB : Hid (Ldg w13 Ba lg1.length Bc lg1) := LB.out.below hb
  have LC : Hid (Ldg w13 Ca lg2.length Cc lg2) := hl
  clear hb hl
  go_wp2_with fail
  refine (lBalance_at LA.out 1 600 0 bg5.1 bg5.2).mono ?_
  rintro e w14 ⟨rfl, hb⟩
  have B14 : Hid (Below w.heap.size w w14) := below_on B13.out (Nat.le_refl _) hb
  have LA : Hid (Ldg w14 Aa lg1.length Ac lg1) := LA.out.below hb
  have LB : Hid (Ldg w14 Ba lg1.length Bc lg1) := LB.out.below hb
  have LC : Hid (Ldg w14 Ca lg2.length Cc lg2) := LC.out.below hb
  clear hb
  go_wp2_with fail
  refine (lBalance_at LC.out 1 0 0 bg6.1 bg6.2).mono ?_
  rintro e w15 ⟨rfl, hb⟩
  have B15 : Hid (Below w.heap.size w w15) := below_on B14.out (Nat.le_refl _) hb
  have LA : Hid (Ldg w15 Aa lg1.length Ac lg1) := LA.out.below hb
  have LB : Hid (Ldg w15 Ba lg1.length Bc lg1) := LB.out.below hb
  have LC : Hid (Ldg w15 Ca lg2.length Cc lg2) := LC.out.below hb
  clear hb
  go_wp2_with fail
  refine (mkLine_any 1 (600) _).mono ?_
  rintro e w16 ⟨rfl, hb⟩
  have B16 : Hid (Below w.heap.size w w16) := below_on B15.out (Nat.le_refl _) hb
  have LA : Hid (Ldg w16 Aa lg1.length Ac lg1) := LA.out.below hb
  have LB : Hid (Ldg w16 Ba lg1.length Bc lg1) := LB.out.below hb
  have LC : Hid (Ldg w16 Ca lg2.length Cc lg2) := LC.out.below hb
  clear hb
  go_wp2_with fail
  refine (mkLine_any 2 (-500) _).mono ?_
  rintro e w17 ⟨rfl, hb⟩
  have B17 : Hid (Below w.heap.size w w17) := below_on B16.out (Nat.le_refl _) hb
  have LA : Hid (Ldg w17 Aa lg1.length Ac lg1) := LA.out.below hb
  have LB : Hid (Ldg w17 Ba lg1.length Bc lg1) := LB.out.below hb
  have LC : Hid (Ldg w17 Ca lg2.length Cc lg2) := LC.out.below hb
  clear hb
  have RL17 : Hid (RowL (w17.alloc (.cells #[.int .i64 1, .int .i64 (600), .int .i64 2, .int .i64 (-500)] 54)) (some ⟨w17.heap.size, 0, none⟩) ls5) := lit_rowL w17 ls5 _ rfl (by decide)
  go_wp2_with fail
  refine (mkPosting_any 7 _ _ _ _).mono ?_
  rintro e w18 ⟨rfl, hb⟩
  have RP18 : Hid (RowL w18 (some ⟨w17.heap.size, 0, none⟩) ls5) := RL17.out.below hb
  have BB18 : Hid (Below w17.heap.size w17 w18) := below_on (below_box w17 _) (Nat.le_refl _) hb
  have B18 : Hid (Below w.heap.size w w18) := below_on B17.out (Nat.le_refl _) BB18.out
  have LA : Hid (Ldg w18 Aa lg1.length Ac lg1) := LA.out.below BB18.out
  have LB : Hid (Ldg w18 Ba lg1.length Bc lg1) := LB.out.below BB18.out
  have LC : Hid (Ldg w18 Ca lg2.length Cc lg2) := LC.out.below BB18.out
  clear hb
  go_wp2_with fail
  refine (lPost_at LA.out 7 ls5 _ _ _ [] 4 rfl ⟨by decide, by decide⟩ RP18.out bg7 (by decide)).mono ?_
  rintro e w19 ⟨Ea, Ec, rfl, hl, hb⟩
  have B19 : Hid (Below w.heap.size w w19) := below_on B18.out (Nat.le_refl _) hb
  have LA : Hid (Ldg w19 Aa lg1.length Ac lg1) := LA.out.below hb
  have LB : Hid (Ldg w19 Ba lg1.length Bc lg1) := LB.out.below hb
  have LC : Hid (Ldg w19 Ca lg2.length Cc lg2) := LC.out.below hb
  clear hb hl
  go_wp2
  go_ret
  exact ⟨rfl, B19.out⟩
end Go.Proofs.YtandlmnbnjkklaaGreatDoor
namespace Go.Proofs.YtandlmnbnjkklaaGreatDoor
open Go.RowKit Go.BigFrame

/-- a block of lines that may be written, whatever it holds -/
def BlkL (w : World) (g n : Nat) : Prop := g < w.heap.size ∧ ∃ cur, w.heap[g]? = some (.cells cur 54 (0, 0)) ∧ n * 2 ≤ cur.size
theorem BlkL.below {w w' : World} {g n : Nat} (h : BlkL w g n) (hb : Below w.heap.size w w') : BlkL w' g n := by
  obtain ⟨h1, cur, h2, h3⟩ := h
  exact ⟨Nat.lt_of_lt_of_le h1 hb.size, cur, by rw [hb.block g h1]; exact h2, h3⟩
theorem BlkL.grown {w w' : World} {g n : Nat} {row : Option Nat} (h : BlkL w g n) (hg : w.grownBy w' row) (hne : row ≠ some g) : BlkL w' g n := by
  obtain ⟨h1, cur, h2, h3⟩ := h
  exact ⟨Nat.lt_of_lt_of_le h1 hg.size, cur, by rw [hg.block g h1 (fun e => hne e.symm)]; exact h2, h3⟩
theorem BlkL.set {w : World} {g n : Nat} (h : BlkL w g n) (b k : Nat) (u : Value) : BlkL (w.setCell ⟨b, k, none⟩ u) g n := by
  obtain ⟨h1, cur, h2, h3⟩ := h
  refine ⟨by rw [Deep.nblk_setCell]; exact h1, ?_⟩
  by_cases e : b = g
  · subst e
    refine ⟨cur.setIfInBounds k u, ?_, by simpa using h3⟩
    simp [World.setCell, Array.getElem?_modify, h2]
  · refine ⟨cur, ?_, h3⟩
    simp [World.setCell, Array.getElem?_modify, h2, e]
theorem BlkL.cell {w : World} {g n : Nat} (h : BlkL w g n) (k : Nat) (hk : k < n * 2) : (∃ u, w.cell? ⟨g, k, none⟩ = some u) ∧ w.frozen? ⟨g, k, none⟩ = false := by
  obtain ⟨h1, cur, h2, h3⟩ := h
  refine ⟨⟨cur[k]'(by omega), ?_⟩, ?_⟩
  · simp [World.cell?, h2, show k < cur.size by omega]
  · simp [World.frozen?, h2]
theorem OwnL.blk {w : World} {B g c n : Nat} {xs : List Lg.Ln} (h : OwnL w B (.slice (some ⟨g, 0, none⟩) n c) xs) : BlkL w g xs.length := by
  have hlt := World.ownsRow.lt h
  rcases h.2 with ⟨h1, h2⟩ | ⟨g', cap, cur, h1, h2, h3, h4, _, h5, _⟩
  · cases h1
  · cases h1
    exact ⟨(hlt g rfl).2, cur, h3, by omega⟩
set_option maxRecDepth 100000 in
set_option maxHeartbeats 1000000 in
theorem lClone_own (l : List Lg.Ln) (a : Option Addr) (cap : Nat) (w : World) (hl : l.length ≤ 1000000) (hn : l ≠ []) (hr : RowL w a l) :
    Calls Tryz.prog 60 #[.slice a l.length cap] w fun e w' => ∃ g c, e = .returned (.slice (some ⟨g, 0, none⟩) l.length c) ∧ l.length ≤ c ∧ w.heap.size ≤ g ∧ RowL w' (some ⟨g, 0, none⟩) l ∧ BlkL w' g l.length ∧ Below w.heap.size w w' := by
  have q22 : ∀ (w : World) (a : Option Addr) (n c n' c' : Nat), (binOp .eql 32 (.slice a n c) (.slice none n' c')).run Tryz.prog w = .ok (.bool a.isNone) w := fun w a n c n' c' => Lib.run_eql_slice_nil w _ _ a n c n' c' Tryz.underlying32
  obtain ⟨i0, hi, hz0, hz1, hz2⟩ := infoL
  obtain ⟨ad, rfl⟩ : ∃ ad, a = some ad := by
    rcases hr with h | ⟨b, off, h, _⟩
    · exact absurd h hn
    · exact ⟨_, h⟩
  have HN := (hr.below (below_box w (.cells #[] 54))).news ad rfl
  have HR : Hid (_) := HN
  have HNE : Hid (l ≠ []) := hn
  clear hr hn HN
  go_enter Tryz.func60, Tryz.ntmps60
  go_wp2_with (at_builtin; refine wpList_append_own _ rfl _ _ 32 rfl w.heap.size 54 i0 _ 2 16 Tryz.underlying32 hi hz0 hz1 hz2 rfl (by omega) _ _ _ rfl (World.ownsRow_made w #[] 0 (Nat.le_refl _) (Nat.zero_le _) (by simp)) ad l.length cap (flatL l) rfl ?qc1 ?qc2 ?qc3 ?qc4 ?qc5 ?qc6 ?_)
  case qc1 => exact flatL_len l
  case qc2 => exact HR.out
  case qc3 => exact flatL_one l
  case qc4 => unfold maxLen; omega
  case qc5 => omega
  case qc6 => simp
  intro v' w1 hown hgrow hnil
  go_wp2
  go_ret
  have ho : OwnL w1 w.heap.size v' l := by unfold OwnL; simpa using hown
  rcases ho.form with ⟨-, h⟩ | ⟨g, c, rfl, hB, hg⟩
  · exact absurd h HNE.out
  · have hfit := ho.fits rfl
    have hblk := ho.blk
    obtain ⟨a2, c2, e2, -, hrow⟩ := ho.row
    cases e2
    exact ⟨g, c, rfl, hfit, hB, hrow, hblk, ((Below.refl _ w).alloc (Nat.le_refl _) _).grown hgrow (by simp) (by intro k hk; simp [Value.ownBlock] at hk; omega)⟩
end Go.Proofs.YtandlmnbnjkklaaGreatDoor
