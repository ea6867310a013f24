/- The program's question whether a day is one of work. -/
import Derived.Test.YtehopfpcikbaiaaDoorWAlm
namespace Go.Proofs.YtehopfpcikbaiaaDoor
open Go.RowKit

theorem Cal.yr_is (n y m d : Int) (hv : Cal.vld y m d) (hn : Cal.num y m d = n) : y = Cal.yr n := by
  have h1 := Cal.num_bd y m d hv
  have h2 := Cal.yr_spec n
  rw [hn] at h1
  exact Cal.year_inj n y (Cal.yr n) h1.1 h1.2 h2.1 h2.2
theorem Laid.grown {W W' : World} {bm : Nat} (h : Laid W) (hb : 0 < bm) (hg : W.grownBy W' (some bm)) : Laid W' :=
  ⟨Nat.lt_of_lt_of_le h.1 hg.size, fun k hk => hg.cell (h.2 k hk) (fun e => by have e' : (0 : Nat) = bm := Option.some.inj e; omega)⟩
theorem Row4.grown {W W' : World} {a : Option Addr} {l : List Wk.Rl} {bm B : Nat} (h : Row4 W a l) (hB : ∀ b off, a = some ⟨b, off, none⟩ → b < B) (hb : B ≤ bm) (hg : W.grownBy W' (some bm)) : Row4 W' a l := by
  rcases h with h | ⟨b, off, rfl, hlt, hc⟩
  · exact .inl h
  · have hbB := hB b off rfl
    have hne : some b ≠ some bm := by intro e; injection e with e; omega
    refine .inr ⟨b, off, rfl, Nat.lt_of_lt_of_le hlt hg.size, fun i hi => ?_⟩
    obtain ⟨c1, c2, c3, c4⟩ := hc i hi
    exact ⟨hg.cell c1 hne, hg.cell c2 hne, hg.cell c3 hne, hg.cell c4 hne⟩
/-- what an almanac's asker knows: the table, the rules, the map -/
structure Open (W : World) (R : Wk.Rst) (l : List Wk.Rl) (a : Option Addr) (bm B n : Nat) : Prop where
  laid : Laid W
  rules : Row4 W a l
  few : l.length ≤ 12
  right : ∀ r ∈ l, Wk.rchk r = 0
  free : R.all = false
  low : l = [] ∨ ∀ b off, a = some ⟨b, off, none⟩ → b < B
  above : B ≤ bm
  pos : 0 < B
  alm : Alm W bm n R l
theorem Open.below {W W' : World} {R : Wk.Rst} {l : List Wk.Rl} {a : Option Addr} {bm B n : Nat} (h : Open W R l a bm B n) (hb : Below W.heap.size W W') : Open W' R l a bm B n :=
  ⟨h.laid.below hb, h.rules.below hb, h.few, h.right, h.free, h.low, h.above, h.pos, h.alm.below hb⟩
theorem Open.mono {W : World} {R : Wk.Rst} {l : List Wk.Rl} {a : Option Addr} {bm B n n' : Nat} (h : Open W R l a bm B n) (hn : n ≤ n') : Open W R l a bm B n' :=
  ⟨h.laid, h.rules, h.few, h.right, h.free, h.low, h.above, h.pos, h.alm.mono hn⟩
theorem Open.grown {W W' : World} {R : Wk.Rst} {l : List Wk.Rl} {a : Option Addr} {bm B n n' : Nat} (h : Open W R l a bm B n) (hg : W.grownBy W' (some bm)) (hA : Alm W' bm n' R l) : Open W' R l a bm B n' := by
  refine ⟨h.laid.grown (Nat.lt_of_lt_of_le h.pos h.above) hg, ?_, h.few, h.right, h.free, h.low, h.above, h.pos, hA⟩
  rcases h.low with e | hlow
  · exact .inl e
  · exact h.rules.grown hlow h.above hg
theorem kept_open {W : World} {R : Wk.Rst} {l : List Wk.Rl} {a : Option Addr} {bm B n : Nat} (h : Open W R l a bm B n) (cap : Nat) (y : Int) (h1 : 0 ≤ y) (h2 : y ≤ 9998) (hn : n < 100000000) :
    Calls Tryd.prog 44 #[almV R a l.length cap bm, .int .i64 y] W fun e W' => ∃ a' cap', e = .returned (.slice a' (Wk.hol R l y).length cap') ∧ Row1 W' a' (Wk.hol R l y) ∧ Open W' R l a bm B (n + 1) ∧ W.grownBy W' (some bm) := by
  refine (wKept R l a cap bm n y W h.laid h.free h.few h.right h.rules h1 h2 hn h.alm).mono ?_
  rintro e W' ⟨a', cap', rfl, r, A, g⟩
  exact ⟨a', cap', rfl, r, h.grown g A, g⟩
set_option maxRecDepth 100000 in
set_option maxHeartbeats 4000000 in
theorem wIs_no {W : World} {R : Wk.Rst} {l : List Wk.Rl} {a : Option Addr} {bm B N : Nat} (h : Open W R l a bm B N) (cap : Nat) (n : Int) (hn : ¬ (1 ≤ n ∧ n ≤ 3651693)) :
    Calls Tryd.prog 29 #[almV R a l.length cap bm, .int .i64 n] W fun e W' => e = .returned (.tuple #[.bool false, .int .i64 3]) ∧ Open W' R l a bm B N ∧ W.grownBy W' (some bm) := by
  have bA := below_box W (.cells #[.bool R.b0, .bool R.b1, .bool R.b2, .bool R.b3, .bool R.b4, .bool R.b5, .bool R.b6, .slice a l.length cap, .map (some bm)] 65)
  have HO : Hid (_) := And.intro (h.below bA) (grown_of_below bA (some bm))
  clear h bA
  go_enter Tryd.func29, Tryd.ntmps29
  go_wp2_with fail
  refine (wDay_is n false _ (decide_eq_false hn)).mono ?_
  rintro e w1 ⟨rfl, rfl⟩
  clear hn
  go_wp2
  go_ret2
  exact ⟨rfl, HO.out.1, HO.out.2⟩
set_option maxRecDepth 100000 in
set_option maxHeartbeats 8000000 in
theorem wIs_ok {W : World} {R : Wk.Rst} {l : List Wk.Rl} {a : Option Addr} {bm B N : Nat} (h : Open W R l a bm B N) (cap : Nat) (n : Int) (h1 : 1 ≤ n) (h2 : n ≤ 3651693) (hN : N < 90000000) :
    Calls Tryd.prog 29 #[almV R a l.length cap bm, .int .i64 n] W fun e W' => e = .returned (.tuple #[.bool (Wk.isW R l n), .int .i64 0]) ∧ Open W' R l a bm B (N + 2) ∧ W.grownBy W' (some bm) := by
  have bA := below_box W (.cells #[.bool R.b0, .bool R.b1, .bool R.b2, .bool R.b3, .bool R.b4, .bool R.b5, .bool R.b6, .slice a l.length cap, .map (some bm)] 65)
  have OA := h.below bA
  have gA := grown_of_below bA (some bm)
  have hbm := h.alm.lt
  have sA : W.heap.size < (W.alloc (.cells #[.bool R.b0, .bool R.b1, .bool R.b2, .bool R.b3, .bool R.b4, .bool R.b5, .bool R.b6, .slice a l.length cap, .map (some bm)] 65)).heap.size := by simp
  have CS : ∀ j v, (#[.bool R.b0, .bool R.b1, .bool R.b2, .bool R.b3, .bool R.b4, .bool R.b5, .bool R.b6, .slice a l.length cap, .map (some bm)] : Array Value)[j]? = some v → (W.alloc (.cells #[.bool R.b0, .bool R.b1, .bool R.b2, .bool R.b3, .bool R.b4, .bool R.b5, .bool R.b6, .slice a l.length cap, .map (some bm)] 65)).cell? ⟨W.heap.size, j, none⟩ = some v := fun j v hj => boxCells W _ _ j v hj
  have HCS : Hid (_) := CS
  have HE : Hid (Wk.isW R l n = !(R.rest n || decide (n ∈ Wk.hol R l (Cal.yr n)) || decide (n ∈ Wk.hol R l (Cal.yr n - 1)))) := by
    unfold Hid Wk.isW
    simp only [Wk.mem_hol]
  have hfew : ∀ y, (Wk.hol R l y).length ≤ 1000 := fun y => Nat.le_trans (hol_len R l y) (by have := h.few; omega)
  have HFEW : Hid (_) := hfew
  have hyr := Cal.yr_in n h1 (by omega)
  have HYM : Hid (Cal.yr n ≤ 9998) := by
    unfold Hid
    have := Cal.yr_spec n
    by_cases c : Cal.yr n ≤ 9998
    · exact c
    · have e : Cal.yr n = 9999 := by omega
      rw [e] at this
      have e2 : Cal.ahead 9999 = 3651694 := by decide
      omega
  clear h CS hfew
  generalize Wk.isW R l n = RES at *
  go_enter Tryd.func29, Tryd.ntmps29
  go_wp2_with fail
  refine (wDay_is n true _ (decide_eq_true ⟨h1, h2⟩)).mono ?_
  rintro e w0 ⟨rfl, rfl⟩
  generalize W.alloc (.cells #[.bool R.b0, .bool R.b1, .bool R.b2, .bool R.b3, .bool R.b4, .bool R.b5, .bool R.b6, .slice a l.length cap, .map (some bm)] 65) = wA at *
  go_wp2_with fail
  refine (of_ok n wA OA.laid h1 (by omega)).mono ?_
  rintro e w1 ⟨y, m, d, rfl, hv, hnum, b1⟩
  have ey : y = Cal.yr n := Cal.yr_is n y m d hv hnum
  have b2 := b1.alloc b1.size (.cells #[.int .i64 y, .int .i64 m, .int .i64 d] 57)
  have O2 := OA.below b2
  have g2' := gA.trans (grown_of_below b2 (some bm))
  have s1 : W.heap.size < w1.heap.size := Nat.lt_of_lt_of_le sA b1.size
  have c0 : (w1.alloc (.cells #[.int .i64 y, .int .i64 m, .int .i64 d] 57)).cell? ⟨w1.heap.size, 0, none⟩ = some (.int .i64 y) := by simp
  have HC2 : Hid (∀ j v, (#[.bool R.b0, .bool R.b1, .bool R.b2, .bool R.b3, .bool R.b4, .bool R.b5, .bool R.b6, .slice a l.length cap, .map (some bm)] : Array Value)[j]? = some v → (w1.alloc (.cells #[.int .i64 y, .int .i64 m, .int .i64 d] 57)).cell? ⟨W.heap.size, j, none⟩ = some v) := fun j v hj => (b2.cell (p := ⟨W.heap.size, j, none⟩) sA).trans (HCS.out j v hj)
  have HC1 : Hid (∀ j v, (#[.bool R.b0, .bool R.b1, .bool R.b2, .bool R.b3, .bool R.b4, .bool R.b5, .bool R.b6, .slice a l.length cap, .map (some bm)] : Array Value)[j]? = some v → w1.cell? ⟨W.heap.size, j, none⟩ = some v) := fun j v hj => (b1.cell (p := ⟨W.heap.size, j, none⟩) sA).trans (HCS.out j v hj)
  have HB : Hid (bm ≠ W.heap.size ∧ bm ≠ w1.heap.size) := ⟨by omega, by omega⟩
  have s2 : w1.heap.size < (w1.alloc (.cells #[.int .i64 y, .int .i64 m, .int .i64 d] 57)).heap.size := by simp
  have hyr1 := hyr.1
  clear OA gA b1 b2 hv hnum HCS hyr
  subst ey
  have hb1 : bm ≠ W.heap.size := HB.out.1
  have hb2 : bm ≠ w1.heap.size := HB.out.2
  have g0 := HC1.out 0 _ rfl
  have g1 := HC1.out 1 _ rfl
  have g2 := HC1.out 2 _ rfl
  have g3 := HC1.out 3 _ rfl
  have g4 := HC1.out 4 _ rfl
  have g5 := HC1.out 5 _ rfl
  have g6 := HC1.out 6 _ rfl
  have g7 := HC1.out 7 _ rfl
  have g8 := HC1.out 8 _ rfl
  go_wp2_with fail
  generalize w1.alloc (.cells #[.int .i64 (Cal.yr n), .int .i64 m, .int .i64 d] 57) = w2 at *
  refine (wRest R a l.length cap bm n w2 h1 (by omega)).mono ?_
  rintro e w3 ⟨rfl, b3⟩
  have O3 := O2.below b3
  have g3' := g2'.trans (grown_of_below b3 (some bm))
  have c3 : w3.cell? ⟨w1.heap.size, 0, none⟩ = some (.int .i64 (Cal.yr n)) := (b3.cell (p := ⟨w1.heap.size, 0, none⟩) s2).trans c0
  have s3 : W.heap.size < w3.heap.size := Nat.lt_of_lt_of_le (Nat.lt_trans s1 s2) b3.size
  have s3' : w1.heap.size < w3.heap.size := Nat.lt_of_lt_of_le s2 b3.size
  have HC3 : Hid (∀ j v, (#[.bool R.b0, .bool R.b1, .bool R.b2, .bool R.b3, .bool R.b4, .bool R.b5, .bool R.b6, .slice a l.length cap, .map (some bm)] : Array Value)[j]? = some v → w3.cell? ⟨W.heap.size, j, none⟩ = some v) := fun j v hj => (b3.cell (p := ⟨W.heap.size, j, none⟩) (Nat.lt_trans s1 s2)).trans (HC2.out j v hj)
  clear g0 g1 g2 g3 g4 g5 g6 g7 g8
  clear O2 g2' b3 c0 HC2
  cases hrest : R.rest n with
  | true =>
    have HR : Hid (RES = false) := by unfold Hid; rw [HE.out, hrest]; simp
    clear hrest
    go_wp2
    go_ret2
    exact ⟨by rw [HR.out] <;> rfl, O3.mono (by omega), g3'⟩
  | false =>
    rw [hrest] at HE
    clear hrest
    have g0 := HC3.out 0 _ rfl
    have g1 := HC3.out 1 _ rfl
    have g2 := HC3.out 2 _ rfl
    have g3 := HC3.out 3 _ rfl
    have g4 := HC3.out 4 _ rfl
    have g5 := HC3.out 5 _ rfl
    have g6 := HC3.out 6 _ rfl
    have g7 := HC3.out 7 _ rfl
    have g8 := HC3.out 8 _ rfl
    go_wp2_with fail
    refine (kept_open O3 cap (Cal.yr n) (by omega) HYM.out (by omega)).mono ?_
    rintro e w4 ⟨a4, c4, rfl, r4, O4, gr4⟩
    have g4' := g3'.trans gr4
    have d4 : w4.cell? ⟨w1.heap.size, 0, none⟩ = some (.int .i64 (Cal.yr n)) := gr4.cell c3 (fun e => hb2 (Option.some.inj e).symm)
    have HC4 : Hid (∀ j v, (#[.bool R.b0, .bool R.b1, .bool R.b2, .bool R.b3, .bool R.b4, .bool R.b5, .bool R.b6, .slice a l.length cap, .map (some bm)] : Array Value)[j]? = some v → w4.cell? ⟨W.heap.size, j, none⟩ = some v) := fun j v hj => gr4.cell (HC3.out j v hj) (fun e => hb1 (Option.some.inj e).symm)
    clear g0 g1 g2 g3 g4 g5 g6 g7 g8
    clear O3 g3' gr4 c3 HC3
    cases hin : decide (n ∈ Wk.hol R l (Cal.yr n)) with
    | true =>
      have HR : Hid (RES = false) := by unfold Hid; rw [HE.out, hin]; simp
      go_wp2_with fail
      refine (containsNums _ a4 c4 n true w4 (HFEW.out _) r4 hin).mono ?_
      rintro e w5 ⟨rfl, rfl⟩
      clear hin r4
      go_wp2
      go_ret2
      exact ⟨by rw [HR.out] <;> rfl, O4.mono (by omega), g4'⟩
    | false =>
      rw [hin] at HE
      go_wp2_with fail
      refine (containsNums _ a4 c4 n false w4 (HFEW.out _) r4 hin).mono ?_
      rintro e w5 ⟨rfl, rfl⟩
      clear hin r4
      have g0 := HC4.out 0 _ rfl
      have g1 := HC4.out 1 _ rfl
      have g2 := HC4.out 2 _ rfl
      have g3 := HC4.out 3 _ rfl
      have g4 := HC4.out 4 _ rfl
      have g5 := HC4.out 5 _ rfl
      have g6 := HC4.out 6 _ rfl
      have g7 := HC4.out 7 _ rfl
      have g8 := HC4.out 8 _ rfl
      have hw1 : IntKind.i64.wrap (Cal.yr n - 1) = Cal.yr n - 1 := by have := HYM.out; rw [IntKind.wrap_i64]; omega
      go_wp2_with fail
      refine (kept_open O4 cap (Cal.yr n - 1) (by omega) (by have := HYM.out; omega) (by omega)).mono ?_
      rintro e w6 ⟨a6, c6, rfl, r6, O6, gr6⟩
      have g6' := g4'.trans gr6
      clear g0 g1 g2 g3 g4 g5 g6 g7 g8
      clear O4 g4' gr6 d4 HC4
      cases hin2 : decide (n ∈ Wk.hol R l (Cal.yr n - 1)) with
      | true =>
        have HR : Hid (RES = false) := by unfold Hid; rw [HE.out, hin2]; rfl
        go_wp2_with fail
        refine (containsNums _ a6 c6 n true w6 (HFEW.out _) r6 hin2).mono ?_
        rintro e w7 ⟨rfl, rfl⟩
        clear hin2 r6
        go_wp2
        go_ret2
        exact ⟨by rw [HR.out] <;> rfl, O6, g6'⟩
      | false =>
        have HR : Hid (RES = true) := by unfold Hid; rw [HE.out, hin2]; rfl
        go_wp2_with fail
        refine (containsNums _ a6 c6 n false w6 (HFEW.out _) r6 hin2).mono ?_
        rintro e w7 ⟨rfl, rfl⟩
        clear hin2 r6
        go_wp2
        go_ret2
        exact ⟨by rw [HR.out] <;> rfl, O6, g6'⟩
end Go.Proofs.YtehopfpcikbaiaaDoor
