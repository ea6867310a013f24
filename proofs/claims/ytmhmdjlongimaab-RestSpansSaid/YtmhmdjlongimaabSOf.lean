/- The program's set of whatever spans: those with a day, sorted by the library, joined one by one. -/
import Derived.Test.YtmhmdjlongimaabSComb
import Derived.Test.YtmhmdjlongimaabShC
namespace Go.Proofs.Ytmhmdjlongimaab
open Go.RowKit Go.BigFrame

theorem flatK_at (d : Array Spn.Sp) (t : Nat) (h : t < d.size * 2) : (flat d.toList)[t]? = some ((Sort.flatK encSp 2 d)[t]!) := by
  rw [Sort.get_flatK encSp 2 d t h]
  have hi : t / 2 < d.size := by omega
  have hs : d.toList[t / 2]? = some d[t / 2]! := by simp [hi]
  have hf := flat_at d.toList (t / 2) _ hs
  rcases Nat.mod_two_eq_zero_or_one t with c | c
  · have e : t = t / 2 * 2 := by omega
    rw [c]
    have := hf.1
    rw [← e] at this
    exact this
  · have e : t = t / 2 * 2 + 1 := by omega
    rw [c]
    have := hf.2
    rw [← e] at this
    exact this
theorem OwnS.holds {w : World} {B g cap : Nat} {xs : List Spn.Sp} (h : OwnS w B (.slice (some ⟨g, 0, none⟩) xs.length cap) xs) : Sort.HoldsK encSp 2 w g 0 xs.toArray := by
  intro j hj
  have hj' : j < xs.toArray.size * 2 := by simpa using hj
  have hj2 : j < xs.length * 2 := by simpa using hj'
  have c1 := World.ownsRow.cellAt h j (by omega)
  have c2 := World.ownsRow.frozenAt h j
  rw [Nat.zero_add]
  exact ⟨c1.trans (flatK_at xs.toArray j hj'), c2⟩
/-- a slice of spans that the call has made, its cells laid anew -/
theorem OwnS.sorted {w w' : World} {B g cap n : Nat} {os : Array Obj} {xs : List Spn.Sp} {d : Array Spn.Sp} (h : OwnS w B (.slice (some ⟨g, 0, none⟩) xs.length cap) xs) (hd : d.size = xs.length)
    (hw : w' = sortWorldK encSp 2 w g 0 n d os) :
    OwnS w' B (.slice (some ⟨g, 0, none⟩) xs.length cap) d.toList ∧ w.grownBy w' (some g) := by
  subst hw
  constructor
  · rcases h.2 with ⟨e0, _⟩ | ⟨g', cap', cur, e0, hb, hg, hn, hm, hs, ht⟩
    · cases e0
    · injection e0 with e1 _ e3
      injection e1 with e1
      injection e1 with e1
      subst e1; subst e3
      have hlt : g < w.heap.size := (Array.getElem?_eq_some_iff.1 hg).1
      have hdl : d.toList.length = xs.length := by simpa using hd
      refine ⟨by rw [flat_len], .inr ⟨g, cap, Sort.putCells id 0 (Sort.flatK encSp 2 d) cur, by rw [hdl], hb, ?_, by rw [hdl]; exact hn, hm, by simpa [Sort.putCells] using hs, ?_⟩⟩
      · show (Sort.grow (Sort.putRow id (Sort.ahead w n) g 0 (Sort.flatK encSp 2 d)) os).heap[g]? = _
        rw [Sort.heap_grow_old _ _ (by simpa using hlt)]
        simp [Sort.putRow, Sort.mapBlock, Sort.ahead, Array.getElem?_modify, hg, Sort.onCells]
      · rw [hdl]
        apply List.ext_getElem?
        intro t
        by_cases hj : t < xs.length * 2
        · have hjc : t < cur.size := by rw [hs]; omega
          rw [List.getElem?_take, if_pos hj, Array.getElem?_toList, flatK_at d t (by rw [hd]; exact hj)]
          simp only [Sort.putCells, Array.getElem?_mapIdx, Array.getElem?_eq_getElem hjc, Option.map_some]
          rw [if_pos (by simp [hd]; omega)]
          simp
        · rw [List.getElem?_take, if_neg hj, List.getElem?_eq_none (by rw [flat_len, hdl]; omega)]
  · refine ⟨rfl, rfl, rfl, ?_, fun k hk hne => ?_⟩
    · show w.heap.size ≤ (Sort.grow (Sort.putRow id (Sort.ahead w n) g 0 (Sort.flatK encSp 2 d)) os).heap.size
      simp
    · show (Sort.grow (Sort.putRow id (Sort.ahead w n) g 0 (Sort.flatK encSp 2 d)) os).heap[k]? = _
      rw [Sort.heap_grow_old _ _ (by simpa using hk)]
      have : g ≠ k := fun e => hne (by rw [e])
      simp [Sort.putRow, Sort.mapBlock, Sort.ahead, Array.getElem?_modify, this]
theorem insNone (p : Option Addr) (cap : Nat) (fv : Value) (w : World) :
    Calls Try.prog 34 #[.slice p 0 cap, .int .i64 0, .int .i64 0, fv] w fun e w' => e = .returned (.tuple #[]) ∧ w' = w := by
  go_enter Try.func34, Try.ntmps34
  go_wp2
  refine wp_loop_rounds 1 ?_
  rw [rounds_succ]
  go_wp2
  go_end0
  exact ⟨rfl, rfl⟩
theorem pdqNone (p : Option Addr) (cap : Nat) (lim : Int) (fv : Value) (w : World) :
    Calls Try.prog 27 #[.slice p 0 cap, .int .i64 0, .int .i64 0, .int .i64 lim, fv] w fun e w' => e = .returned (.tuple #[]) ∧ w' = w := by
  go_enter Try.func27, Try.ntmps27
  go_wp2
  refine wp_loop_rounds 1 ?_
  rw [rounds_succ]
  go_wp2_with (go_at_call 34; refine (insNone _ _ _ _).mono ?_; rintro e w' ⟨rfl, rfl⟩)
  (try simp only [Exit.inBlock, Exit.then]); refine bodyPost_ret (results_none rfl _ _ _) rfl ?_
  exact ⟨rfl, rfl⟩
theorem sortNone (p : Option Addr) (cap : Nat) (fv : Value) (w : World) :
    Calls Try.prog 16 #[.slice p 0 cap, fv] w fun e w' => e = .returned (.tuple #[]) ∧ w' = w := by
  have hl : ∀ W, Calls Try.prog 28 #[.int .u64 0] W fun e w' => e = .returned (.int .i64 (Lib.bitLen 0 : Nat)) ∧ w' = W := fun W => by
    have h := Any.bits_Len Try.llen 0 W (by omega) (by omega)
    exact h
  go_enter Try.func16, Try.ntmps16
  go_wp2_with (first | (go_at_call 28; refine (hl _).mono ?_; rintro e w' ⟨rfl, rfl⟩) | (go_at_call 27; refine (pdqNone _ _ _ _ _).mono ?_; rintro e w' ⟨rfl, rfl⟩))
  go_end0
  exact ⟨rfl, rfl⟩
/-- which of two spans begins first -/
def cmpSp (x y : Spn.Sp) : Int := Lib.compareInt x.1 y.1
theorem ltSp (x y : Spn.Sp) : ltOf cmpSp x y = decide (x.1 < y.1) := by
  unfold ltOf cmpSp Lib.compareInt
  by_cases h1 : x.1 < y.1
  · simp [h1]
  · by_cases h2 : y.1 < x.1 <;> simp [h1, h2]
theorem swoSp : Sort.SWO (ltOf cmpSp) := {
  irrefl := fun x => by rw [ltSp]; simp
  trans := fun x y z h1 h2 => by rw [ltSp] at *; simp at *; omega
  ntrans := fun x y z h1 h2 => by rw [ltSp] at *; simp at *; omega }
set_option maxHeartbeats 1000000 in
theorem cmp_any (x y : Spn.Sp) (W : World) : Calls Try.prog 17 #[.agg #[.int .i64 x.1, .int .i64 x.2], .agg #[.int .i64 y.1, .int .i64 y.2]] W fun e w' => e = .returned (.int .i64 (cmpSp x y)) ∧ ∃ q os', w' = Sort.grow (W.drewN q) os' := by
  have hcon := fun W' => AnyG.cmp_Compare_int Try.lcmp x.1 y.1 W'
  change ∀ W', Calls Try.prog 18 _ _ _ at hcon
  unfold cmpSp
  generalize Lib.compareInt x.1 y.1 = r at hcon ⊢
  go_enter Try.func17, Try.ntmps17
  go_wp2_with (go_at_call 18; refine (hcon _).mono ?_; rintro e w' ⟨rfl, rfl⟩)
  go_ret
  exact ⟨rfl, 0, _, by rw [Sort.alloc_eq_grow, Sort.alloc_eq_grow, Sort.grow_grow]; rfl⟩
theorem cmpLaysSp (blk off size : Nat) (w : World) : CmpLays Try.prog 17 #[] encSp 2 cmpSp blk off size w :=
  fun _ _ _ _ x y => cmp_any x y _
theorem Spn.sorted_rise (xs : List Spn.Sp) (d : Array Spn.Sp) (hp : Sort.PermIn 0 xs.toArray.size xs.toArray d) (hs : Sort.SortedIn (ltOf cmpSp) 0 xs.toArray.size d) :
    d.size = xs.length ∧ d.toList.Perm xs ∧ d.toList.Pairwise (fun s t => s.1 ≤ t.1) := by
  have h1 : d.size = xs.length := by simpa using hp.1
  refine ⟨h1, ?_, ?_⟩
  · have := hp.2.2
    rw [Array.extract_eq_self_of_le (by simp [h1]), Array.extract_eq_self_of_le (by simp)] at this
    simpa using this
  · rw [List.pairwise_iff_getElem]
    intro i j hi hj hij
    have hi' : i < d.size := by simpa using hi
    have hj' : j < d.size := by simpa using hj
    have := hs i j (Nat.zero_le _) hij (by simp; omega)
    rw [ltSp] at this
    simp [hi', hj'] at this
    simpa using this
theorem sort_any (F : List Spn.Sp) (v : Value) (B : Nat) (w W : World) (hF : F.length ≤ 64) (hB : B ≤ W.heap.size) (hown : OwnS W B v F) (hnx : Below B w W) :
    Calls Try.prog 16 #[v, .func (.func 17) #[] #[]] W fun e w' => e = .returned (.tuple #[]) ∧ ∃ R : List Spn.Sp, R.Perm F ∧ R.Pairwise (fun s t => s.1 ≤ t.1) ∧ OwnS w' B v R ∧ Below B w w' := by
  rcases hown.form with ⟨rfl, rfl⟩ | ⟨g, cap, rfl, hg1, hg2⟩
  · refine (sortNone none 0 _ W).mono ?_
    rintro e w' ⟨rfl, rfl⟩
    exact ⟨rfl, [], List.Perm.refl _, List.Pairwise.nil, hown, hnx⟩
  · have eg : ∀ args w, (callFunc 17 args).run Try.prog w = .ok (.enter 17 args) w := enters_of Try.func17 (by kernel_rfl) rfl
    have hcon := AnyQ.slices_SortFunc Try.lsort 2 Try.isAgg24 Try.sizeOf24 encSp (fun _ => rfl) (fun x v hv => by simp [encSp] at hv; rcases hv with rfl | rfl <;> rfl) cmpSp swoSp 17 #[] g 0 cap F.toArray W eg (cmpLaysSp g 0 F.toArray.size W) hown.holds hg2 (by simp; omega)
    change Calls Try.prog 16 _ _ _ at hcon
    have es : F.toArray.size = F.length := by simp
    rw [es] at hcon
    refine hcon.mono ?_
    rintro e w' ⟨rfl, d, n, os, hp, hs, hw⟩
    rw [← es] at hp hs
    obtain ⟨h1, h2, h3⟩ := Spn.sorted_rise F d hp hs
    have S := hown.sorted h1 hw
    exact ⟨rfl, d.toList, h2, h3, S.1, hnx.grown S.2 hB (fun j hj => by cases hj; exact hg1)⟩
set_option maxRecDepth 100000 in
set_option maxHeartbeats 4000000 in
theorem pOf (l : List Spn.Sp) (a : Option Addr) (cap : Nat) (w : World) (hl : l.length ≤ maxLen) (_hna : a = none → cap = 0 ∧ l = []) (hr : Row2 w a l) :
    Calls Try.prog 8 #[.slice a l.length cap] w fun e w' => ∃ v, e = .returned (.tuple #[v, .int .i64 (Spn.chkOf l)]) ∧ OwnS w' w.heap.size v (Spn.setOf l) ∧ Below w.heap.size w w' := by
  obtain ⟨i0, hi, hz0, hz1, hz2⟩ := info_parts infoSpan
  have HI : Hid (Try.prog.info? 24 = some i0 ∧ i0.zero = some (.agg #[.int .i64 0, .int .i64 0]) ∧ i0.size = 2 ∧ i0.bytes = 16) := ⟨hi, hz0, hz1, hz2⟩
  clear hi hz0 hz1 hz2
  unfold maxLen at hl
  by_cases h64 : 64 < l.length
  · have e : Spn.chkOf l = 2 := by unfold Spn.chkOf; rw [if_pos h64]
    have h64' : (64 : Int) < (l.length : Int) := by omega
    have HE : Hid (Spn.chkOf l = 2 ∧ Spn.setOf l = []) := ⟨e, by unfold Spn.setOf; rw [if_neg (by rw [e]; decide)]⟩
    clear e
    go_enter Try.func8, Try.ntmps8
    go_wp2
    go_ret2
    exact ⟨_, ret_err HE.out.1.symm, by rw [HE.out.2]; exact OwnS.nil _ _, Below.refl _ _⟩
  · have e : Spn.chkOf l = Spn.chkO (l.drop 0) := by unfold Spn.chkOf; rw [if_neg h64]; rfl
    have HE : Hid (Spn.chkOf l = Spn.chkO (l.drop 0)) := e
    have HZ : Hid (∀ c : Int, ¬ c = 0 → Spn.chkOf l = c → Spn.setOf l = []) := fun c hc hd => by unfold Spn.setOf; rw [if_neg (by rw [hd]; exact hc)]
    clear e
    have h64' : (l.length : Int) ≤ 64 := by omega
    go_enter Try.func8, Try.ntmps8
    go_wp2
    go_loopw [4, 15] (fun v i wr => ∃ k : Nat, k ≤ l.length ∧ i = .int .i64 k ∧ Spn.chkO (l.drop 0) = Spn.chkO (l.drop k) ∧ OwnS wr w.heap.size v (Spn.full (l.take k)) ∧ Below w.heap.size w wr) (fun _ i _ => l.length - (intOf i).toNat)
    case atStart => exact ⟨0, Nat.zero_le _, rfl, rfl, OwnS.nil _ _, Below.refl _ _⟩
    case round =>
      obtain ⟨k, hk, rfl, hm, hown, hnx⟩ := hrel
      have HM : Hid (Spn.chkO (l.drop 0) = Spn.chkO (l.drop k)) := hm
      clear hm
      have hsz : w.heap.size ≤ wr.heap.size := hnx.size
      by_cases hlt : k < l.length
      · have hlt' : (k : Int) < (l.length : Int) := by omega
        obtain ⟨b, off, x, y, rfl, hb, hx, c1, c2⟩ := (hr.below hnx).lies hlt
        have HS : Hid (_) := Spn.chkO_succ l k x y hx
        have HU : Hid (Spn.full (l.take (k + 1)) = Spn.full (l.take k) ++ (if x < y then [(x, y)] else [])) := Spn.full_succ l k x y hx
        have hlen : (Spn.full (l.take k)).length ≤ 64 := Nat.le_trans (Spn.full_len _) (by rw [List.length_take]; omega)
        clear hx
        have nx1 : Below w.heap.size w (wr.alloc (.cells #[.int .i64 x, .int .i64 y] 24)) := hnx.alloc hsz _
        have ow1 := hown.alloc (.cells #[.int .i64 x, .int .i64 y] 24)
        generalize Spn.full (l.take k) = F at hown ow1 HU hlen ⊢
        go_wp2_with fail
        refine (isSpan_any x y _).mono ?_
        rintro e w1 ⟨rfl, b1⟩
        have nx2 := below_on nx1 (Nat.le_refl _) b1
        have ow2 := ow1.still b1
        have d1 : w1.cell? ⟨wr.heap.size, 0, none⟩ = some (.int .i64 x) := (b1.cell (p := ⟨wr.heap.size, 0, none⟩) (by simp)).trans (by simp)
        have d2 : w1.cell? ⟨wr.heap.size, 1, none⟩ = some (.int .i64 y) := (b1.cell (p := ⟨wr.heap.size, 1, none⟩) (by simp)).trans (by simp)
        have hs1 : w.heap.size ≤ w1.heap.size := nx2.size
        clear b1 ow1 nx1 hown
        cases hff : (Spn.far x || Spn.far y) with
        | true =>
          have HF : Hid (Spn.chkOf l = 3) := by unfold Hid; rw [HE.out, HM.out, HS.out, if_pos hff]
          clear hff
          go_wp2
          go_ret2
          exact ⟨_, ret_err HF.out.symm, by rw [HZ.out 3 (by decide) HF.out]; exact OwnS.nil _ _, nx2⟩
        | false =>
          have hffn : ¬ (Spn.far x || Spn.far y) = true := by rw [hff]; decide
          by_cases hyx : y < x
          · have HF : Hid (Spn.chkOf l = 1) := by unfold Hid; rw [HE.out, HM.out, HS.out, if_neg hffn, if_pos hyx]
            clear hff hffn
            go_wp2
            go_ret2
            exact ⟨_, ret_err HF.out.symm, by rw [HZ.out 1 (by decide) HF.out]; exact OwnS.nil _ _, nx2⟩
          · have HF : Hid (Spn.chkO (l.drop 0) = Spn.chkO (l.drop (k + 1))) := by unfold Hid; rw [HM.out, HS.out, if_neg hffn, if_neg hyx]
            clear hff hffn
            by_cases hxy : x < y
            · have HU' : Hid (Spn.full (l.take (k + 1)) = F ++ [(x, y)]) := by unfold Hid; rw [HU.out, if_pos hxy]
              go_wp2_with (at_builtin; refine wpList_append_own _ rfl (.tmp 35) (.tmp 37) 22 rfl w.heap.size 24 i0 _ 2 16 Try.underlying22 HI.out.1 HI.out.2.1 HI.out.2.2.1 HI.out.2.2.2 rfl (by decide) _ _ _ rfl (World.ownsRow.alloc ow2 _) ⟨w1.heap.size, 0, none⟩ 1 1 [.int .i64 x, .int .i64 y] rfl rfl (cell2_new _ _ _ _) (one2 _ _) (by unfold maxLen; omega) (by omega) (by simp; omega) ?_; intro v1 w3 own1 grow1 _)
              have R := OwnS.put hs1 ow2 nx2 own1 grow1
              clear own1 grow1 ow2
              go_wp2
              go_roundw
              case rel => exact ⟨k + 1, by omega, by go_num, HF.out, by rw [HU'.out]; exact R.1, R.2⟩
              case measure => simp [intOf]; omega
            · have HU' : Hid (Spn.full (l.take (k + 1)) = F) := by unfold Hid; rw [HU.out, if_neg hxy, List.append_nil]
              have hxy' : decide (x < y) = false := by simpa using hxy
              go_wp2
              go_roundw
              case rel => exact ⟨k + 1, by omega, by go_num, HF.out, by rw [HU'.out]; exact ow2, nx2⟩
              case measure => simp [intOf]; omega
      · obtain rfl : k = l.length := by omega
        have HF : Hid (Spn.chkOf l = 0) := by unfold Hid; rw [HE.out, HM.out, Spn.chkO_end l _ (Nat.le_refl _)]
        rw [List.take_length] at hown
        have hlen : (Spn.full l).length ≤ 64 := Nat.le_trans (Spn.full_len _) (by omega)
        have HFS : Hid (∀ s ∈ Spn.full l, s.1 < s.2) := fun s hs => by simpa using (List.mem_filter.1 hs).2
        have HJS : Hid (∀ r out, r.Perm (Spn.full l) → Spn.Joined r out → out = Spn.setOf l) := fun r out hp hj => Spn.joined_set l r out hp hj HF.out
        generalize Spn.full l = F at hown hlen HFS HJS ⊢
        go_wp2_with fail
        refine (sort_any F _ w.heap.size w wr hlen hsz hown hnx).mono ?_
        rintro e w4 ⟨rfl, R, hp, hs, own4, nx4⟩
        have HRS : Hid (∀ s ∈ R, s.1 < s.2) := fun s hs => HFS.out s (hp.mem_iff.1 hs)
        have HR : Hid (R.Perm F ∧ R.Pairwise (fun s t => s.1 ≤ t.1)) := ⟨hp, hs⟩
        have hlenR : R.length ≤ 64 := by rw [hp.length_eq]; exact hlen
        clear hown hnx hp hs hlen hr
        obtain ⟨av, cv, hv, -, rowR⟩ := own4.row
        subst hv
        have s4 : w.heap.size ≤ w4.heap.size := nx4.size
        go_wp2
        go_loopw [7, 44] (fun v i wr => ∃ (k : Nat) (out : List Spn.Sp), k ≤ R.length ∧ i = .int .i64 k ∧ out.length ≤ k ∧ OwnS wr w4.heap.size v out ∧ Spn.Joined (R.take k) out ∧ Below w4.heap.size w4 wr) (fun _ i _ => R.length - (intOf i).toNat)
        case atStart => exact ⟨0, [], Nat.zero_le _, rfl, Nat.le_refl _, OwnS.nil _ _, Spn.Joined.start, Below.refl _ _⟩
        case round =>
          obtain ⟨k, out, hk, rfl, hol, hown, hj, hnx⟩ := hrel
          have HJ : Hid (Spn.Joined (R.take k) out) := hj
          clear hj
          have hs5 : w4.heap.size ≤ wr.heap.size := hnx.size
          by_cases hlt : k < R.length
          · have hlt' : (k : Int) < (R.length : Int) := by omega
            obtain ⟨b, off, x, y, rfl, hb, hx, c1, c2⟩ := (rowR.below hnx).lies hlt
            have HN : Hid (Spn.Joined (R.take (k + 1)) (Spn.join out (x, y))) := by
              unfold Hid
              rw [Spn.take_succ_of R k x y hx]
              refine HJ.out.step (HRS.out (x, y) (List.mem_of_getElem? hx)) ?_
              intro t ht
              obtain ⟨i, hi, rfl⟩ := List.getElem_of_mem ht
              have hi' : i < k := by simp at hi; omega
              have hpw := List.pairwise_iff_getElem.1 HR.out.2 i k (by omega) hlt hi'
              rw [List.getElem?_eq_getElem hlt] at hx
              rw [List.getElem_take]
              rw [Option.some.inj hx] at hpw
              exact hpw
            have HPL : Hid ((Spn.join out (x, y)).length ≤ out.length + 1) := Spn.join_len out (x, y)
            have nx1 : Below w4.heap.size w4 (wr.alloc (.cells #[.int .i64 x, .int .i64 y] 24)) := hnx.alloc hs5 _
            have ow1 := hown.alloc (.cells #[.int .i64 x, .int .i64 y] 24)
            clear hx
            go_wp2_with fail
            refine (join_any out x y _ w4.heap.size w4 _ (by omega) nx1.size ow1 nx1).mono ?_
            rintro e w5 ⟨v5, rfl, own5, nx5⟩
            clear ow1 nx1 hown
            go_wp2
            go_roundw
            case rel => exact ⟨k + 1, _, by omega, by go_num, by have := HPL.out; omega, own5, HN.out, nx5⟩
            case measure => simp [intOf]; omega
          · obtain rfl : k = R.length := by omega
            have hj := HJ.out
            rw [List.take_length] at hj
            have HO : Hid (out = Spn.setOf l) := HJS.out R out HR.out.1 hj
            have B5 := below_on nx4 (Nat.le_refl _) hnx
            have ow := hown.weak s4
            clear hj
            go_wp2
            go_ret2
            exact ⟨_, ret_err HF.out.symm, by rw [← HO.out]; exact ow, B5⟩
end Go.Proofs.Ytmhmdjlongimaab
