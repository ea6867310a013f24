/- The program's look over a posting's lines, and over a posting. The document's word that turns a posting round. -/
import Derived.Test.YtandlmnbnjkklaaGreatDoorLgW3ToLgQ1
import Derived.Deep.OwnRows
import Derived.Test.YtandlmnbnjkklaaGreatDoorPzW4ToPzC
namespace Go.Proofs.YtandlmnbnjkklaaGreatDoor
open Go.RowKit Go.BigFrame

/-- which accounts were there behind some lines -/
def Marks (w : World) (b : Nat) (l : List Lg.Ln) : Prop := w.rowIs b 114 6 (fun i => .bool (Lg.hasA l (i : Int)))
theorem Marks.below {w w' : World} {b : Nat} {l : List Lg.Ln} (h : Marks w b l) (hb : Below w.heap.size w w') : Marks w' b l := World.rowIs.of_block h (hb.block b (World.rowIs.lt h))
theorem Marks.new (w : World) : Marks (w.alloc (.cells #[.bool false, .bool false, .bool false, .bool false, .bool false, .bool false] 114)) w.heap.size [] :=
  World.rowIs_alloc w _ _ _ (fun i hi => by
    match i, hi with
    | 0, _ => rfl
    | 1, _ => rfl
    | 2, _ => rfl
    | 3, _ => rfl
    | 4, _ => rfl
    | 5, _ => rfl)
theorem Marks.mark {w : World} {b : Nat} {l : List Lg.Ln} {k p : Nat} {q : Int} (h : Marks w b (l.take k)) (hx : l[k]? = some ((p : Int), q)) : Marks (w.setCell ⟨b, p, none⟩ (.bool true)) b (l.take (k + 1)) :=
  World.rowIs.congr (World.rowIs.set h p (.bool true)) (fun j hj => by
    rw [Lg.hasA_take l k _ hx]
    by_cases c : j = p
    · subst c; simp
    · rw [if_neg c]
      have : decide ((p : Int) = (j : Int)) = false := by simp; omega
      simp only [this, Bool.or_false])
theorem box2_below {wr w1 : World} {x y : Value} {t : TypeId} (hb : Below (wr.alloc (.cells #[x, y] t)).heap.size (wr.alloc (.cells #[x, y] t)) w1) :
    w1.cell? ⟨wr.heap.size, 0, none⟩ = some x ∧ w1.cell? ⟨wr.heap.size, 1, none⟩ = some y ∧ Below wr.heap.size wr w1 := by
  have hlt : wr.heap.size < (wr.alloc (.cells #[x, y] t)).heap.size := by simp
  exact ⟨(hb.cell (p := ⟨wr.heap.size, 0, none⟩) hlt).trans (by simp), (hb.cell (p := ⟨wr.heap.size, 1, none⟩) hlt).trans (by simp), below_on (below_box wr _) (Nat.le_refl _) hb⟩
set_option maxRecDepth 100000 in
set_option maxHeartbeats 4000000 in
theorem checkLines_any (ls : List Lg.Ln) (a : Option Addr) (cap : Nat) (w : World) (hl : ls.length ≤ 6) (hr : RowL w a ls) :
    Calls Tryz.prog 57 #[.slice a ls.length cap] w fun e w' => e = .returned (.int .i64 (Lg.lrec [] ls)) ∧ Below w.heap.size w w' := by
  have R : Hid (RowL w a ls) := hr
  obtain ⟨n, hn⟩ : ∃ n, ls.length = n := ⟨_, rfl⟩
  have HN : Hid (ls.length = n) := hn
  rw [hn] at hl ⊢
  clear hr hn
  go_enter Tryz.func57, Tryz.ntmps57
  go_wp2
  go_loopw [4, 9] (fun sv iv wr => ∃ k : Nat, k ≤ n ∧ iv = .int .i64 k ∧ sv = .int .i64 (Lg.sum (ls.take k)) ∧ (∀ x ∈ ls.take k, -1099511627776 ≤ x.2 ∧ x.2 ≤ 1099511627776) ∧ Lg.lrec [] ls = Lg.lat ls k ∧ Marks wr w.heap.size (ls.take k) ∧ Below w.heap.size w wr) (fun _ iv _ => n - (intOf iv).toNat)
  case atStart => exact ⟨0, Nat.zero_le _, rfl, rfl, fun x hx => by simp at hx, rfl, Marks.new w, below_box w _⟩
  case round =>
    obtain ⟨k, hk, rfl, rfl, hbd, hlat, hm, hb⟩ := hrel
    have HLA : Hid (Lg.lrec [] ls = Lg.lat ls k) := hlat
    have HBD : Hid (∀ x ∈ ls.take k, -1099511627776 ≤ x.2 ∧ x.2 ≤ 1099511627776) := hbd
    have HM : Hid (Marks wr w.heap.size (ls.take k)) := hm
    have HB : Hid (Below w.heap.size w wr) := hb
    have hsb := Lg.sum_bd _ hbd
    rw [List.length_take] at hsb
    clear hlat hbd hm hb
    by_cases hlt : k < n
    · have hlt' : (k : Int) < (n : Int) := by omega
      obtain ⟨b, off, p, q, rfl, hx, c1, c2⟩ := (R.out.below HB.out).at (k := k) (by rw [HN.out]; exact hlt)
      have HX : Hid (ls[k]? = some (p, q)) := hx
      have HS : Hid (_) := Lg.lat_step ls k (p, q) hx
      clear hx
      by_cases p1 : 1 ≤ p ∧ p ≤ 5
      · obtain ⟨pn, rfl⟩ : ∃ pn : Nat, p = pn := ⟨p.toNat, by omega⟩
        have HAC : Hid (decide (1 ≤ (pn : Int) ∧ (pn : Int) ≤ 5) = true) := by show _ = _; simp; omega
        have p2 : pn < 6 := by omega
        by_cases q1 : Lg.far q = true ∨ q = 0
        · have HE : Hid (Lg.lrec [] ls = 3) := by
            have e : Lg.ln (ls.take k) ((pn : Int), q) = 3 := by unfold Lg.ln; rw [if_neg (by simp only; omega), if_pos q1]
            show _ = _; rw [HLA.out, HS.out, e]; rfl
          have HMV : Hid ((!Lg.far q && decide (q ≠ 0)) = false) := by
            show _ = _
            rcases q1 with q1 | q1 <;> simp [q1]
          clear q1 p1
          go_wp2_with (first
            | (go_at_call 66; refine (lacc_any _ _ _ HAC.out).mono ?_; rintro e w1 ⟨rfl, rfl⟩)
            | (go_at_call 75; refine (lmoved_any _ _ _ HMV.out).mono ?_; rintro e w1 ⟨rfl, hb⟩))
          go_ret
          exact ⟨ret_int HE.out.symm, below_on HB.out (Nat.le_refl _) (box2_below hb).2.2⟩
        · have hfar : Lg.far q = false := by cases h : Lg.far q with | false => rfl | true => exact absurd (.inl h) q1
          have q0 : q ≠ 0 := fun h => q1 (.inr h)
          have hqb := (Lg.far_iff q).1 hfar
          have HMV : Hid ((!Lg.far q && decide (q ≠ 0)) = true) := by show _ = _; simp [hfar, q0]
          have HLN : Hid (∀ b, Lg.hasA (ls.take k) (pn : Int) = b → Lg.ln (ls.take k) ((pn : Int), q) = if b = true then 6 else 0) := by
            rintro b rfl
            unfold Lg.ln
            rw [if_neg (by simp only; omega), if_neg q1]
          obtain ⟨s0, hs0⟩ : ∃ s0, Lg.sum (ls.take k) = s0 := ⟨_, rfl⟩
          have HS0 : Hid (Lg.sum (ls.take k) = s0) := hs0
          rw [hs0] at hsb ⊢
          have s1 := hsb.1
          have s2 := hsb.2
          rw [HN.out, Nat.min_eq_left hk] at s1 s2
          have q2 := hqb.1
          have q3 := hqb.2
          clear hs0 hsb hqb hfar q0 q1 p1
          cases hh : Lg.hasA (ls.take k) (pn : Int) with
          | true =>
            have HE : Hid (Lg.lrec [] ls = 6) := by
              show _ = _; rw [HLA.out, HS.out, HLN.out true hh]; rfl
            have HH : Hid (Value.bool (Lg.hasA (ls.take k) (pn : Int)) = .bool true) := by show _ = _; rw [hh]
            clear hh
            go_wp2_with (first
              | (go_at_call 66; refine (lacc_any _ _ _ HAC.out).mono ?_; rintro e w1 ⟨rfl, rfl⟩)
              | (go_at_call 75; refine (lmoved_any _ _ _ HMV.out).mono ?_; rintro e w1 ⟨rfl, hb⟩; have HB1 : Hid (Below wr.heap.size wr w1) := (box2_below hb).2.2; have k0 := (box2_below hb).1; clear hb; have m1 := (World.rowIs.cell (HM.out.below HB1.out) p2).trans (congrArg some HH.out)))
            go_ret
            exact ⟨ret_int HE.out.symm, below_on HB.out (Nat.le_refl _) HB1.out⟩
          | false =>
            have HE : Hid (Lg.lrec [] ls = Lg.lat ls (k + 1)) := by
              show _ = _; rw [HLA.out, HS.out, HLN.out false hh]; rfl
            have HH : Hid (Value.bool (Lg.hasA (ls.take k) (pn : Int)) = .bool false) := by show _ = _; rw [hh]
            have HBD2 : Hid (∀ x ∈ ls.take (k + 1), -1099511627776 ≤ x.2 ∧ x.2 ≤ 1099511627776) := by
              intro x hx
              rw [Lg.take_snoc ls k _ HX.out, List.mem_append] at hx
              rcases hx with hx | hx
              · exact HBD.out x hx
              · rw [List.mem_singleton] at hx; subst hx; exact ⟨q2, q3⟩
            have HS2 : Hid (Lg.sum (ls.take (k + 1)) = s0 + q) := by show _ = _; rw [Lg.sum_take ls k _ HX.out, HS0.out]
            clear hh
            go_wp2_with (first
              | (go_at_call 66; refine (lacc_any _ _ _ HAC.out).mono ?_; rintro e w1 ⟨rfl, rfl⟩)
              | (go_at_call 75; refine (lmoved_any _ _ _ HMV.out).mono ?_; rintro e w1 ⟨rfl, hb⟩; have HB1 : Hid (Below wr.heap.size wr w1) := (box2_below hb).2.2; have k0 := (box2_below hb).1; have k1 := (box2_below hb).2.1; clear hb; have m1 := (World.rowIs.cell (HM.out.below HB1.out) p2).trans (congrArg some HH.out); have m2 := World.rowIs.frozen (HM.out.below HB1.out) pn; have k2 := (World.cell?_setCell_far w1 ⟨w.heap.size, pn, none⟩ ⟨wr.heap.size, 1, none⟩ (.bool true) (Nat.ne_of_lt (World.rowIs.lt HM.out))).trans k1))
            go_roundw
            case rel => exact ⟨k + 1, by omega, by go_num, by rw [HS2.out], HBD2.out, HE.out, (HM.out.below HB1.out).mark HX.out, (below_on HB.out (Nat.le_refl _) HB1.out).setCell (Nat.le_refl _) _⟩
            case measure => simp [intOf]; omega
      · have HAC : Hid (decide (1 ≤ p ∧ p ≤ 5) = false) := by show _ = _; simp only [decide_eq_false_iff_not]; exact p1
        have HE : Hid (Lg.lrec [] ls = 7) := by
          have e : Lg.ln (ls.take k) (p, q) = 7 := by unfold Lg.ln; rw [if_pos (by simp only; omega)]
          show _ = _; rw [HLA.out, HS.out, e]; rfl
        clear p1
        go_wp2_with (go_at_call 66; refine (lacc_any _ _ _ HAC.out).mono ?_; rintro e w1 ⟨rfl, rfl⟩)
        go_ret
        exact ⟨ret_int HE.out.symm, below_on HB.out (Nat.le_refl _) (below_box wr _)⟩
    · obtain rfl : k = n := by omega
      have hz : Lg.lat ls k = if Lg.sum ls = 0 then 0 else 4 := by rw [← HN.out]; exact Lg.lat_end ls
      have ht : ls.take k = ls := by rw [← HN.out]; exact List.take_length
      rw [ht]
      by_cases h0 : Lg.sum ls = 0
      · rw [if_pos h0] at hz
        have HE : Hid (Lg.lrec [] ls = 0) := by show _ = _; rw [HLA.out]; exact hz
        have h0' : (Lg.sum ls != 0) = false := by simpa using h0
        clear h0 hz ht hsb
        go_wp2
        go_ret
        exact ⟨ret_int HE.out.symm, HB.out⟩
      · rw [if_neg h0] at hz
        have HE : Hid (Lg.lrec [] ls = 4) := by show _ = _; rw [HLA.out]; exact hz
        have h0' : (Lg.sum ls != 0) = true := by simpa using h0
        clear h0 hz ht hsb
        go_wp2
        go_ret
        exact ⟨ret_int HE.out.symm, HB.out⟩
theorem checkLines_at (ls : List Lg.Ln) (n : Nat) (c : Int) (a : Option Addr) (cap : Nat) (w : World) (hn : ls.length = n) (hl : n ≤ 6) (hc : Lg.lrec [] ls = c) (hr : RowL w a ls) :
    Calls Tryz.prog 57 #[.slice a n cap] w fun e w' => e = .returned (.int .i64 c) ∧ Below w.heap.size w w' := by
  subst hn hc; exact checkLines_any ls a cap w hl hr
set_option maxHeartbeats 1000000 in
theorem checkPosting_any (id : Int) (ls : List Lg.Ln) (a : Option Addr) (cap : Nat) (w : World) (hl : ls.length ≤ maxLen) (hr : RowL w a ls) :
    Calls Tryz.prog 30 #[.agg #[.int .i64 id, .slice a ls.length cap]] w fun e w' => e = .returned (.int .i64 (Lg.pchk (id, ls))) ∧ Below w.heap.size w w' := by
  unfold maxLen at hl
  have B0 : Hid (Below w.heap.size w (w.alloc (.cells #[.int .i64 id, .slice a ls.length cap] 34))) := below_box w _
  have R : Hid (RowL (w.alloc (.cells #[.int .i64 id, .slice a ls.length cap] 34)) a ls) := hr.below B0.out
  have R0 : Hid (RowL w a ls) := hr
  clear hr
  by_cases h1 : id < 1
  · have HE : Hid (Lg.pchk (id, ls) = 3) := by show _ = _; unfold Lg.pchk; rw [if_pos h1]
    rw [HE.out]
    have h1' : id ≤ 0 := by omega
    go_enter Tryz.func30, Tryz.ntmps30
    go_wp2
    go_ret
    first | exact ⟨rfl, B0.out⟩ | exact ⟨rfl, Below.refl _ _⟩
  · have h1' : ¬ id ≤ 0 := by omega
    by_cases h2 : ls.length < 2
    · have HE : Hid (Lg.pchk (id, ls) = 1) := by show _ = _; unfold Lg.pchk; rw [if_neg h1, if_pos h2]
      rw [HE.out]
      have h2' : (ls.length : Int) < 2 := by omega
      go_enter Tryz.func30, Tryz.ntmps30
      go_wp2
      go_ret
      first | exact ⟨rfl, B0.out⟩ | exact ⟨rfl, Below.refl _ _⟩
    · by_cases h3 : 6 < ls.length
      · have HE : Hid (Lg.pchk (id, ls) = 2) := by show _ = _; unfold Lg.pchk; rw [if_neg h1, if_neg h2, if_pos h3]
        rw [HE.out]
        have h2' : ¬ (ls.length : Int) < 2 := by omega
        have h3' : (6 : Int) < (ls.length : Int) := by omega
        go_enter Tryz.func30, Tryz.ntmps30
        go_wp2
        go_ret
        first | exact ⟨rfl, B0.out⟩ | exact ⟨rfl, Below.refl _ _⟩
      · have HE : Hid (Lg.pchk (id, ls) = Lg.lrec [] ls) := by show _ = _; unfold Lg.pchk; rw [if_neg h1, if_neg h2, if_neg h3]
        rw [HE.out]
        have h2' : ¬ (ls.length : Int) < 2 := by omega
        have h3' : ¬ (6 : Int) < (ls.length : Int) := by omega
        have h6 : ls.length ≤ 6 := by omega
        go_enter Tryz.func30, Tryz.ntmps30
        go_wp2_with (go_at_call 57; refine (checkLines_any ls _ _ _ h6 (by first | exact R.out | exact R0.out)).mono ?_; rintro e w1 ⟨rfl, hb⟩)
        go_ret
        first | exact ⟨rfl, below_on B0.out (Nat.le_refl _) hb⟩ | exact ⟨rfl, hb⟩
theorem checkPosting_at (id : Int) (ls : List Lg.Ln) (n : Nat) (c : Int) (a : Option Addr) (cap : Nat) (w : World) (hn : ls.length = n) (hl : ls.length ≤ maxLen) (hc : Lg.pchk (id, ls) = c) (hr : RowL w a ls) :
    Calls Tryz.prog 30 #[.agg #[.int .i64 id, .slice a n cap]] w fun e w' => e = .returned (.int .i64 c) ∧ Below w.heap.size w w' := by
  subst hn hc; exact checkPosting_any id ls a cap w hl hr
end Go.Proofs.YtandlmnbnjkklaaGreatDoor
namespace Go.Proofs.YtandlmnbnjkklaaGreatDoor
open Go.RowKit Go.BigFrame

theorem infoL : ∃ i : TypeInfo, Tryz.prog.info? 54 = some i ∧ i.zero = some (.agg #[.int .i64 0, .int .i64 0]) ∧ i.size = 2 ∧ i.bytes = 16 := by
  have h := infoLn
  cases hq : Tryz.prog.info? 54 with
  | none => simp [hq] at h
  | some i => simp [hq] at h; exact ⟨i, rfl, h.1, h.2.1, h.2.2⟩
/-- a block of two cells that may be written -/
def Blk2 (w : World) (b : Nat) (x y : Value) : Prop := b < w.heap.size ∧ w.cell? ⟨b, 0, none⟩ = some x ∧ w.cell? ⟨b, 1, none⟩ = some y ∧ w.frozen? ⟨b, 0, none⟩ = false ∧ w.frozen? ⟨b, 1, none⟩ = false
theorem Blk2.new (w : World) (x y : Value) (t : TypeId) : Blk2 (w.alloc (.cells #[x, y] t)) w.heap.size x y :=
  ⟨by simp, by simp, by simp, by simp, by simp⟩
theorem Blk2.of_block {w w' : World} {b : Nat} {x y : Value} (h : Blk2 w b x y) (hs : w.heap.size ≤ w'.heap.size) (e : w'.heap[b]? = w.heap[b]?) : Blk2 w' b x y :=
  ⟨Nat.lt_of_lt_of_le h.1 hs, (World.cell?_of_block (w := w) (a := ⟨b, 0, none⟩) e).trans h.2.1, (World.cell?_of_block (w := w) (a := ⟨b, 1, none⟩) e).trans h.2.2.1,
    (World.frozen?_of_block (w := w) (a := ⟨b, 0, none⟩) e).trans h.2.2.2.1, (World.frozen?_of_block (w := w) (a := ⟨b, 1, none⟩) e).trans h.2.2.2.2⟩
theorem Blk2.below {w w' : World} {b : Nat} {x y : Value} (h : Blk2 w b x y) (hb : Below w.heap.size w w') : Blk2 w' b x y := h.of_block hb.size (hb.block b h.1)
theorem Blk2.alloc {w : World} {b : Nat} {x y : Value} (h : Blk2 w b x y) (o : Obj) : Blk2 (w.alloc o) b x y := h.below (below_box w o)
theorem Blk2.grown {w w' : World} {b : Nat} {x y : Value} {row : Option Nat} (h : Blk2 w b x y) (hg : w.grownBy w' row) (hr : row ≠ some b) : Blk2 w' b x y := h.of_block hg.size (hg.block b h.1 (fun e => hr e.symm))
theorem Blk2.other {w : World} {b : Nat} {x y : Value} (h : Blk2 w b x y) {p : Addr} (hp : p.block ≠ b) (v : Value) : Blk2 (w.setCell p v) b x y :=
  h.of_block (by rw [Deep.nblk_setCell]; exact Nat.le_refl _) (Deep.blk_setCell_other _ _ _ _ (fun e => hp e.symm))
theorem Blk2.set1 {w : World} {b : Nat} {x y : Value} (h : Blk2 w b x y) (v : Value) : Blk2 (w.setCell ⟨b, 1, none⟩ v) b x v := by
  obtain ⟨h0, h1, h2, h3, h4⟩ := h
  refine ⟨by rw [Deep.nblk_setCell]; exact h0, ?_, ?_, ?_, ?_⟩
  · exact (World.cell?_setCell_other _ _ _ _ (fun e => by cases e)).trans h1
  · exact World.cell?_setCell_same _ _ _ h2
  · rw [World.frozen?_setCell]; exact h3
  · rw [World.frozen?_setCell]; exact h4
theorem OwnL.alloc {w : World} {B : Nat} {v : Value} {xs : List Lg.Ln} (h : OwnL w B v xs) (o : Obj) : OwnL (w.alloc o) B v xs := World.ownsRow.alloc h o
/-- what the turning keeps -/
structure TInv (w : World) (id as' : Int) (la : Option Addr) (lc n : Nat) (wr : World) (v : Value) (xs : List Lg.Ln) : Prop where
  box : Blk2 wr w.heap.size (.int .i64 id) (.slice la n lc)
  res : Blk2 wr (w.heap.size + 1) (.int .i64 0) (.slice none 0 0)
  out : Blk2 wr (w.heap.size + 1 + 1) (.int .i64 as') v
  own : OwnL wr (w.heap.size + 3) v xs
  below : Below w.heap.size w wr
theorem TInv.lt {w : World} {id as' : Int} {la : Option Addr} {lc n : Nat} {wr : World} {v : Value} {xs : List Lg.Ln} (h : TInv w id as' la lc n wr v xs) : w.heap.size + 3 ≤ wr.heap.size := h.out.1
theorem TInv.start (w : World) (id as' : Int) (la : Option Addr) (lc n : Nat) (t1 t2 t3 : TypeId) :
    TInv w id as' la lc n (((w.alloc (.cells #[.int .i64 id, .slice la n lc] t1)).alloc (.cells #[.int .i64 0, .slice none 0 0] t2)).alloc (.cells #[.int .i64 as', .slice none 0 0] t3)) (.slice none 0 0) [] := by
  have h1 := Blk2.new w (.int .i64 id) (.slice la n lc) t1
  have h2 := Blk2.new (w.alloc (.cells #[.int .i64 id, .slice la n lc] t1)) (.int .i64 0) (.slice none 0 0) t2
  have h3 := Blk2.new ((w.alloc (.cells #[.int .i64 id, .slice la n lc] t1)).alloc (.cells #[.int .i64 0, .slice none 0 0] t2)) (.int .i64 as') (.slice none 0 0) t3
  rw [World.size_alloc] at h2
  rw [World.size_alloc, World.size_alloc] at h3
  exact ⟨(h1.alloc _).alloc _, h2.alloc _, h3, OwnL.nil _ _, ((below_box w _).alloc (by simp) _).alloc (by simp; omega) _⟩
/-- behind one round -/
theorem TInv.step {w : World} {id as' : Int} {la : Option Addr} {lc n : Nat} {W X w1 : World} {v v1 : Value} {xs : List Lg.Ln} {x y : Int} (h : TInv w id as' la lc n W v xs) (hX : Below W.heap.size W X)
    (hown : w1.ownsRow (w.heap.size + 3) 54 2 v1 (xs.length + 1) (flatL xs ++ [.int .i64 x, .int .i64 y])) (hgrow : X.grownBy w1 v.ownBlock) :
    TInv w id as' la lc n (w1.setCell ⟨w.heap.size + 1 + 1, 1, none⟩ v1) v1 (xs ++ [(x, y)]) := by
  have hlt := fun j hj => (World.ownsRow.lt h.own j hj).1
  have hbX := below_on h.below (Nat.le_refl _) hX
  have hne : ∀ k, k < w.heap.size + 3 → v.ownBlock ≠ some k := fun k hk e => by have := hlt k e; omega
  have o1 : OwnL w1 (w.heap.size + 3) v1 (xs ++ [(x, y)]) := by unfold OwnL; rw [flatL_append, List.length_append]; exact hown
  refine ⟨?_, ?_, ?_, ?_, ?_⟩
  · exact ((h.box.below hX).grown hgrow (hne _ (by omega))).other (by show _ ≠ _; simp only; omega) _
  · exact ((h.res.below hX).grown hgrow (hne _ (by omega))).other (by show _ ≠ _; simp only; omega) _
  · exact ((h.out.below hX).grown hgrow (hne _ (by omega))).set1 _
  · have hv := World.ownsRow.lt o1
    obtain ⟨k1, k2⟩ := o1
    refine ⟨k1, ?_⟩
    rcases k2 with k2 | ⟨g, cap, cur, rfl, b, c, d⟩
    · exact .inl k2
    · exact .inr ⟨g, cap, cur, rfl, b, by rw [Deep.blk_setCell_other _ _ _ _ (show g ≠ w.heap.size + 1 + 1 by omega)]; exact c, d⟩
  · exact (hbX.grown hgrow hbX.size (fun k hk => by have := hlt k hk; omega)).setCell (show w.heap.size ≤ w.heap.size + 1 + 1 by omega) _
/-- what the round's region keeps -/
theorem TInv.S {w : World} {id as' p q : Int} {b off cap n k : Nat} {W w1 : World} {v : Value} {xs : List Lg.Ln} {row : Option Nat} (h : TInv w id as' (some ⟨b, off, none⟩) cap n W v xs) (hb : b < w.heap.size)
    (c1 : W.cell? ⟨b, off + k * 2, none⟩ = some (.int .i64 p)) (c2 : W.cell? ⟨b, off + k * 2 + 1, none⟩ = some (.int .i64 q)) (hrow : ∀ j, row = some j → w.heap.size + 3 ≤ j) {X : World} (hX : Below W.heap.size W X) (hg : X.grownBy w1 row) :
    w1.cell? ⟨w.heap.size, 1, none⟩ = some (.slice (some ⟨b, off, none⟩) n cap) ∧ w1.cell? ⟨b, off + k * 2, none⟩ = some (.int .i64 p) ∧ w1.cell? ⟨b, off + k * 2 + 1, none⟩ = some (.int .i64 q) ∧
      (w1.cell? ⟨w.heap.size + 1 + 1, 1, none⟩).isSome = true ∧ w1.frozen? ⟨w.heap.size + 1 + 1, 1, none⟩ = false := by
  have hlt := h.lt
  have hne : ∀ k, k < w.heap.size + 3 → row ≠ some k := fun k hk e => by have := hrow k e; omega
  have bx := (h.box.below hX).grown hg (hne _ (by omega))
  have ot := (h.out.below hX).grown hg (hne _ (by omega))
  have eb : w1.heap[b]? = W.heap[b]? := (hg.block b (by have := hX.size; omega) (fun e => hne b (by omega) e.symm)).trans (hX.block b (by omega))
  refine ⟨bx.2.2.1, (World.cell?_of_block (w := W) (a := ⟨b, _, none⟩) eb).trans c1, (World.cell?_of_block (w := W) (a := ⟨b, _, none⟩) eb).trans c2, by rw [ot.2.2.1]; rfl, ot.2.2.2.2⟩
theorem TInv.S3 {w w1 : World} {p q : Int} {b off cap n k : Nat} {u : Value} (hb : b < w.heap.size) (h : w1.cell? ⟨w.heap.size, 1, none⟩ = some (.slice (some ⟨b, off, none⟩) n cap) ∧ w1.cell? ⟨b, off + k * 2, none⟩ = some (.int .i64 p) ∧ w1.cell? ⟨b, off + k * 2 + 1, none⟩ = some (.int .i64 q) ∧
      (w1.cell? ⟨w.heap.size + 1 + 1, 1, none⟩).isSome = true ∧ w1.frozen? ⟨w.heap.size + 1 + 1, 1, none⟩ = false) :
    (w1.setCell ⟨w.heap.size + 1 + 1, 1, none⟩ u).cell? ⟨w.heap.size, 1, none⟩ = some (.slice (some ⟨b, off, none⟩) n cap) ∧ (w1.setCell ⟨w.heap.size + 1 + 1, 1, none⟩ u).cell? ⟨b, off + k * 2, none⟩ = some (.int .i64 p) ∧ (w1.setCell ⟨w.heap.size + 1 + 1, 1, none⟩ u).cell? ⟨b, off + k * 2 + 1, none⟩ = some (.int .i64 q) ∧
      ((w1.setCell ⟨w.heap.size + 1 + 1, 1, none⟩ u).cell? ⟨w.heap.size + 1 + 1, 1, none⟩).isSome = true ∧ (w1.setCell ⟨w.heap.size + 1 + 1, 1, none⟩ u).frozen? ⟨w.heap.size + 1 + 1, 1, none⟩ = false := by
  obtain ⟨h1, h2, h3, h4, h5⟩ := h
  obtain ⟨x, hx⟩ := Option.isSome_iff_exists.1 h4
  refine ⟨?_, ?_, ?_, ?_, ?_⟩
  · rw [World.cell?_setCell_far _ _ _ _ (by show w.heap.size + 1 + 1 ≠ w.heap.size; omega)]; exact h1
  · rw [World.cell?_setCell_far _ _ _ _ (by show w.heap.size + 1 + 1 ≠ b; omega)]; exact h2
  · rw [World.cell?_setCell_far _ _ _ _ (by show w.heap.size + 1 + 1 ≠ b; omega)]; exact h3
  · rw [World.cell?_setCell_same _ _ _ hx]; rfl
  · rw [World.frozen?_setCell]; exact h5
theorem TInv.S2 {w : World} {id as' : Int} {la : Option Addr} {lc n : Nat} {W w1 : World} {v : Value} {xs : List Lg.Ln} {row : Option Nat} (h : TInv w id as' la lc n W v xs)
    (hrow : ∀ j, row = some j → w.heap.size + 3 ≤ j) {X : World} (hX : Below W.heap.size W X) (hg : X.grownBy w1 row) : w1.cell? ⟨w.heap.size + 1 + 1, 1, none⟩ = some v ∧ w1.frozen? ⟨w.heap.size + 1 + 1, 1, none⟩ = false := by
  have ot := (h.out.below hX).grown hg (fun e => by have := hrow _ e; omega)
  exact ⟨ot.2.2.1, ot.2.2.2.2⟩
namespace Lg
theorem neg_take (l : List Ln) (k : Nat) (x : Ln) (h : l[k]? = some x) : neg (l.take (k + 1)) = neg (l.take k) ++ [(x.1, 0 - x.2)] := by
  rw [take_snoc l k x h]; unfold neg; rw [List.map_append]; rfl
theorem neg_len (l : List Ln) : (neg l).length = l.length := by unfold neg; simp
end Lg
/-- a posting turned round -/
def turnPost (w : World) (as' : Int) (ls : List Lg.Ln) (e : Ending) (w' : World) : Prop := ∃ v, e = .returned (.agg #[.int .i64 as', v]) ∧ OwnL w' w.heap.size v (Lg.neg ls) ∧ Below w.heap.size w w'
end Go.Proofs.YtandlmnbnjkklaaGreatDoor
