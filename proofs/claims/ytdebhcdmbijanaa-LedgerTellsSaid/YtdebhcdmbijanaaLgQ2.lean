/- The program's look over a posting's lines, and over a posting. -/
import Derived.Test.YtdebhcdmbijanaaLgQ1
import Derived.Deep.OwnRows
namespace Go.Proofs.Ytdebhcdmbijanaa
open Go.RowKit Go.BigFrame

/-- which accounts were there behind some lines -/
def Marks (w : World) (b : Nat) (l : List Lg.Ln) : Prop := w.rowIs b 57 6 (fun i => .bool (Lg.hasA l (i : Int)))
theorem Marks.below {w w' : World} {b : Nat} {l : List Lg.Ln} (h : Marks w b l) (hb : Below w.heap.size w w') : Marks w' b l := World.rowIs.of_block h (hb.block b (World.rowIs.lt h))
theorem Marks.new (w : World) : Marks (w.alloc (.cells #[.bool false, .bool false, .bool false, .bool false, .bool false, .bool false] 57)) w.heap.size [] :=
  World.rowIs_alloc w _ _ _ (fun i hi => by
    match i, hi with
    | 0, _ => rfl
    | 1, _ => rfl
    | 2, _ => rfl
    | 3, _ => rfl
    | 4, _ => rfl
    | 5, _ => rfl)
theorem Marks.mark {w : World} {b : Nat} {l : List Lg.Ln} {k p : Nat} {q : Int} (h : Marks w b (l.take k)) (hx : l[k]? = some ((p : Int), q)) : Marks (w.setCell ⟨b, p, none⟩ (.bool true)) b (l.take (k + 1)) :=
  World.rowIs.congr (World.rowIs.set h p (.bool true)) (fun j hj => by
    rw [Lg.hasA_take l k _ hx]
    by_cases c : j = p
    · subst c; simp
    · rw [if_neg c]
      have : decide ((p : Int) = (j : Int)) = false := by simp; omega
      simp only [this, Bool.or_false])
theorem box2_below {wr w1 : World} {x y : Value} {t : TypeId} (hb : Below (wr.alloc (.cells #[x, y] t)).heap.size (wr.alloc (.cells #[x, y] t)) w1) :
    w1.cell? ⟨wr.heap.size, 0, none⟩ = some x ∧ w1.cell? ⟨wr.heap.size, 1, none⟩ = some y ∧ Below wr.heap.size wr w1 := by
  have hlt : wr.heap.size < (wr.alloc (.cells #[x, y] t)).heap.size := by simp
  exact ⟨(hb.cell (p := ⟨wr.heap.size, 0, none⟩) hlt).trans (by simp), (hb.cell (p := ⟨wr.heap.size, 1, none⟩) hlt).trans (by simp), below_on (below_box wr _) (Nat.le_refl _) hb⟩
set_option maxRecDepth 100000 in
set_option maxHeartbeats 4000000 in
theorem checkLines_any (ls : List Lg.Ln) (a : Option Addr) (cap : Nat) (w : World) (hl : ls.length ≤ 6) (hr : RowL w a ls) :
    Calls Try.prog 29 #[.slice a ls.length cap] w fun e w' => e = .returned (.int .i64 (Lg.lrec [] ls)) ∧ Below w.heap.size w w' := by
  have R : Hid (RowL w a ls) := hr
  obtain ⟨n, hn⟩ : ∃ n, ls.length = n := ⟨_, rfl⟩
  have HN : Hid (ls.length = n) := hn
  rw [hn] at hl ⊢
  clear hr hn
  go_enter Try.func29, Try.ntmps29
  go_wp2
  go_loopw [4, 9] (fun sv iv wr => ∃ k : Nat, k ≤ n ∧ iv = .int .i64 k ∧ sv = .int .i64 (Lg.sum (ls.take k)) ∧ (∀ x ∈ ls.take k, -1099511627776 ≤ x.2 ∧ x.2 ≤ 1099511627776) ∧ Lg.lrec [] ls = Lg.lat ls k ∧ Marks wr w.heap.size (ls.take k) ∧ Below w.heap.size w wr) (fun _ iv _ => n - (intOf iv).toNat)
  case atStart => exact ⟨0, Nat.zero_le _, rfl, rfl, fun x hx => by simp at hx, rfl, Marks.new w, below_box w _⟩
  case round =>
    obtain ⟨k, hk, rfl, rfl, hbd, hlat, hm, hb⟩ := hrel
    have HLA : Hid (Lg.lrec [] ls = Lg.lat ls k) := hlat
    have HBD : Hid (∀ x ∈ ls.take k, -1099511627776 ≤ x.2 ∧ x.2 ≤ 1099511627776) := hbd
    have HM : Hid (Marks wr w.heap.size (ls.take k)) := hm
    have HB : Hid (Below w.heap.size w wr) := hb
    have hsb := Lg.sum_bd _ hbd
    rw [List.length_take] at hsb
    clear hlat hbd hm hb
    by_cases hlt : k < n
    · have hlt' : (k : Int) < (n : Int) := by omega
      obtain ⟨b, off, p, q, rfl, hx, c1, c2⟩ := (R.out.below HB.out).at (k := k) (by rw [HN.out]; exact hlt)
      have HX : Hid (ls[k]? = some (p, q)) := hx
      have HS : Hid (_) := Lg.lat_step ls k (p, q) hx
      clear hx
      by_cases p1 : 1 ≤ p ∧ p ≤ 5
      · obtain ⟨pn, rfl⟩ : ∃ pn : Nat, p = pn := ⟨p.toNat, by omega⟩
        have HAC : Hid (decide (1 ≤ (pn : Int) ∧ (pn : Int) ≤ 5) = true) := by show _ = _; simp; omega
        have p2 : pn < 6 := by omega
        by_cases q1 : Lg.far q = true ∨ q = 0
        · have HE : Hid (Lg.lrec [] ls = 3) := by
            have e : Lg.ln (ls.take k) ((pn : Int), q) = 3 := by unfold Lg.ln; rw [if_neg (by simp only; omega), if_pos q1]
            show _ = _; rw [HLA.out, HS.out, e]; rfl
          have HMV : Hid ((!Lg.far q && decide (q ≠ 0)) = false) := by
            show _ = _
            rcases q1 with q1 | q1 <;> simp [q1]
          clear q1 p1
          go_wp2_with (first
            | (go_at_call 23; refine (lacc_any _ _ _ HAC.out).mono ?_; rintro e w1 ⟨rfl, rfl⟩)
            | (go_at_call 35; refine (lmoved_any _ _ _ HMV.out).mono ?_; rintro e w1 ⟨rfl, hb⟩))
          go_ret
          exact ⟨ret_int HE.out.symm, below_on HB.out (Nat.le_refl _) (box2_below hb).2.2⟩
        · have hfar : Lg.far q = false := by cases h : Lg.far q with | false => rfl | true => exact absurd (.inl h) q1
          have q0 : q ≠ 0 := fun h => q1 (.inr h)
          have hqb := (Lg.far_iff q).1 hfar
          have HMV : Hid ((!Lg.far q && decide (q ≠ 0)) = true) := by show _ = _; simp [hfar, q0]
          have HLN : Hid (∀ b, Lg.hasA (ls.take k) (pn : Int) = b → Lg.ln (ls.take k) ((pn : Int), q) = if b = true then 6 else 0) := by
            rintro b rfl
            unfold Lg.ln
            rw [if_neg (by simp only; omega), if_neg q1]
          obtain ⟨s0, hs0⟩ : ∃ s0, Lg.sum (ls.take k) = s0 := ⟨_, rfl⟩
          have HS0 : Hid (Lg.sum (ls.take k) = s0) := hs0
          rw [hs0] at hsb ⊢
          have s1 := hsb.1
          have s2 := hsb.2
          rw [HN.out, Nat.min_eq_left hk] at s1 s2
          have q2 := hqb.1
          have q3 := hqb.2
          clear hs0 hsb hqb hfar q0 q1 p1
          cases hh : Lg.hasA (ls.take k) (pn : Int) with
          | true =>
            have HE : Hid (Lg.lrec [] ls = 6) := by
              show _ = _; rw [HLA.out, HS.out, HLN.out true hh]; rfl
            have HH : Hid (Value.bool (Lg.hasA (ls.take k) (pn : Int)) = .bool true) := by show _ = _; rw [hh]
            clear hh
            go_wp2_with (first
              | (go_at_call 23; refine (lacc_any _ _ _ HAC.out).mono ?_; rintro e w1 ⟨rfl, rfl⟩)
              | (go_at_call 35; refine (lmoved_any _ _ _ HMV.out).mono ?_; rintro e w1 ⟨rfl, hb⟩; have HB1 : Hid (Below wr.heap.size wr w1) := (box2_below hb).2.2; have k0 := (box2_below hb).1; clear hb; have m1 := (World.rowIs.cell (HM.out.below HB1.out) p2).trans (congrArg some HH.out)))
            go_ret
            exact ⟨ret_int HE.out.symm, below_on HB.out (Nat.le_refl _) HB1.out⟩
          | false =>
            have HE : Hid (Lg.lrec [] ls = Lg.lat ls (k + 1)) := by
              show _ = _; rw [HLA.out, HS.out, HLN.out false hh]; rfl
            have HH : Hid (Value.bool (Lg.hasA (ls.take k) (pn : Int)) = .bool false) := by show _ = _; rw [hh]
            have HBD2 : Hid (∀ x ∈ ls.take (k + 1), -1099511627776 ≤ x.2 ∧ x.2 ≤ 1099511627776) := by
              intro x hx
              rw [Lg.take_snoc ls k _ HX.out, List.mem_append] at hx
              rcases hx with hx | hx
              · exact HBD.out x hx
              · rw [List.mem_singleton] at hx; subst hx; exact ⟨q2, q3⟩
            have HS2 : Hid (Lg.sum (ls.take (k + 1)) = s0 + q) := by show _ = _; rw [Lg.sum_take ls k _ HX.out, HS0.out]
            clear hh
            go_wp2_with (first
              | (go_at_call 23; refine (lacc_any _ _ _ HAC.out).mono ?_; rintro e w1 ⟨rfl, rfl⟩)
              | (go_at_call 35; refine (lmoved_any _ _ _ HMV.out).mono ?_; rintro e w1 ⟨rfl, hb⟩; have HB1 : Hid (Below wr.heap.size wr w1) := (box2_below hb).2.2; have k0 := (box2_below hb).1; have k1 := (box2_below hb).2.1; clear hb; have m1 := (World.rowIs.cell (HM.out.below HB1.out) p2).trans (congrArg some HH.out); have m2 := World.rowIs.frozen (HM.out.below HB1.out) pn; have k2 := (World.cell?_setCell_far w1 ⟨w.heap.size, pn, none⟩ ⟨wr.heap.size, 1, none⟩ (.bool true) (Nat.ne_of_lt (World.rowIs.lt HM.out))).trans k1))
            go_roundw
            case rel => exact ⟨k + 1, by omega, by go_num, by rw [HS2.out], HBD2.out, HE.out, (HM.out.below HB1.out).mark HX.out, (below_on HB.out (Nat.le_refl _) HB1.out).setCell (Nat.le_refl _) _⟩
            case measure => simp [intOf]; omega
      · have HAC : Hid (decide (1 ≤ p ∧ p ≤ 5) = false) := by show _ = _; simp only [decide_eq_false_iff_not]; exact p1
        have HE : Hid (Lg.lrec [] ls = 7) := by
          have e : Lg.ln (ls.take k) (p, q) = 7 := by unfold Lg.ln; rw [if_pos (by simp only; omega)]
          show _ = _; rw [HLA.out, HS.out, e]; rfl
        clear p1
        go_wp2_with (go_at_call 23; refine (lacc_any _ _ _ HAC.out).mono ?_; rintro e w1 ⟨rfl, rfl⟩)
        go_ret
        exact ⟨ret_int HE.out.symm, below_on HB.out (Nat.le_refl _) (below_box wr _)⟩
    · obtain rfl : k = n := by omega
      have hz : Lg.lat ls k = if Lg.sum ls = 0 then 0 else 4 := by rw [← HN.out]; exact Lg.lat_end ls
      have ht : ls.take k = ls := by rw [← HN.out]; exact List.take_length
      rw [ht]
      by_cases h0 : Lg.sum ls = 0
      · rw [if_pos h0] at hz
        have HE : Hid (Lg.lrec [] ls = 0) := by show _ = _; rw [HLA.out]; exact hz
        have h0' : (Lg.sum ls != 0) = false := by simpa using h0
        clear h0 hz ht hsb
        go_wp2
        go_ret
        exact ⟨ret_int HE.out.symm, HB.out⟩
      · rw [if_neg h0] at hz
        have HE : Hid (Lg.lrec [] ls = 4) := by show _ = _; rw [HLA.out]; exact hz
        have h0' : (Lg.sum ls != 0) = true := by simpa using h0
        clear h0 hz ht hsb
        go_wp2
        go_ret
        exact ⟨ret_int HE.out.symm, HB.out⟩
theorem checkLines_at (ls : List Lg.Ln) (n : Nat) (c : Int) (a : Option Addr) (cap : Nat) (w : World) (hn : ls.length = n) (hl : n ≤ 6) (hc : Lg.lrec [] ls = c) (hr : RowL w a ls) :
    Calls Try.prog 29 #[.slice a n cap] w fun e w' => e = .returned (.int .i64 c) ∧ Below w.heap.size w w' := by
  subst hn hc; exact checkLines_any ls a cap w hl hr
set_option maxHeartbeats 1000000 in
theorem checkPosting_any (id : Int) (ls : List Lg.Ln) (a : Option Addr) (cap : Nat) (w : World) (hl : ls.length ≤ maxLen) (hr : RowL w a ls) :
    Calls Try.prog 18 #[.agg #[.int .i64 id, .slice a ls.length cap]] w fun e w' => e = .returned (.int .i64 (Lg.pchk (id, ls))) ∧ Below w.heap.size w w' := by
  unfold maxLen at hl
  have B0 : Hid (Below w.heap.size w (w.alloc (.cells #[.int .i64 id, .slice a ls.length cap] 25))) := below_box w _
  have R : Hid (RowL (w.alloc (.cells #[.int .i64 id, .slice a ls.length cap] 25)) a ls) := hr.below B0.out
  have R0 : Hid (RowL w a ls) := hr
  clear hr
  by_cases h1 : id < 1
  · have HE : Hid (Lg.pchk (id, ls) = 3) := by show _ = _; unfold Lg.pchk; rw [if_pos h1]
    rw [HE.out]
    have h1' : id ≤ 0 := by omega
    go_enter Try.func18, Try.ntmps18
    go_wp2
    go_ret
    first | exact ⟨rfl, B0.out⟩ | exact ⟨rfl, Below.refl _ _⟩
  · have h1' : ¬ id ≤ 0 := by omega
    by_cases h2 : ls.length < 2
    · have HE : Hid (Lg.pchk (id, ls) = 1) := by show _ = _; unfold Lg.pchk; rw [if_neg h1, if_pos h2]
      rw [HE.out]
      have h2' : (ls.length : Int) < 2 := by omega
      go_enter Try.func18, Try.ntmps18
      go_wp2
      go_ret
      first | exact ⟨rfl, B0.out⟩ | exact ⟨rfl, Below.refl _ _⟩
    · by_cases h3 : 6 < ls.length
      · have HE : Hid (Lg.pchk (id, ls) = 2) := by show _ = _; unfold Lg.pchk; rw [if_neg h1, if_neg h2, if_pos h3]
        rw [HE.out]
        have h2' : ¬ (ls.length : Int) < 2 := by omega
        have h3' : (6 : Int) < (ls.length : Int) := by omega
        go_enter Try.func18, Try.ntmps18
        go_wp2
        go_ret
        first | exact ⟨rfl, B0.out⟩ | exact ⟨rfl, Below.refl _ _⟩
      · have HE : Hid (Lg.pchk (id, ls) = Lg.lrec [] ls) := by show _ = _; unfold Lg.pchk; rw [if_neg h1, if_neg h2, if_neg h3]
        rw [HE.out]
        have h2' : ¬ (ls.length : Int) < 2 := by omega
        have h3' : ¬ (6 : Int) < (ls.length : Int) := by omega
        have h6 : ls.length ≤ 6 := by omega
        go_enter Try.func18, Try.ntmps18
        go_wp2_with (go_at_call 29; refine (checkLines_any ls _ _ _ h6 (by first | exact R.out | exact R0.out)).mono ?_; rintro e w1 ⟨rfl, hb⟩)
        go_ret
        first | exact ⟨rfl, below_on B0.out (Nat.le_refl _) hb⟩ | exact ⟨rfl, hb⟩
theorem checkPosting_at (id : Int) (ls : List Lg.Ln) (n : Nat) (c : Int) (a : Option Addr) (cap : Nat) (w : World) (hn : ls.length = n) (hl : ls.length ≤ maxLen) (hc : Lg.pchk (id, ls) = c) (hr : RowL w a ls) :
    Calls Try.prog 18 #[.agg #[.int .i64 id, .slice a n cap]] w fun e w' => e = .returned (.int .i64 c) ∧ Below w.heap.size w w' := by
  subst hn hc; exact checkPosting_any id ls a cap w hl hr
end Go.Proofs.Ytdebhcdmbijanaa
