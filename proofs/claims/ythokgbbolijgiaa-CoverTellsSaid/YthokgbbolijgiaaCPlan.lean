/- The program's Plan: step by step the first offer of those as good. -/
import Derived.Test.YthokgbbolijgiaaCTop
import Derived.Test.YthokgbbolijgiaaAppAll
import Derived.WalkMore
namespace Go.Proofs.Ythokgbbolijgiaa
open Go.RowKit Go.BigFrame

theorem info_int : ∃ i : TypeInfo, Try.prog.info? 3 = some i ∧ i.zero = some (.int .i64 0) ∧ i.size = 1 ∧ i.bytes = 8 := by
  have h := infoInt
  cases hq : Try.prog.info? 3 with
  | none => simp [hq] at h
  | some i => simp [hq] at h; exact ⟨i, rfl, h.1, h.2.1, h.2.2⟩
/-- what planning keeps: the plan so far in blocks of its own, the table, and all that was there -/
def PInv (w : World) (T : Nat) (l : List Cv.Off) (wr : World) (v : Value) (xs : List Int) : Prop := OwnI wr (T + 1) v xs ∧ RowP wr T (Cv.best l) ∧ Below w.heap.size w wr ∧ w.heap.size ≤ T
theorem PInv.next {w wr w2 : World} {T : Nat} {l : List Cv.Off} {v : Value} {xs : List Int} (h : PInv w T l wr v xs) (hb : Below wr.heap.size wr w2) : PInv w T l w2 v xs := ⟨h.1.still hb, h.2.1.below hb, below_on h.2.2.1 (Nat.le_refl _) hb, h.2.2.2⟩
theorem PInv.size {w wr : World} {T : Nat} {l : List Cv.Off} {v : Value} {xs : List Int} (h : PInv w T l wr v xs) : T + 1 ≤ wr.heap.size := h.2.1.lt
theorem PInv.snoc {w wr w1 : World} {T : Nat} {l : List Cv.Off} {v v' : Value} {xs : List Int} {x : Int} {o : Obj} (h : PInv w T l wr v xs)
    (hown' : w1.ownsRow (T + 1) 3 1 v' (xs.length + 1) (xs.map (Value.int .i64) ++ [.int .i64 x])) (hgrow : (wr.alloc o).grownBy w1 v.ownBlock) : PInv w T l w1 v' (xs ++ [x]) := by
  have hlt := fun j hj => (World.ownsRow.lt h.1 j hj).1
  refine ⟨by unfold OwnI; simpa using hown', ?_, ?_, h.2.2.2⟩
  · have r := h.2.1.alloc o
    exact World.rowIs.of_block r (hgrow.block T r.lt (fun e => by have := hlt T e.symm; omega))
  · have hs := h.size
    have hs2 := h.2.2.2
    exact (h.2.2.1.alloc (by omega) o).grown hgrow (by simp; omega) (fun j hj => by have := hlt j hj; omega)
/-- what is planned -/
def planPost (w : World) (l : List Cv.Off) (d : Int) (e : Ending) (w' : World) : Prop := ∃ v, e = .returned (.tuple #[v, .int .i64 (Cv.code l d)]) ∧ OwnI w' w.heap.size v (Cv.planOf l d) ∧ Below w.heap.size w w'
theorem planPost.good {w wr : World} {T : Nat} {l : List Cv.Off} {d : Nat} {v : Value} {xs : List Int} (h : PInv w T l wr v xs) (hc : Cv.code l d = 0) (hx : xs = Cv.plan l d d) : planPost w l d (.returned (.tuple #[v, .int .i64 0])) wr := by
  refine ⟨v, by rw [hc], ?_, h.2.2.1⟩
  unfold Cv.planOf
  rw [if_pos hc]
  subst hx
  exact h.1.weak (by have := h.2.2.2; omega)
theorem planPost.bad {w w' : World} {l : List Cv.Off} {d : Int} (hc : Cv.code l d ≠ 0) (hb : Below w.heap.size w w') : planPost w l d (.returned (.tuple #[.slice none 0 0, .int .i64 (Cv.code l d)])) w' := by
  refine ⟨_, rfl, ?_, hb⟩
  unfold Cv.planOf
  rw [if_neg hc]
  exact OwnI.nil _ _

set_option maxRecDepth 100000 in
set_option maxHeartbeats 4000000 in
theorem plan_any (l : List Cv.Off) (a : Option Addr) (cap : Nat) (d : Int) (w : World) (hl : l.length ≤ maxLen) (hc : l.length ≤ cap) (hr : RowO w a l) :
    Calls Try.prog 10 #[.slice a l.length cap, .int .i64 d] w (planPost w l d) := by
  have hck := checkAsked_any l a cap d w hl hr
  by_cases h : Cv.code l d = 0
  · rw [h] at hck
    obtain ⟨ok, d0, d1⟩ := (Cv.code_ok l d).1 h
    have HB : Hid (∀ W, Below w.heap.size w W → Calls Try.prog 22 #[.slice a l.length cap] W fun e w' => e = .returned (.agg (cellsP (Cv.best l))) ∧ Below W.heap.size W w') := fun W hb => bestOf_any l a cap W ok hc (hr.below hb)
    obtain ⟨k, rfl⟩ := Int.eq_ofNat_of_zero_le d0
    have kN : k ≤ 400 := by omega
    have HE : Hid (Cv.code l k = 0) := h
    have HOK : Hid (Cv.Ok l) := ok
    have HR : Hid (RowO w a l) := hr
    have HBD : Hid (∀ o ∈ l, 1 ≤ o.1 ∧ o.1 ≤ 400 ∧ 0 ≤ o.2 ∧ o.2 ≤ 1000000) := ok.all
    have HV : Hid (∀ d : Nat, 0 ≤ Cv.best l d ∧ Cv.best l d ≤ d * 1000000) := fun d => ⟨Cv.best_nonneg l HOK.out d, Cv.best_top l HOK.out d⟩
    have n8 := ok.n8
    have hz := zeroP
    clear h ok hr d1 d0 hl
    go_enter Try.func10, Try.ntmps10
    go_wp2
    go_step3
    go_wp2_with (first
      | (refine hck.mono ?_; rintro e w1 ⟨rfl, b1⟩; have HB1 : Hid (Below w.heap.size w w1) := b1; have hbb := HB.out w1 b1; clear hck b1)
      | (refine hbb.mono ?_; rintro e w2 ⟨rfl, b2⟩; clear hbb; have HB2 : Hid (Below w.heap.size w w2) := below_on HB1.out (Nat.le_refl _) b2; clear b2)
      | (refine wpList_store_row rfl 44 (.tmp 7) (.tmp 19) rfl w2.heap.size (cellsP (Cv.best l)) rfl rfl _ _ (RowP.zero w2).obj (cellsP_info _) (by rw [cellsP_size, cellsP_size]) (cellsP_one _) ?_; have HP0 : Hid (PInv w w2.heap.size l ((w2.alloc (.cells (Array.replicate 401 (.int .i64 0)) 44)).setRow w2.heap.size (cellsP (Cv.best l))) (.slice none 0 0) []) := ⟨OwnI.nil _ _, (RowP.zero w2).row, below_setRow (HB2.out.alloc HB2.out.size _) HB2.out.size _, HB2.out.size⟩; generalize ((w2.alloc (.cells (Array.replicate 401 (.int .i64 0)) 44)).setRow w2.heap.size (cellsP (Cv.best l))) = W at *; clear hz))
    generalize w2.heap.size = T at *
    go_step3
    go_wp2
    go_loopw [8, 9] (fun pv lv wr => ∃ (xs : List Int) (left n : Nat), lv = .int .i64 left ∧ left ≤ n ∧ xs.length + n = k ∧ xs ++ Cv.plan l n left = Cv.plan l k k ∧ PInv w T l wr pv xs) (fun _ lv _ => (intOf lv).toNat)
    case atStart => exact ⟨[], k, k, rfl, Nat.le_refl _, by simp, rfl, HP0.out⟩
    case round =>
      obtain ⟨xs, left, n, rfl, hln, hlen, hpl, hp⟩ := hrel
      have HP : Hid (PInv w T l wr u8 xs) := hp
      have HPL : Hid (xs ++ Cv.plan l n left = Cv.plan l k k) := hpl
      have HL : Hid (xs.length + n = k) := hlen
      clear hp hpl hlen
      by_cases h0 : left = 0
      · subst h0
        go_wp2
        simp +zetaDelta only [Exit.noGoto]
        go_ret2
        exact planPost.good HP.out HE.out (by have := HPL.out; rwa [Cv.plan_zero, List.append_nil] at this)
      · have hl0 : (0 : Int) < (left : Int) := by omega
        have hl1 : left < 401 := by have := HL.out; omega
        have hl2 : (left : Int) < 401 := by omega
        have hl3 : (0 : Int) ≤ (left : Int) := by omega
        go_wp2
        go_loopw [8, 9, 25] (fun pv lv iv wx => pv = u8 ∧ lv = .int .i64 left ∧ ∃ i : Nat, i ≤ l.length ∧ iv = .int .i64 i ∧ (∀ j, j < i → ∀ p, l[j]? = some p → p.2 + Cv.best l (left - p.1.toNat) ≠ Cv.best l left) ∧ PInv w T l wx u8 xs) (fun _ _ iv _ => l.length - (intOf iv).toNat)
        case atStart => exact ⟨rfl, rfl, 0, Nat.zero_le _, rfl, fun j hj => absurd hj (Nat.not_lt_zero j), HP.out⟩
        case round =>
          obtain ⟨rfl, rfl, i, hi, rfl, hno, hp⟩ := hrel
          have HNO : Hid (∀ j, j < i → ∀ p, l[j]? = some p → p.2 + Cv.best l (left - p.1.toNat) ≠ Cv.best l left) := hno
          have HJ : Hid (PInv w T l wr u8 xs) := hp
          clear hno hp
          by_cases him : i < l.length
          · have him' : (i : Int) < (l.length : Int) := by omega
            obtain ⟨b, off, x, y, rfl, -, hx, c0, c1⟩ := (HR.out.below HJ.out.2.2.1).lies him
            have HX0 : Hid (l[i]? = some (x, y)) := hx
            have hbd := HBD.out (x, y) (List.mem_of_getElem? hx)
            simp only at hbd
            have hvv := HV.out (left - x.toNat)
            have HV5 : Hid (-1 ≤ Cv.best l (left - x.toNat) ∧ Cv.best l (left - x.toNat) ≤ 1000000000) := ⟨by omega, by omega⟩
            have HX : Hid (1 ≤ x ∧ x ≤ 400) := ⟨hbd.1, hbd.2.1⟩
            have HY : Hid (0 ≤ y ∧ y ≤ 1000000) := ⟨hbd.2.2.1, hbd.2.2.2⟩
            have HZQ : Hid (∃ z q, Cv.best l (left - x.toNat) = z ∧ Cv.best l left = q) := ⟨_, _, rfl, rfl⟩
            clear hbd hvv hx
            obtain ⟨z, q, hzz, hqq⟩ := HZQ.out
            have HZ : Hid (Cv.best l (left - x.toNat) = z) := hzz
            have HQ : Hid (Cv.best l left = q) := hqq
            clear hzz hqq
            have HNE : Hid (some wr.heap.size ≠ u8.ownBlock) := fun e => by have := (World.ownsRow.lt HJ.out.1 _ e.symm).2; omega
            have HA : Hid (PInv w T l (wr.alloc (.cells #[.int .i64 x, .int .i64 y] 37)) u8 xs) := HJ.out.next (below_box wr _)
            have d0 : (wr.alloc (.cells #[.int .i64 x, .int .i64 y] 37)).cell? ⟨wr.heap.size, 0, none⟩ = some (.int .i64 x) := by simp
            have d1 : (wr.alloc (.cells #[.int .i64 x, .int .i64 y] 37)).cell? ⟨wr.heap.size, 1, none⟩ = some (.int .i64 y) := by simp
            have hob : wr.heap.size < (wr.alloc (.cells #[.int .i64 x, .int .i64 y] 37)).heap.size := by simp
            go_wp2
            generalize (wr.alloc (.cells #[.int .i64 x, .int .i64 y] 37)) = W5 at *
            generalize wr.heap.size = ob at *
            have d2 : W5.cell? ⟨T, left, none⟩ = some (.int .i64 q) := by rw [← HQ.out]; exact HA.out.2.1.cell hl1
            have r0 := fun d os => cell_regrown d0 d os
            have r1 := fun d os => cell_regrown d1 d os
            have r2 := fun d os => cell_regrown d2 d os
            have HC : Hid (∀ wx, Below W5.heap.size W5 wx → Calls Try.prog 23 #[.pointer (some ⟨T, 0, none⟩), .agg #[.int .i64 x, .int .i64 y], .int .i64 left] wx fun e w' => e = .returned (.int .i64 (y + z)) ∧ Below wx.heap.size wx w') := by
              intro wx hx
              have hj := (HA.out.next hx).2.1.cell (i := left - x.toNat) (by omega)
              rw [HZ.out] at hj
              exact with_at T x y z left (left - x.toNat) _ HX.out HY.out (by omega) rfl hj (by rw [← HZ.out]; exact HV5.out)
            have HBH : Hid (∀ wx, Calls Try.prog 24 #[.agg #[.int .i64 x, .int .i64 y], .int .i64 left] wx fun e w' => e = .returned (.int .i64 ((left - x.toNat : Nat) : Int)) ∧ Below wx.heap.size wx w') := fun wx => behind_any x y left wx HX.out (by omega)
            clear c0 c1
            by_cases hq : y + z = q
            · have hqb : (y + z == q) = true := by simpa using hq
              have HQB : Hid (y + z = q) := hq
              clear hq
              refine wp_region_quiet_below (by kernel_rfl) (by kernel_rfl) ?_
              repeat go_big_quiet_step (first | (go_at_call 23; exact Calls.regrown_of (HC.out _ (below_regrown _ _ _))))
              refine wpQuiet_nil ?_
              intro _ hw'
              obtain ⟨⟨dq, osq⟩, hw''⟩ := hw'
              subst hw''
              have HB6 : Hid (Below W5.heap.size W5 (Go.Sort.grow (redrawn W5 dq) osq)) := below_regrown _ _ _
              have e0 := r0 dq osq
              have e1 := r1 dq osq
              generalize Go.Sort.grow (redrawn W5 dq) osq = W6 at *
              have HP6 : Hid (PInv w T l W6 u8 xs) := HA.out.next HB6.out
              have hs6 : T + 1 ≤ W6.heap.size := HP6.out.size
              have hob6 : ob < W6.heap.size := Nat.lt_of_lt_of_le hob HB6.out.size
              have HF : Hid (Cv.first l left = i) := Cv.first_is l left i _ HX0.out (by show y + _ = _; rw [HZ.out, HQ.out]; exact HQB.out) HNO.out
              have HST : Hid (Cv.plan l n left = (i : Int) :: Cv.plan l (n - 1) (left - x.toNat)) := Cv.plan_step l n left i _ HX0.out HF.out (by omega) (by omega)
              have hxl : left - x.toNat ≤ n - 1 := by have := HX.out; omega
              have hxl2 : left - x.toNat < left := by have := HX.out; omega
              clear r0 r1 r2 d0 d1 d2
              obtain ⟨i0, hi0, hi1, hi2, hi3⟩ := info_int
              have HI : Hid (Try.prog.info? 3 = some i0 ∧ i0.zero = some (.int .i64 0) ∧ i0.size = 1 ∧ i0.bytes = 8) := ⟨hi0, hi1, hi2, hi3⟩
              clear hi0 hi1 hi2 hi3
              go_wp2_with (first
                | (at_builtin; refine wpList_append_own _ rfl (.tmp 37) (.tmp 39) 26 rfl (T + 1) 3 i0 (.int .i64 0) 1 8 Try.underlying26 HI.out.1 HI.out.2.1 HI.out.2.2.1 HI.out.2.2.2 rfl (by decide) _ _ _ rfl (World.ownsRow.alloc HP6.out.1 _) ⟨W6.heap.size, 0, none⟩ 1 1 [.int .i64 (i : Int)] rfl rfl (cell1_new _ _ _) (one1 _) (by unfold maxLen; have := HL.out; omega) (by have := HL.out; omega) (by first | omega | (simp; omega)) ?_; intro v7 w7 own7 grow7 _; have HP7 : Hid (PInv w T l w7 v7 (xs ++ [(i : Int)])) := HP6.out.snoc own7 grow7; have f0 := World.grownBy.cell grow7 ((World.cell?_alloc_past _ _ _ hob6).trans e0) HNE.out; have f1 := World.grownBy.cell grow7 ((World.cell?_alloc_past _ _ _ hob6).trans e1) HNE.out; clear own7 grow7 e0 e1)
                | (go_at_call 24; refine (HBH.out _).mono ?_; rintro e w8 ⟨rfl, b8⟩; have HP8 : Hid (PInv w T l w8 v7 (xs ++ [(i : Int)])) := HP7.out.next b8; clear b8))
              exact ⟨⟨xs ++ [(i : Int)], left - x.toNat, n - 1, rfl, hxl, by have := HL.out; simp; omega, by rw [List.append_assoc, List.singleton_append, ← HST.out]; exact HPL.out, HP8.out⟩, by simp [intOf]; omega⟩
            · have hqb : (y + z == q) = false := by simpa using hq
              have HQB : Hid (y + z ≠ q) := hq
              clear hq
              refine wp_region_quiet_below (by kernel_rfl) (by kernel_rfl) ?_
              repeat go_big_quiet_step (first | (go_at_call 23; exact Calls.regrown_of (HC.out _ (below_regrown _ _ _))))
              refine wpQuiet_nil ?_
              intro _ hw'
              obtain ⟨⟨dq, osq⟩, hw''⟩ := hw'
              subst hw''
              have HP6 : Hid (PInv w T l (Go.Sort.grow (redrawn W5 dq) osq) u8 xs) := HA.out.next (below_regrown _ _ _)
              generalize Go.Sort.grow (redrawn W5 dq) osq = W6 at *
              go_wp2
              go_roundw
              case rel => exact ⟨rfl, rfl, i + 1, by omega, by go_num, fun j hj p hpj => by
                rcases Nat.lt_or_ge j i with c | c
                · exact HNO.out j c p hpj
                · obtain rfl : j = i := by omega
                  obtain rfl := Option.some.inj (HX0.out.symm.trans hpj)
                  show y + _ ≠ _
                  rw [HZ.out, HQ.out]; exact HQB.out, HP6.out⟩
              case measure => simp [intOf]; omega
          · exfalso
            obtain ⟨o, ho, e⟩ := Cv.best_is l HOK.out left (by omega)
            obtain ⟨j, hj, rfl⟩ := List.mem_iff_getElem.1 ho
            exact HNO.out j (by omega) _ (List.getElem?_eq_getElem hj) e.symm
  · have HE : Hid (Cv.code l d ≠ 0) := h
    have HCC : Hid (∃ c, Cv.code l d = c) := ⟨_, rfl⟩
    obtain ⟨c, hcc⟩ := HCC.out
    have HQ : Hid (Cv.code l d = c) := hcc
    rw [hcc] at hck
    have hcn : (c != 0) = true := by rw [← hcc]; simpa using h
    clear h hcc
    go_enter Try.func10, Try.ntmps10
    go_wp2
    go_step3
    go_wp2_with (refine hck.mono ?_; rintro e w1 ⟨rfl, b1⟩)
    simp +zetaDelta only [Exit.noGoto]
    go_ret2
    rw [← HQ.out]
    exact planPost.bad HE.out b1
end Go.Proofs.Ythokgbbolijgiaa
