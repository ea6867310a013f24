/- The document's Plan. -/
import Derived.Test.YthokgbbolijgiaaCTop2
import Derived.Test.YthokgbbolijgiaaCPlan
namespace Go.Proofs.Ythokgbbolijgiaa
open Go.RowKit Go.BigFrame

/-- what the document's planning keeps -/
def QInv (w : World) (g c k : Nat) (l : List Cv.Off) (wr : World) (v : Value) (xs : List Int) : Prop := OwnI wr (g + 1) v xs ∧ TabI wr w.heap.size g c (k + 1) (Cv.best l) ∧ Below w.heap.size w wr
theorem QInv.next {w wr w2 : World} {g c k : Nat} {l : List Cv.Off} {v : Value} {xs : List Int} (h : QInv w g c k l wr v xs) (hb : Below wr.heap.size wr w2) : QInv w g c k l w2 v xs := ⟨h.1.still hb, h.2.1.below hb, below_on h.2.2 (Nat.le_refl _) hb⟩
theorem QInv.size {w wr : World} {g c k : Nat} {l : List Cv.Off} {v : Value} {xs : List Int} (h : QInv w g c k l wr v xs) : g + 1 ≤ wr.heap.size := h.2.1.lt.2
theorem TabI.of_block {w w' : World} {B g cap n : Nat} {F : Nat → Int} (h : TabI w B g cap n F) (hb : w'.heap[g]? = w.heap[g]?) : TabI w' B g cap n F := by
  obtain ⟨h1, h2⟩ := h
  refine ⟨h1, ?_⟩
  rcases h2 with h2 | ⟨g', cap', cur, e, b, c, d⟩
  · exact .inl h2
  · cases e
    exact .inr ⟨g, cap, cur, rfl, b, hb.trans c, d⟩
theorem TabI.weak {w : World} {B B' g cap n : Nat} {F : Nat → Int} (h : TabI w B g cap n F) (hB : B' ≤ B) : TabI w B' g cap n F := by
  obtain ⟨h1, h2⟩ := h
  refine ⟨h1, ?_⟩
  rcases h2 with h2 | ⟨g', cap', cur, e, b, c, d⟩
  · exact .inl h2
  · cases e
    exact .inr ⟨g, cap, cur, rfl, Nat.le_trans hB b, c, d⟩
theorem QInv.snoc {w wr w1 : World} {g c k : Nat} {l : List Cv.Off} {v v' : Value} {xs : List Int} {x : Int} {o : Obj} (h : QInv w g c k l wr v xs)
    (hown' : w1.ownsRow (g + 1) 3 1 v' (xs.length + 1) (xs.map (Value.int .i64) ++ [.int .i64 x])) (hgrow : (wr.alloc o).grownBy w1 v.ownBlock) : QInv w g c k l w1 v' (xs ++ [x]) := by
  have hlt := fun j hj => (World.ownsRow.lt h.1 j hj).1
  have hs := h.size
  have hs2 := h.2.1.lt.1
  refine ⟨by unfold OwnI; simpa using hown', ?_, ?_⟩
  · have r := h.2.1.below (below_box wr o)
    exact r.of_block (hgrow.block g r.lt.2 (fun e => by have := hlt g e.symm; omega))
  · exact (h.2.2.alloc (by omega) o).grown hgrow (by simp; omega) (fun j hj => by have := hlt j hj; omega)
theorem planPost.good2 {w wr : World} {g c k : Nat} {l : List Cv.Off} {v : Value} {xs : List Int} (h : QInv w g c k l wr v xs) (hc : Cv.code l k = 0) (hx : xs = Cv.plan l k k) : planPost w l k (.returned (.tuple #[v, .int .i64 0])) wr := by
  refine ⟨v, by rw [hc], ?_, h.2.2⟩
  unfold Cv.planOf
  rw [if_pos hc]
  subst hx
  exact h.1.weak (by have := h.2.1.lt.1; omega)
/-- the offer that is taken: the first of those from i on that is as good, or none -/
def Take (l : List Cv.Off) (d i : Nat) (t : Int) : Prop := (t = -1 ∧ ∀ j, i ≤ j → ∀ p, l[j]? = some p → p.2 + Cv.best l (d - p.1.toNat) ≠ Cv.best l d) ∨
  ∃ t0 : Nat, t = t0 ∧ i ≤ t0 ∧ (∃ o, l[t0]? = some o ∧ o.2 + Cv.best l (d - o.1.toNat) = Cv.best l d) ∧ ∀ j, i ≤ j → j < t0 → ∀ p, l[j]? = some p → p.2 + Cv.best l (d - p.1.toNat) ≠ Cv.best l d
theorem Take.start (l : List Cv.Off) (d : Nat) : Take l d l.length (-1) := .inl ⟨rfl, fun j hj p hp => by rw [List.getElem?_eq_none hj] at hp; cases hp⟩
theorem Take.yes {l : List Cv.Off} {d i : Nat} {o : Cv.Off} (h : l[i]? = some o) (hb : o.2 + Cv.best l (d - o.1.toNat) = Cv.best l d) : Take l d i i :=
  .inr ⟨i, rfl, Nat.le_refl _, ⟨o, h, hb⟩, fun j hj hj2 => by omega⟩
theorem Take.no {l : List Cv.Off} {d i : Nat} {o : Cv.Off} {t : Int} (ht : Take l d (i + 1) t) (h : l[i]? = some o) (hb : o.2 + Cv.best l (d - o.1.toNat) ≠ Cv.best l d) : Take l d i t := by
  have key : ∀ p, l[i]? = some p → p.2 + Cv.best l (d - p.1.toNat) ≠ Cv.best l d := fun p hp => by obtain rfl := Option.some.inj (h.symm.trans hp); exact hb
  rcases ht with ⟨e, hn⟩ | ⟨t0, e, h1, h2, h3⟩
  · refine .inl ⟨e, fun j hj p hp => ?_⟩
    rcases Nat.lt_or_ge i j with c | c
    · exact hn j c p hp
    · obtain rfl : j = i := by omega
      exact key p hp
  · refine .inr ⟨t0, e, by omega, h2, fun j hj hj2 p hp => ?_⟩
    rcases Nat.lt_or_ge i j with c | c
    · exact h3 j c hj2 p hp
    · obtain rfl : j = i := by omega
      exact key p hp
theorem Take.all {l : List Cv.Off} (ok : Cv.Ok l) {d : Nat} (hd : 0 < d) {t : Int} (h : Take l d 0 t) : ∃ (t0 : Nat) (o : Cv.Off), t = t0 ∧ l[t0]? = some o ∧ Cv.first l d = t0 := by
  rcases h with ⟨_, hn⟩ | ⟨t0, e, _, ⟨o, h2, h3⟩, h4⟩
  · exfalso
    obtain ⟨o, ho, e⟩ := Cv.best_is l ok d hd
    obtain ⟨j, hj, rfl⟩ := List.mem_iff_getElem.1 ho
    exact hn j (Nat.zero_le _) _ (List.getElem?_eq_getElem hj) e.symm
  · exact ⟨t0, o, e, h2, Cv.first_is l d t0 o h2 h3 (fun j hj p hp => h4 j (Nat.zero_le _) hj p hp)⟩

set_option maxRecDepth 100000 in
set_option maxHeartbeats 4000000 in
theorem planRef_any (l : List Cv.Off) (a : Option Addr) (cap : Nat) (d : Int) (w : World) (hl : l.length ≤ maxLen) (hr : RowO w a l) :
    Calls Try.prog 12 #[.slice a l.length cap, .int .i64 d] w (planPost w l d) := by
  have hck := bestRef_any l a cap d w hl hr
  by_cases h : Cv.code l d = 0
  · rw [h] at hck
    obtain ⟨ok, d0, d1⟩ := (Cv.code_ok l d).1 h
    obtain ⟨k, rfl⟩ := Int.eq_ofNat_of_zero_le d0
    have kN : k ≤ 400 := by omega
    have HP : Hid (∀ W, Below w.heap.size w W → Calls Try.prog 25 #[.slice a l.length cap, .int .i64 k] W fun e w' => ∃ g c, e = .returned (.slice (some ⟨g, 0, none⟩) (k + 1) c) ∧ TabI w' W.heap.size g c (k + 1) (Cv.best l) ∧ Below W.heap.size W w') := fun W hb => pricesOf_any l a cap k W ok kN (hr.below hb)
    have HE : Hid (Cv.code l k = 0) := h
    have HOK : Hid (Cv.Ok l) := ok
    have HR : Hid (RowO w a l) := hr
    have HBD : Hid (∀ o ∈ l, 1 ≤ o.1 ∧ o.1 ≤ 400 ∧ 0 ≤ o.2 ∧ o.2 ≤ 1000000) := ok.all
    have HV : Hid (∀ d : Nat, 0 ≤ Cv.best l d ∧ Cv.best l d ≤ d * 1000000) := fun d => ⟨Cv.best_nonneg l HOK.out d, Cv.best_top l HOK.out d⟩
    have n8 := ok.n8
    clear h ok hr d1 d0 hl
    generalize hvl : Cv.val l k = vl at hck
    clear hvl
    go_enter Try.func12, Try.ntmps12
    go_wp2_with (first
      | (refine hck.mono ?_; rintro e w1 ⟨rfl, b1⟩; have HB1 : Hid (Below w.heap.size w w1) := b1; clear hck b1)
      | (go_at_call 25; refine (HP.out _ HB1.out).mono ?_; rintro e w2 ⟨g, c, rfl, ht, hb⟩; have HQ0 : Hid (QInv w g c k l w2 (.slice none 0 0) []) := ⟨OwnI.nil _ _, ht.weak HB1.out.size, below_on HB1.out (Nat.le_refl _) hb⟩; clear ht hb))
    go_loopw [1, 9] (fun dv pv wr => ∃ (xs : List Int) (z : Int) (n : Nat), dv = .int .i64 z ∧ -400 ≤ z ∧ z.toNat ≤ n ∧ xs.length + n = k ∧ xs ++ Cv.plan l n z.toNat = Cv.plan l k k ∧ QInv w g c k l wr pv xs) (fun dv _ _ => (intOf dv).toNat)
    case atStart => exact ⟨[], k, k, rfl, by omega, by simp, by simp, rfl, HQ0.out⟩
    case round =>
      obtain ⟨xs, z, n, rfl, hz0, hzn, hlen, hpl, hp⟩ := hrel
      have HP1 : Hid (QInv w g c k l wr u9 xs) := hp
      have HPL : Hid (xs ++ Cv.plan l n z.toNat = Cv.plan l k k) := hpl
      have HL : Hid (xs.length + n = k) := hlen
      clear hp hpl hlen
      by_cases h0 : z ≤ 0
      · have hz1 : ¬ 0 < z := by omega
        have HZ0 : Hid (z.toNat = 0) := by unfold Hid; omega
        go_wp2
        go_ret2
        exact planPost.good2 HP1.out HE.out (by have := HPL.out; rwa [HZ0.out, Cv.plan_zero, List.append_nil] at this)
      · obtain ⟨d, rfl⟩ := Int.eq_ofNat_of_zero_le (show 0 ≤ z by omega)
        have HPL2 : Hid (xs ++ Cv.plan l n d = Cv.plan l k k) := HPL.out
        have hzn2 : d ≤ n := hzn
        have hd0 : (0 : Int) < (d : Int) := by omega
        have hdk : d ≤ k := by have := HL.out; omega
        have hdk2 : (d : Int) < (k : Int) + 1 := by omega
        clear HPL hzn h0 hz0
        go_wp2
        go_loopw [10, 11] (fun tv iv wx => ∃ (i : Nat) (t : Int), i ≤ l.length ∧ iv = .int .i64 ((i : Int) - 1) ∧ Take l d i t ∧ tv = .int .i64 t ∧ QInv w g c k l wx u9 xs) (fun _ iv _ => (intOf iv + 1).toNat)
        case atStart => exact ⟨l.length, -1, Nat.le_refl _, rfl, Take.start l d, rfl, HP1.out⟩
        case round =>
          obtain ⟨i1, t, hi1, rfl, ht, rfl, hp⟩ := hrel
          have HT1 : Hid (Take l d i1 t) := ht
          have HJ : Hid (QInv w g c k l wr u9 xs) := hp
          clear ht hp
          by_cases hi0 : i1 = 0
          · subst hi0
            have HTA : Hid (∃ (t0 : Nat) (o : Cv.Off), t = t0 ∧ l[t0]? = some o ∧ Cv.first l d = t0) := Take.all HOK.out (by omega) HT1.out
            obtain ⟨t0, ⟨x, y⟩, rfl, hx0, hf⟩ := HTA.out
            have HX0 : Hid (l[t0]? = some (x, y)) := hx0
            have HF : Hid (Cv.first l d = t0) := hf
            have htl : t0 < l.length := by
              rcases Nat.lt_or_ge t0 l.length with c | c
              · exact c
              · rw [List.getElem?_eq_none c] at hx0; cases hx0
            have hbd := HBD.out (x, y) (List.mem_of_getElem? hx0)
            simp only at hbd
            have HX : Hid (1 ≤ x ∧ x ≤ 400) := ⟨hbd.1, hbd.2.1⟩
            have x1 := hbd.1
            have x2 := hbd.2.1
            have ht0 : (0 : Int) ≤ (t0 : Int) := by omega
            have htl2 : (t0 : Int) < (l.length : Int) := by omega
            have HST : Hid (Cv.plan l n d = (t0 : Int) :: Cv.plan l (n - 1) (d - x.toNat)) := Cv.plan_step l n d t0 _ hx0 hf (by omega) (by omega)
            have HSZ : Hid (g + 1 ≤ wr.heap.size) := HJ.out.size
            have hs6 := HSZ.out
            clear hbd hx0 hf
            obtain ⟨i0, hi0, hi1, hi2, hi3⟩ := info_int
            have HI : Hid (Try.prog.info? 3 = some i0 ∧ i0.zero = some (.int .i64 0) ∧ i0.size = 1 ∧ i0.bytes = 8) := ⟨hi0, hi1, hi2, hi3⟩
            clear hi0 hi1 hi2 hi3
            obtain ⟨b, off, x', y', rfl, hbw, hx', c0, c1⟩ := (HR.out.below HJ.out.2.2).lies htl
            obtain ⟨rfl, rfl⟩ : x' = x ∧ y' = y := by have := hx'.symm.trans HX0.out; simpa using this
            clear hx' c1 c0
            have HRR : Hid (∀ w7, QInv w g c k l w7 u9 xs ∨ (∃ v, QInv w g c k l w7 v (xs ++ [(t0 : Int)])) → w7.cell? ⟨b, off + t0 * 2, none⟩ = some (.int .i64 x')) := by
              intro w7 h7
              have hb7 : Below w.heap.size w w7 := by rcases h7 with h | ⟨v, h⟩; exact h.2.2; exact h.2.2
              obtain ⟨b', off', x2, y2, e', -, hx2, c0, -⟩ := (HR.out.below hb7).lies htl
              obtain ⟨rfl, rfl⟩ : b = b' ∧ off = off' := by simpa using e'
              obtain ⟨rfl, rfl⟩ : x2 = x' ∧ y2 = y' := by have := hx2.symm.trans HX0.out; simpa using this
              exact c0
            go_wp2_with (at_builtin; refine wpList_append_own _ rfl (.tmp 59) (.tmp 61) 26 rfl (g + 1) 3 i0 (.int .i64 0) 1 8 Try.underlying26 HI.out.1 HI.out.2.1 HI.out.2.2.1 HI.out.2.2.2 rfl (by decide) _ _ _ rfl (World.ownsRow.alloc HJ.out.1 _) ⟨wr.heap.size, 0, none⟩ 1 1 [.int .i64 (t0 : Int)] rfl rfl (cell1_new _ _ _) (one1 _) (by unfold maxLen; have := HL.out; omega) (by have := HL.out; omega) (by first | omega | (simp; omega)) ?_; intro v7 w7 own7 grow7 _; have HP7 : Hid (QInv w g c k l w7 v7 (xs ++ [(t0 : Int)])) := HJ.out.snoc own7 grow7; have f0 := HRR.out w7 (.inr ⟨_, HP7.out⟩); clear own7 grow7)
            have etn : ((d : Int) - x').toNat = d - x'.toNat := by omega
            exact ⟨⟨xs ++ [(t0 : Int)], (d : Int) - x', n - 1, rfl, by omega, by omega, by have := HL.out; simp; omega, by rw [etn, List.append_assoc, List.singleton_append, ← HST.out]; exact HPL2.out, HP7.out⟩, by simp [intOf]; omega⟩
          · obtain ⟨i, rfl⟩ : ∃ i, i1 = i + 1 := ⟨i1 - 1, by omega⟩
            have ecast : (((i + 1 : Nat) : Int) - 1) = (i : Int) := by omega
            rw [ecast]
            have him : i < l.length := by omega
            have him' : (i : Int) < (l.length : Int) := by omega
            have him0 : (0 : Int) ≤ (i : Int) := by omega
            have HT : Hid (Take l d (i + 1) t) := HT1.out
            clear ecast HT1 hi0
            obtain ⟨b, off, x, y, rfl, -, hx, c0, c1⟩ := (HR.out.below HJ.out.2.2).lies him
            have HX0 : Hid (l[i]? = some (x, y)) := hx
            have hbd := HBD.out (x, y) (List.mem_of_getElem? hx)
            simp only at hbd
            have x1 := hbd.1
            have x2 := hbd.2.1
            have y1 := hbd.2.2.1
            have y2 := hbd.2.2.2
            obtain ⟨m, rfl⟩ : ∃ m : Nat, x = m := ⟨x.toNat, by omega⟩
            clear hbd hx
            have HJ1 : Hid (∃ j : Nat, d - m = j) := ⟨_, rfl⟩
            obtain ⟨j, hj⟩ := HJ1.out
            have HJ2 : Hid (d - m = j) := hj
            have hjd : j < d := by omega
            have j0 : (0 : Int) ≤ (j : Int) := by omega
            have j1 : (j : Int) < (k : Int) + 1 := by omega
            have e0 := HJ.out.2.1.cell (i := j) (by omega)
            have e1 := HJ.out.2.1.cell (i := d) (by omega)
            have hv := HV.out j
            obtain ⟨z1, hz1⟩ : ∃ z1, Cv.best l j = z1 := ⟨_, rfl⟩
            obtain ⟨q, hq1⟩ : ∃ q, Cv.best l d = q := ⟨_, rfl⟩
            have HZ : Hid (Cv.best l (d - (m : Int).toNat) = z1) := by show Cv.best l (d - m) = _; rw [HJ2.out]; exact hz1
            have HQ : Hid (Cv.best l d = q) := hq1
            rw [hz1] at e0 hv
            rw [hq1] at e1
            have v0 := hv.1
            have v1 : z1 ≤ 400000000 := by omega
            clear hz1 hq1 hj hv
            by_cases hneg : (d : Int) - (m : Int) < 0
            · obtain rfl : j = 0 := by have := HJ2.out; omega
              by_cases hq : z1 + y = q
              · have hqb : (z1 + y == q) = true := by simpa using hq
                have HT' : Hid (Take l d i i) := Take.yes HX0.out (by show y + _ = _; rw [HZ.out, HQ.out]; omega)
                clear hq
                go_wp2
                go_quiet (fail)
                go_wp2
                go_roundw
                case rel => exact ⟨i, i, by omega, rfl, HT'.out, rfl, HJ.out.next (below_drewN (Below.refl _ _) _)⟩
                case measure => simp [intOf] <;> omega
              · have hqb : (z1 + y == q) = false := by simpa using hq
                have HT' : Hid (Take l d i t) := Take.no HT.out HX0.out (by show y + _ ≠ _; rw [HZ.out, HQ.out]; omega)
                clear hq
                go_wp2
                go_quiet (fail)
                go_wp2
                go_roundw
                case rel => exact ⟨i, t, by omega, rfl, HT'.out, rfl, HJ.out.next (below_drewN (Below.refl _ _) _)⟩
                case measure => simp [intOf] <;> omega
            · have hdj : (d : Int) - (m : Int) = (j : Int) := by have := HJ2.out; omega
              have hj' : decide ((j : Int) < 0) = false := decide_eq_false (by omega)
              clear hneg
              by_cases hq : z1 + y = q
              · have hqb : (z1 + y == q) = true := by simpa using hq
                have HT' : Hid (Take l d i i) := Take.yes HX0.out (by show y + _ = _; rw [HZ.out, HQ.out]; omega)
                clear hq
                go_wp2
                go_quiet (fail)
                go_wp2
                go_roundw
                case rel => exact ⟨i, i, by omega, rfl, HT'.out, rfl, HJ.out.next (below_drewN (Below.refl _ _) _)⟩
                case measure => simp [intOf] <;> omega
              · have hqb : (z1 + y == q) = false := by simpa using hq
                have HT' : Hid (Take l d i t) := Take.no HT.out HX0.out (by show y + _ ≠ _; rw [HZ.out, HQ.out]; omega)
                clear hq
                go_wp2
                go_quiet (fail)
                go_wp2
                go_roundw
                case rel => exact ⟨i, t, by omega, rfl, HT'.out, rfl, HJ.out.next (below_drewN (Below.refl _ _) _)⟩
                case measure => simp [intOf] <;> omega
  · have HE : Hid (Cv.code l d ≠ 0) := h
    have HCC : Hid (∃ c, Cv.code l d = c) := ⟨_, rfl⟩
    obtain ⟨c, hcc⟩ := HCC.out
    have HQ : Hid (Cv.code l d = c) := hcc
    rw [hcc] at hck
    have hcn : (c != 0) = true := by rw [← hcc]; simpa using h
    generalize hvl : Cv.val l d = vl at hck
    clear h hcc hvl
    go_enter Try.func12, Try.ntmps12
    go_wp2_with (refine hck.mono ?_; rintro e w1 ⟨rfl, b1⟩)
    go_ret2
    rw [← HQ.out]
    exact planPost.bad HE.out b1
end Go.Proofs.Ythokgbbolijgiaa
