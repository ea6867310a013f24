/- The walk of SpansAgain: it answers true, whatever it is handed. -/
import Derived.Test.YtmhmdjlongimaaaSBegun
import Derived.Test.YtmhmdjlongimaaaLawSpans1
import Derived.Deep.RegionHeld3
namespace Go.Proofs.Ytmhmdjlongimaaa
open Go.RowKit Go.BigFrame
namespace Spn
/-- what has been laid of the spans from j on, one of them cut in two: the same days, none too far, none the wrong way round -/
structure Cut (l : List Sp) (i j : Nat) (c : List Sp) : Prop where
  mem : ∀ n, mem c n ↔ mem (l.drop j) n
  near : ∀ s ∈ c, far s.1 = false ∧ far s.2 = false ∧ s.1 ≤ s.2
  len : c.length ≤ (l.length - j) + (if j ≤ i then 1 else 0)
theorem Cut.start (l : List Sp) (i : Nat) (_hi : i < l.length) : Cut l i l.length [] :=
  ⟨fun n => (by rw [List.drop_length]), fun s hs => (by cases hs), (by simp)⟩
theorem Cut.other {l : List Sp} {i j : Nat} {c : List Sp} {x y : Int} (h : Cut l i (j + 1) c) (hx : l[j]? = some (x, y)) (hj : j ≠ i) (hn : far x = false ∧ far y = false ∧ x ≤ y) : Cut l i j (c ++ [(x, y)]) := by
  have hjl : j < l.length := by
    rcases Nat.lt_or_ge j l.length with d | d
    · exact d
    · rw [List.getElem?_eq_none d] at hx; cases hx
  refine ⟨fun n => ?_, ?_, ?_⟩
  · rw [drop_at l j x y hx, mem_append, h.mem n, mem_cons, mem_cons]
    simp only [mem_nil, or_false]
    exact or_comm
  · intro s hs
    rcases List.mem_append.1 hs with hs | hs
    · exact h.near s hs
    · rcases List.mem_singleton.1 hs with rfl; exact hn
  · have := h.len
    rw [List.length_append]
    simp only [List.length_singleton]
    by_cases d : j + 1 ≤ i
    · rw [if_pos d] at this; rw [if_pos (by omega)]; omega
    · rw [if_neg d] at this; rw [if_neg (by omega)]; omega
theorem Cut.cut {l : List Sp} {i : Nat} {c : List Sp} {x y at_ : Int} (h : Cut l i (i + 1) c) (hx : l[i]? = some (x, y)) (hn : far x = false ∧ far y = false ∧ x ≤ y) (h1 : x ≤ at_) (h2 : at_ ≤ y) : Cut l i i (c ++ [(at_, y), (x, at_)]) := by
  have hjl : i < l.length := by
    rcases Nat.lt_or_ge i l.length with d | d
    · exact d
    · rw [List.getElem?_eq_none d] at hx; cases hx
  have hf : far at_ = false := by
    have := far_bd x hn.1
    have := far_bd y hn.2.1
    simp [far]; omega
  refine ⟨fun n => ?_, ?_, ?_⟩
  · rw [drop_at l i x y hx, mem_append, h.mem n, mem_cons, mem_cons, mem_cons]
    simp only [mem_nil, or_false]
    constructor
    · rintro (a | a | a)
      · exact .inr a
      · exact .inl ⟨by omega, by omega⟩
      · exact .inl ⟨by omega, by omega⟩
    · rintro (a | a)
      · by_cases d : at_ ≤ n
        · exact .inr (.inl ⟨d, a.2⟩)
        · exact .inr (.inr ⟨a.1, by omega⟩)
      · exact .inl a
  · intro s hs
    rcases List.mem_append.1 hs with hs | hs
    · exact h.near s hs
    · simp at hs
      rcases hs with rfl | rfl
      · exact ⟨hf, hn.2.1, h2⟩
      · exact ⟨hn.1, hf, h1⟩
  · have := h.len
    rw [if_neg (by omega)] at this
    rw [List.length_append, if_pos (by omega)]
    simp only [List.length_cons, List.length_nil]
    omega
theorem Cut.done {l : List Sp} {i : Nat} {c : List Sp} (h : Cut l i 0 c) (h0 : chkOf l = 0) (hl : l.length ≠ 64) : chkOf c = 0 ∧ setOf c = setOf l := by
  have h1 := (chkOf_zero l).1 h0
  have hc : chkOf c = 0 := (chkOf_zero c).2 ⟨by
    have := h.len
    rw [if_pos (Nat.zero_le _)] at this
    omega, h.near⟩
  refine ⟨hc, ?_⟩
  have s1 := setOf_chk c hc
  have s2 := setOf_chk l h0
  exact ext_chk _ _ s1.1 s2.1 fun n => by
    rw [s1.2 n, s2.2 n, Bool.eq_iff_iff, memB_iff, memB_iff, h.mem n, List.drop_zero]
end Spn
theorem mkSpan_is (x y : Int) (w : World) :
    Calls Try.prog 23 #[.int .i64 x, .int .i64 y] w fun e w' => e = .returned (.agg #[.int .i64 x, .int .i64 y]) ∧ w' = w.alloc (.cells #[.int .i64 x, .int .i64 y] 39) := by
  go_enter Try.func23, Try.ntmps23
  go_wp2
  exact bodyPost_ret (v := .agg #[.int .i64 x, .int .i64 y]) (by simp [results, Try.results23, go_sem]) rfl ⟨rfl, rfl⟩
theorem cell4_at (w : World) (n : Nat) (hn : w.heap.size = n) (a b c d : Value) (t : TypeId) : ∀ j u, [a, b, c, d][j]? = some u → (w.alloc (.cells #[a, b, c, d] t)).drew.cell? ((⟨n, 0, none⟩ : Addr).add j) = some u := by
  subst hn
  intro j u hj
  show (w.alloc (.cells #[a, b, c, d] t)).cell? _ = _
  match j, hj with
  | 0, hj => simp at hj; subst hj; simp [Addr.add]
  | 1, hj => simp at hj; subst hj; simp [Addr.add]
  | 2, hj => simp at hj; subst hj; simp [Addr.add]
  | 3, hj => simp at hj; subst hj; simp [Addr.add]
  | j + 4, hj => simp at hj
theorem OwnS.pair {w W w1 : World} {B : Nat} {v v' : Value} {xs : List Spn.Sp} {x y p q : Int} {o1 o2 o3 : Obj} (hB : B ≤ W.heap.size) (hown : OwnS W B v xs) (hnx : Below B w W)
    (hown' : w1.ownsRow B 39 2 v' (xs.length + 2) (flat xs ++ [.int .i64 x, .int .i64 y, .int .i64 p, .int .i64 q])) (hgrow : (((W.alloc o1).alloc o2).alloc o3).drew.grownBy w1 v.ownBlock) :
    OwnS w1 B v' (xs ++ [(x, y), (p, q)]) ∧ Below B w w1 := by
  refine ⟨by unfold OwnS; rw [flat_append, List.length_append]; exact hown', ?_⟩
  exact ((((hnx.alloc hB o1).alloc (by simp; omega) o2).alloc (by simp; omega) o3).drew).grown hgrow (by simp; omega) (fun j hj => (World.ownsRow.lt hown j hj).1)
theorem cell_three {W : World} {o1 o2 o3 : Obj} {b off : Nat} {v : Value} (hb : b < W.heap.size) (h : W.cell? ⟨b, off, none⟩ = some v) : (((W.alloc o1).alloc o2).alloc o3).drew.cell? ⟨b, off, none⟩ = some v := by
  show (((W.alloc o1).alloc o2).alloc o3).cell? ⟨b, off, none⟩ = some v
  rw [World.cell?_alloc_past _ _ _ (by simp; omega), World.cell?_alloc_past _ _ _ (by simp; omega), World.cell?_alloc_past _ _ _ hb]; exact h
set_option maxRecDepth 100000 in
set_option maxHeartbeats 8000000 in
theorem spansAgain_any (la : List Spn.Sp) (a : Option Addr) (ca : Nat) (i at_ : Int) (w : World) (ha : la.length ≤ maxLen) (na : a = none → ca = 0 ∧ la = []) (ra : Row2 w a la) :
    Calls Try.prog 6 #[.slice a la.length ca, .int .i64 i, .int .i64 at_] w fun e w' => e = .returned (.bool true) ∧ Below w.heap.size w w' := by
  by_cases hz : Spn.chkOf la = 0
  · have h64 := ((Spn.chkOf_zero la).1 hz).1
    have HNE : Hid (∀ s ∈ la, Spn.far s.1 = false ∧ Spn.far s.2 = false ∧ s.1 ≤ s.2) := ((Spn.chkOf_zero la).1 hz).2
    have hsc := (Spn.setOf_chk la hz).1
    have hself := Spn.setOf_self (Spn.setOf la) hsc
    have HCD : Hid (∀ (k : Nat) (c : List Spn.Sp), Spn.Cut la k 0 c → la.length ≠ 64 → Spn.chkOf c = 0 ∧ Spn.setOf c = Spn.setOf la) := fun k c hc hl => hc.done hz hl
    have hml : (Spn.setOf la).length ≤ maxLen := by have := Spn.setOf_len la; unfold maxLen; omega
    have h64s := Spn.setOf_len la
    have p1 := fun W hr => pOf_at la (Spn.setOf la) 0 a ca W ha rfl hz na hr
    clear hz
    generalize Spn.setOf la = T at *
    go_enter Try.func6, Try.ntmps6
    go_wp2_with fail
    refine (p1 _ ra).mono ?_; rintro e w1 ⟨v1, rfl, o1, b1⟩
    have ra1 := ra.below b1
    obtain ⟨a1, c1, hv1, nil1, row1⟩ := OwnS.row o1
    subst hv1
    clear o1 ra p1
    go_wp2_with fail
    refine (sbegun_any _).mono ?_; rintro e w2 ⟨rfl, b2⟩
    have B2 := below_on b1 (Nat.le_refl _) b2
    have ra2 := ra1.below b2
    have row2 := row1.below b2
    clear b1 b2 ra1 row1
    go_wp2_with fail
    refine (pOf_at T T 0 a1 c1 _ hml hself.2 hself.1 nil1 row2).mono ?_; rintro e w3 ⟨v3, rfl, o3, b3⟩
    have B3 := below_on B2 (Nat.le_refl _) b3
    have ra3 := ra2.below b3
    have row3 := row2.below b3
    obtain ⟨a3, c3, hv3, nil3, rowb3⟩ := OwnS.row o3
    subst hv3
    clear o3 ra2 row2 b3 B2
    go_wp2_with fail
    refine (same_below T T true a1 a3 c1 c3 _ hml hml (by simp) row3 rowb3).mono ?_; rintro e w4 ⟨rfl, b4⟩
    have B4 := below_on B3 (Nat.le_refl _) b4
    have ra4 := ra3.below b4
    have row4 := row3.below b4
    clear ra3 row3 rowb3 b4 B3
    go_wp2_with fail
    refine (pCheck_at T 0 a1 c1 _ hml hsc row4).mono ?_; rintro e w5 ⟨rfl, b5⟩
    have B5 := below_on B4 (Nat.le_refl _) b5
    have ra5 := ra4.below b5
    have row5 := row4.below b5
    clear ra4 row4 b5 B4 hself hsc nil1 nil3 na
    by_cases hi0 : i < 0
    · go_wp2
      go_ret
      exact ⟨rfl, B5⟩
    · by_cases hi1 : (la.length : Int) ≤ i
      · go_wp2
        go_ret
        exact ⟨rfl, B5⟩
      · obtain ⟨k0, rfl⟩ : ∃ k0 : Nat, i = k0 := ⟨i.toNat, by omega⟩
        have hk0 : k0 < la.length := by omega
        obtain ⟨b, off, x, y, rfl, hb, hx, d1, d2⟩ := ra5.lies hk0
        have HX : Hid (la[k0]? = some (x, y)) := hx
        clear hx
        have hi1' : (k0 : Int) < (la.length : Int) := by omega
        by_cases hA : at_ < x
        · go_wp2
          go_ret
          exact ⟨rfl, B5⟩
        · have hA' : decide (at_ < x) = false := by simpa using hA
          by_cases hB : y < at_
          · go_wp2
            go_ret
            exact ⟨rfl, B5⟩
          · have hB' : decide (y < at_) = false := by simpa using hB
            by_cases hC : la.length = 64
            · have hC' : ((la.length : Int) == 64) = true := by rw [hC]; rfl
              go_wp2
              go_ret
              exact ⟨rfl, B5⟩
            · have hC' : ((la.length : Int) == 64) = false := by simp; omega
              have hwl : IntKind.i64.wrap ((la.length : Int) - 1) = (la.length : Int) - 1 := by rw [IntKind.wrap_i64]; omega
              obtain ⟨i0, hi, hz0, hz1, hz2⟩ := info_parts infoSpan
              have HI : Hid (Try.prog.info? 39 = some i0 ∧ i0.zero = some (.agg #[.int .i64 0, .int .i64 0]) ∧ i0.size = 2 ∧ i0.bytes = 16) := ⟨hi, hz0, hz1, hz2⟩
              clear hi hz0 hz1 hz2
              have HAB : Hid (x ≤ at_ ∧ at_ ≤ y) := ⟨by omega, by omega⟩
              have n0 : decide ((k0 : Int) < 0) = false := by simp
              have n1 : decide (la.length ≤ k0) = false := by simpa using hk0
              have n2 : decide ((la.length : Int) ≤ (k0 : Int)) = false := by simpa using hk0
              clear hi0 hi1
              go_wp2
              clear hA hA' hB hB' hC' d1 d2 n0 n1 n2
              go_loopw [11, 12] (fun v kk wr => ∃ (j : Nat) (c : List Spn.Sp), j ≤ la.length ∧ kk = .int .i64 ((j : Int) - 1) ∧ OwnS wr w5.heap.size v c ∧ Spn.Cut la k0 j c ∧ Below w5.heap.size w5 wr) (fun _ kk _ => (intOf kk + 1).toNat)
              case atStart => exact ⟨la.length, [], Nat.le_refl _, rfl, OwnS.nil _ _, Spn.Cut.start la k0 hk0, Below.refl _ _⟩
              case round =>
                obtain ⟨j, c, hj, rfl, hown, hcut, hnx⟩ := hrel
                have HC : Hid (Spn.Cut la k0 j c) := hcut
                have hlen : c.length ≤ 65 := by
                  have := hcut.len
                  split at this <;> omega
                clear hcut
                have hsz : w5.heap.size ≤ wr.heap.size := hnx.size
                cases j with
                | zero =>
                  have hd := HCD.out k0 c HC.out hC
                  obtain ⟨ac, cc, hvc, nilc, rowc⟩ := hown.row
                  subst hvc
                  have rowa := row5.below hnx
                  go_wp2_with fail
                  refine (pOf_at c T 0 ac cc _ (by unfold maxLen; omega) hd.2 hd.1 nilc rowc).mono ?_; rintro e w6 ⟨v6, rfl, o6, b6⟩
                  have B6 := below_on hnx (Nat.le_refl _) b6
                  have row6 := rowa.below b6
                  obtain ⟨a6, c6, hv6, -, rowb6⟩ := OwnS.row o6
                  subst hv6
                  clear o6 b6 rowa rowc nilc hd
                  go_wp2_with fail
                  refine (same_below T T true a1 a6 c1 c6 _ hml hml (by simp) row6 rowb6).mono ?_; rintro e w7 ⟨rfl, b7⟩
                  have B7 := below_on (below_on B5 (Nat.le_refl _) B6) (Nat.le_refl _) b7
                  go_wp2
                  go_ret
                  exact ⟨rfl, B7⟩
                | succ j =>
                  have e1 : ((j + 1 : Nat) : Int) - 1 = (j : Int) := by omega
                  rw [e1]
                  have hjl : (j : Int) < (la.length : Int) := by omega
                  have hj0 : (0 : Int) ≤ (j : Int) := by omega
                  have hwj : IntKind.i64.wrap ((j : Int) - 1) = (j : Int) - 1 := by rw [IntKind.wrap_i64]; omega
                  by_cases hjk : j = k0
                  · subst hjk
                    obtain ⟨b', off', x', y', e', hb', hx', q1, q2⟩ := (ra5.below hnx).lies (k := j) (by omega)
                    obtain ⟨rfl, rfl⟩ : b = b' ∧ off = off' := by simpa using e'
                    obtain ⟨rfl, rfl⟩ : x = x' ∧ y = y' := by
                      have := Option.some.inj (HX.out.symm.trans hx')
                      exact Prod.mk.inj this
                    clear e' hx'
                    have HN : Hid (Spn.Cut la j j (c ++ [(at_, y), (x, at_)])) := HC.out.cut HX.out (HNE.out (x, y) (List.mem_of_getElem? HX.out)) HAB.out.1 HAB.out.2
                    have ownW' : wr.ownsRow w5.heap.size 39 2 _ c.length (flat c) := hown
                    have hneb : some b ≠ (Value.ownBlock _) := fun e => by
                      have := (World.ownsRow.lt ownW' b e.symm).1
                      omega
                    have hne0 : b ≠ wr.heap.size := by omega
                    have hne1 : b ≠ wr.heap.size + 1 := by omega
                    have hne2 : b ≠ wr.heap.size + 1 + 1 := by omega
                    have hlt0 : b < wr.heap.size + 1 := by omega
                    have hlt1 : b < wr.heap.size + 1 + 1 := by omega
                    have hlt2 : b < wr.heap.size + 1 + 1 + 1 := by omega
                    go_wp2
                    go_region_held3 (fun w' => w'.cell? ⟨b, off + j * 2, none⟩ = some (.int .i64 x) ∧ w'.cell? ⟨b, off + j * 2 + 1, none⟩ = some (.int .i64 y)) (first | exact ⟨cell_three hb' q1, cell_three hb' q2⟩ | exact ⟨World.grownBy.cell hgrow (cell_three hb' q1) hneb, World.grownBy.cell hgrow (cell_three hb' q2) hneb⟩ | go_keep)
                      (first
                        | (go_at_call 23; refine (mkSpan_is _ _ _).mono ?_; rintro e w' ⟨rfl, rfl⟩)
                        | (refine step_append_lies _ (by rfl) _ _ _ (by rfl) w5.heap.size 39 i0 _ 2 16 Try.underlying22 HI.out.1 HI.out.2.1 HI.out.2.2.1 HI.out.2.2.2 rfl (by omega) _ c.length (flat c) (by rfl) (World.ownsRow.drew (World.ownsRow.alloc (World.ownsRow.alloc (World.ownsRow.alloc ownW' _) _) _)) ⟨wr.heap.size + 1 + 1, 0, none⟩ 2 2 [.int .i64 at_, .int .i64 y, .int .i64 x, .int .i64 at_] (by rfl) (by rfl) (cell4_at _ _ (by simp) _ _ _ _ _) (by simp [Value.oneCell']) (by omega) (by unfold maxLen; omega) (by omega) (by simp; omega) (wr.heap.size + 1 + 1 + 1) (by simp) ?_; intro gg cap w4 hown4 hgrow hatt hltt))
                    all_goals
                      have R := OwnS.pair hsz hown hnx hown4 hgrow
                      clear hown4 hgrow hown ownW'
                      go_wp2
                      go_roundw
                      case rel => exact ⟨j, _, by omega, by go_num, R.1, HN.out, R.2⟩
                      case measure => simp [intOf]
                  · have hjk' : ((j : Int) == (k0 : Int)) = false := by simp; omega
                    obtain ⟨b', off', x', y', e', hb', hx', q1, q2⟩ := (ra5.below hnx).lies (k := j) (by omega)
                    obtain ⟨rfl, rfl⟩ : b = b' ∧ off = off' := by simpa using e'
                    clear e'
                    have HN : Hid (Spn.Cut la k0 j (c ++ [(x', y')])) := HC.out.other hx' hjk (HNE.out (x', y') (List.mem_of_getElem? hx'))
                    clear hx'
                    go_wp2_with (at_builtin; refine wpList_append_own _ rfl (.tmp 103) (.tmp 108) 22 rfl w5.heap.size 39 i0 _ 2 16 Try.underlying22 HI.out.1 HI.out.2.1 HI.out.2.2.1 HI.out.2.2.2 rfl (by decide) _ _ _ rfl (World.ownsRow.alloc hown _) ⟨wr.heap.size, 0, none⟩ 1 1 [.int .i64 x', .int .i64 y'] rfl rfl (cell2_new _ _ _ _) (one2 _ _) (by unfold maxLen; omega) (by omega) (by simp; omega) ?_; intro v1 w3 own1 grow1 _)
                    have R := OwnS.put hsz hown hnx own1 grow1
                    clear own1 grow1 hown
                    go_wp2
                    go_roundw
                    case rel => exact ⟨j, _, by omega, by go_num, R.1, HN.out, R.2⟩
                    case measure => simp [intOf]
  · have HS : Hid (Spn.setOf la = []) := by unfold Hid Spn.setOf; rw [if_neg hz]
    have hne : (Spn.chkOf la != 0) = true := by simpa using hz
    go_enter Try.func6, Try.ntmps6
    go_wp2_with fail
    refine (pOf_at la [] (Spn.chkOf la) a ca _ ha HS.out rfl na ra).mono ?_; rintro e w1 ⟨v1, rfl, o1, b1⟩
    obtain ⟨a1, c1, hv1, -, -⟩ := OwnS.row o1
    subst hv1
    clear o1
    go_wp2_with fail
    refine (sbegun_any _).mono ?_; rintro e w2 ⟨rfl, b2⟩
    have B2 := below_on b1 (Nat.le_refl _) b2
    clear hz
    go_wp2
    go_ret
    exact ⟨rfl, B2⟩
end Go.Proofs.Ytmhmdjlongimaaa
