/- The walks of rings of keys: a copy, a key more. -/
import Derived.Test.YtandlmnbnjkklaaGreatDoorRRowToRPl
import Derived.Deep.RegionHeld3
import Derived.Deep.AppendLies
import Derived.Lib.SliceRun
namespace Go.Proofs.YtandlmnbnjkklaaGreatDoor
open Go.RowKit

theorem info_ep : ∃ i0, Tryz.prog.info? 52 = some i0 ∧ i0.zero = some (.agg #[.int .i64 0, .int .u64 0, .int .u64 0]) ∧ i0.size = 3 ∧ i0.bytes = 24 := info_parts infoEp
set_option maxRecDepth 100000 in
set_option maxHeartbeats 1000000 in
theorem clone_any (l : List Rg.Ep) (a : Option Addr) (cap : Nat) (w : World) (hl : l.length ≤ 1000000) (hn : a = none → l = []) (hr : Row3 w a l) :
    Calls Tryz.prog 28 #[.slice a l.length cap] w fun e w' => ∃ v, e = .returned v ∧ OwnE w' w.heap.size v l ∧ Below w.heap.size w w' := by
  have q22 : ∀ (w : World) (a : Option Addr) (n c n' c' : Nat), (binOp .eql 27 (.slice a n c) (.slice none n' c')).run Tryz.prog w = .ok (.bool a.isNone) w := fun w a n c n' c' => Lib.run_eql_slice_nil w _ _ a n c n' c' Tryz.underlying27
  obtain ⟨i0, hi, hz0, hz1, hz2⟩ := info_ep
  cases a with
  | none =>
    have := hn rfl
    subst this
    clear hn hr hi hz0 hz1 hz2
    go_enter Tryz.func28, Tryz.ntmps28
    go_wp2
    go_ret
    exact ⟨_, rfl, OwnE.nil _ _, Below.refl _ _⟩
  | some ad =>
    have HN := (hr.below (below_box w (.cells #[] 52))).news ad rfl
    have HR : Hid (_) := HN
    clear hr hn HN
    go_enter Tryz.func28, Tryz.ntmps28
    go_wp2_with (at_builtin; refine wpList_append_own _ rfl _ _ 27 rfl w.heap.size 52 i0 _ 3 24 Tryz.underlying27 hi hz0 hz1 hz2 rfl (by omega) _ _ _ rfl (World.ownsRow_made w #[] 0 (Nat.le_refl _) (Nat.zero_le _) (by simp)) ad l.length cap (fl3 l) rfl ?qc1 ?qc2 ?qc3 ?qc4 ?qc5 ?qc6 ?_)
    case qc1 => exact fl3_len l
    case qc2 => exact HR.out
    case qc3 => exact fl3_one l
    case qc4 => unfold maxLen; omega
    case qc5 => omega
    case qc6 => simp
    intro v' w1 hown hgrow hnil
    go_wp2
    go_ret
    refine ⟨v', rfl, ?_, ?_⟩
    · unfold OwnE; simpa using hown
    · exact ((Below.refl _ w).alloc (Nat.le_refl _) _).grown hgrow (by simp) (by intro k hk; simp [Value.ownBlock] at hk; omega)
/-- a copy, while a key lies in a block of the call's own -/
theorem clone_at (w1 W : World) (l : List Rg.Ep) (a : Option Addr) (cap b : Nat) (A B : Tg.W) (n : Nat) (hn : l.length = n) (h8 : n ≤ 8) (hN : a = none → l = []) (hr : Row3 w1 a l)
    (hb : b < w1.heap.size) (k0 : w1.cell? ⟨b, 0, none⟩ = some (.int .u64 (wd A))) (k1 : w1.cell? ⟨b, 1, none⟩ = some (.int .u64 (wd B))) (hW : Below w1.heap.size w1 W) :
    Calls Tryz.prog 28 #[.slice a n cap] W fun e w' => ∃ v, e = .returned v ∧ Hid (w'.ownsRow w1.heap.size 52 3 v n (fl3 l)) ∧ Hid (Below W.heap.size W w') ∧ Hid (Below w1.heap.size w1 w') ∧ Hid (some b ≠ v.ownBlock) ∧
      w'.cell? ⟨b, 0, none⟩ = some (.int .u64 (wd A)) ∧ w'.cell? ⟨b, 1, none⟩ = some (.int .u64 (wd B)) := by
  subst hn
  refine (clone_any l a cap W (by omega) hN (hr.below hW)).mono ?_
  rintro e w' ⟨v, rfl, ho, hb'⟩
  have ho' : OwnE w' w1.heap.size v l := ho.weak hW.size
  have hb2 := below_on hW (Nat.le_refl _) hb'
  refine ⟨v, rfl, ho', hb', hb2, fun e => ?_, (hb2.cell (p := ⟨b, 0, none⟩) hb).trans k0, (hb2.cell (p := ⟨b, 1, none⟩) hb).trans k1⟩
  have := (World.ownsRow.lt ho' b e.symm).1
  omega
/-- what a call has made lies as a slice, and what it is -/
def addPost (w : World) (l : List Rg.Ep) (A B : Tg.W) (e : Ending) (w' : World) : Prop := ∃ v, e = .returned (.tuple #[v, .int .i64 (Rg.add l A B).2]) ∧ OwnE w' w.heap.size v (Rg.add l A B).1 ∧ Below w.heap.size w w'
theorem addPost.bad {w w' : World} {l : List Rg.Ep} {A B : Tg.W} {c : Int} (h : Rg.add l A B = ([], c)) (hb : Below w.heap.size w w') : addPost w l A B (.returned (.tuple #[.slice none 0 0, .int .i64 c])) w' := ⟨_, by rw [h], by rw [h]; exact OwnE.nil _ _, hb⟩
theorem addPost.good {w w' : World} {l l' : List Rg.Ep} {A B : Tg.W} {v : Value} (h : Rg.add l A B = (l', 0)) (ho : OwnE w' w.heap.size v l') (hb : Below w.heap.size w w') : addPost w l A B (.returned (.tuple #[v, .int .i64 0])) w' := ⟨v, by rw [h], by rw [h]; exact ho, hb⟩
theorem fl3_snoc (l : List Rg.Ep) (n : Int) (A B : Tg.W) : fl3 l ++ [.int .i64 n, .int .u64 (wd A), .int .u64 (wd B)] = fl3 (l ++ [(n, A, B)]) := by rw [fl3_append]; rfl
theorem add_end {w w1 wr w4 : World} {l : List Rg.Ep} {n : Nat} {N : Int} {A B : Tg.W} {v v' : Value} (hn : l.length = n) (h1 : Below w.heap.size w w1) (hb : Below w1.heap.size w1 wr)
    (hO : wr.ownsRow w1.heap.size 52 3 v n (fl3 l)) (hown : w4.ownsRow w1.heap.size 52 3 v' (n + 1) (fl3 l ++ [.int .i64 N, .int .u64 (wd A), .int .u64 (wd B)])) (hgrow : wr.grownBy w4 v.ownBlock) :
    OwnE w4 w.heap.size v' (l ++ [(N, A, B)]) ∧ Below w.heap.size w w4 := by
  subst hn
  have := OwnE.join (ys := [(N, A, B)]) hb.size hO hb hown hgrow
  exact ⟨this.1.weak h1.size, below_on h1 (Nat.le_refl _) this.2⟩
theorem Rg.last_at {l : List Rg.Ep} {m : Nat} {y : Int} {Y Z : Tg.W} (hl : l.length = m + 1) (h : l[m]? = some (y, Y, Z)) : Rg.last l = y := by
  unfold Rg.last
  rw [List.getLast?_eq_getElem?, hl, show m + 1 - 1 = m by omega, h]
  rfl
set_option maxRecDepth 100000 in
set_option maxHeartbeats 2000000 in
theorem add_any (l : List Rg.Ep) (a : Option Addr) (cap : Nat) (A B : Tg.W) (w : World) (hl : l.length ≤ maxLen) (hn : a = none → l = []) (hr : Row3 w a l) :
    Calls Tryz.prog 8 #[.slice a l.length cap, .agg #[.int .u64 (wd A), .int .u64 (wd B)]] w (addPost w l A B) := by
  have HR : Hid (Row3 w a l) := hr
  have HN : Hid (a = none → l = []) := hn
  have HL : Hid (l.length ≤ maxLen) := hl
  have HB0 : Hid (Below w.heap.size w (w.alloc (.cells #[.int .u64 (wd A), .int .u64 (wd B)] 30))) := below_box w _
  have hck := check_any l a cap (w.alloc (.cells #[.int .u64 (wd A), .int .u64 (wd B)] 30)) hl (hr.below (below_box w _))
  clear hr hn hl
  by_cases hc : Rg.chk l = 0
  · have HCZ : Hid (Rg.chk l = 0) := hc
    have h8 : l.length ≤ 8 := ((Rg.chk_iff l).1 hc).1
    rw [hc] at hck
    clear hc
    obtain ⟨n, hLn⟩ : ∃ n, l.length = n := ⟨_, rfl⟩
    have HLn : Hid (l.length = n) := hLn
    obtain ⟨i0, hi, hz0, hz1', hz2⟩ := info_ep
    have HI : Hid (Tryz.prog.info? 52 = some i0 ∧ i0.zero = some (.agg #[.int .i64 0, .int .u64 0, .int .u64 0]) ∧ i0.size = 3 ∧ i0.bytes = 24) := ⟨hi, hz0, hz1', hz2⟩
    rw [hLn] at hck h8 ⊢
    clear hLn hi hz0 hz1' hz2
    by_cases hx : n = 0
    · have hlt : ¬ (0 : Int) < (n : Int) := by omega
      have h88 : ((n : Int) == 8) = false := by simp; omega
      have HE : Hid (Rg.add l A B = (l ++ [(1, A, B)], 0)) := by
        have : l = [] := List.eq_nil_of_length_eq_zero (by rw [HLn.out]; exact hx)
        subst this
        rfl
      clear hx
      go_enter Tryz.func8, Tryz.ntmps8
      go_wp2_with fail
      refine hck.mono ?_; rintro e w1 ⟨rfl, hb⟩
      have R1 : Hid (Row3 w1 a l) := HR.out.below (below_on HB0.out (Nat.le_refl _) hb)
      have B1 : Hid (Below w.heap.size w w1) := below_on HB0.out (Nat.le_refl _) hb
      obtain ⟨hcc, -⟩ := bcell hb
      have k0 := hcc w.heap.size 0 (by simp)
      have k1 := hcc w.heap.size 1 (by simp)
      have hz1 : w.heap.size < w1.heap.size := by have := hb.size; simp at this; omega
      clear hb hcc hck
      simp at k0 k1
      go_wp2
      go_region_held3 (fun w' => w'.cell? ⟨w.heap.size, 0, none⟩ = some (.int .u64 (wd A)) ∧ w'.cell? ⟨w.heap.size, 1, none⟩ = some (.int .u64 (wd B)))
        (first | go_keep | exact ⟨World.grownBy.cell hgrow (by first | assumption | exact Lib.cell?_alloc_some _ (by assumption)) HNE.out, World.grownBy.cell hgrow (by first | assumption | exact Lib.cell?_alloc_some _ (by assumption)) HNE.out⟩)
        (first
          | (go_at_call 28; refine (clone_at w1 _ l a cap w.heap.size A B n HLn.out h8 HN.out R1.out hz1 k0 k1 (by first | exact Below.refl _ _ | exact below_box w1 _ | exact (Below.refl _ w1).drew | exact (below_box w1 _).drew)).mono ?_; rintro e w2 ⟨v2, rfl, hO2, hbW, hb2, HNE, j0, j1⟩)
          | (refine step_append_lies _ (by rfl) _ _ _ (by rfl) w1.heap.size 52 i0 _ 3 24 Tryz.underlying27 HI.out.1 HI.out.2.1 HI.out.2.2.1 HI.out.2.2.2 rfl (by omega) v2 n (fl3 l) (by rfl) (World.ownsRow.drew (World.ownsRow.alloc hO2.out _)) ⟨w2.heap.size, 0, none⟩ 1 1 [.int .i64 1, .int .u64 (wd A), .int .u64 (wd B)] (by rfl) (by rfl) (World.news_of_block (heap_alloc_new w2 _)) (by simp [Value.oneCell']) (by omega) (by unfold maxLen; omega) (by omega) (by have := hb2.out.size; simp; omega) _ rfl ?_; intro g cp w4 hown hgrow hat hlt)
          | (refine step_append_lies _ (by rfl) _ _ _ (by rfl) w1.heap.size 52 i0 _ 3 24 Tryz.underlying27 HI.out.1 HI.out.2.1 HI.out.2.2.1 HI.out.2.2.2 rfl (by omega) v2 n (fl3 l) (by rfl) (by first | exact hO2.out | exact World.ownsRow.drew hO2.out) ⟨w1.heap.size, 0, none⟩ 1 1 [.int .i64 1, .int .u64 (wd A), .int .u64 (wd B)] (by rfl) (by rfl) (World.news_of_block ((hbW.out.block w1.heap.size (by simp)).trans (heap_alloc_new w1 _))) (by simp [Value.oneCell']) (by omega) (by unfold maxLen; omega) (by omega) (by have := hb2.out.size; first | exact this | (simp; omega)) _ rfl ?_; intro g cp w4 hown hgrow hat hlt))
      all_goals
        have Q := add_end HLn.out B1.out (by first | exact hb2.out | exact hb2.out.alloc hb2.out.size _) (by first | exact hO2.out | exact World.ownsRow.alloc hO2.out _) hown hgrow
        clear hown hgrow
        go_wp2
        go_ret2
        exact addPost.good HE.out Q.1 Q.2
    · have hlt : (0 : Int) < (n : Int) := by omega
      obtain ⟨m, hm⟩ : ∃ m, n = m + 1 := ⟨n - 1, by omega⟩
      subst hm
      have hck' := hck
      obtain ⟨x, hX⟩ : ∃ x, Rg.last l = x := ⟨_, rfl⟩
      have HX : Hid (Rg.last l = x) := hX
      have hx0 : 0 ≤ x ∧ x ≤ 255 := by
        have hu := ((Rg.chk_iff l).1 HCZ.out).2
        have hne : l ≠ [] := fun e => by have := HLn.out; rw [e] at this; cases this
        obtain ⟨e, he⟩ : ∃ e, l.getLast? = some e := ⟨_, List.getLast?_eq_some_getLast hne⟩
        have := Rg.up_mem l 0 hu e (Rg.last_mem l e he)
        rw [← hX, Rg.last_of l e he]
        omega
      clear hX hck hx
      by_cases h9 : m = 7 ∨ x = 255
      · have HE : Hid (Rg.add l A B = ([], 2)) := by
          show _ = _
          unfold Rg.add
          rw [if_neg (by rw [HCZ.out]; omega), if_pos (by rw [HLn.out, HX.out]; omega)]
        by_cases h7 : m = 7
        · subst h7
          go_enter Tryz.func8, Tryz.ntmps8
          go_wp2_with fail
          refine hck'.mono ?_; rintro e w1 ⟨rfl, hb⟩
          have R1 : Row3 w1 a l := HR.out.below (below_on HB0.out (Nat.le_refl _) hb)
          have B1 : Hid (Below w.heap.size w w1) := below_on HB0.out (Nat.le_refl _) hb
          obtain ⟨b, off, y, Y, Z, rfl, hbs, hy, c1, c2, c3⟩ := R1.at (k := 7) (by rw [HLn.out]; omega)
          clear hb hck' R1 hy h9
          go_wp2
          go_ret2
          exact addPost.bad HE.out B1.out
        · obtain rfl : x = 255 := by omega
          have h88 : ((m : Int) + 1 == 8) = false := by simp; omega
          go_enter Tryz.func8, Tryz.ntmps8
          go_wp2_with fail
          refine hck'.mono ?_; rintro e w1 ⟨rfl, hb⟩
          have R1 : Row3 w1 a l := HR.out.below (below_on HB0.out (Nat.le_refl _) hb)
          have B1 : Hid (Below w.heap.size w w1) := below_on HB0.out (Nat.le_refl _) hb
          obtain ⟨b, off, y, Y, Z, rfl, hbs, hy, c1, c2, c3⟩ := R1.at (k := m) (by rw [HLn.out]; omega)
          obtain rfl : y = 255 := by rw [← HX.out]; exact (Rg.last_at HLn.out hy).symm
          clear hb hck' R1 hy h9
          go_wp2
          go_ret2
          exact addPost.bad HE.out B1.out
      · have h88 : ((m : Int) + 1 == 8) = false := by simp; omega
        have hle : x ≤ 254 := by omega
        have hle2 : ¬ 255 < x + 1 := by omega
        have HE : Hid (Rg.add l A B = (l ++ [(x + 1, A, B)], 0)) := by
          show _ = _
          unfold Rg.add
          rw [if_neg (by rw [HCZ.out]; omega), if_neg (by rw [HLn.out, HX.out]; omega), HX.out]
        clear h9
        go_enter Tryz.func8, Tryz.ntmps8
        go_wp2_with fail
        refine hck'.mono ?_; rintro e w1 ⟨rfl, hb⟩
        have hr1 : Row3 w1 a l := HR.out.below (below_on HB0.out (Nat.le_refl _) hb)
        have R1 : Hid (Row3 w1 a l) := hr1
        have B1 : Hid (Below w.heap.size w w1) := below_on HB0.out (Nat.le_refl _) hb
        obtain ⟨b, off, y, Y, Z, rfl, hbs, hy, c1, c2, c3⟩ := hr1.at (k := m) (by rw [HLn.out]; omega)
        obtain rfl : y = x := by rw [← HX.out]; exact (Rg.last_at HLn.out hy).symm
        obtain ⟨hcc, -⟩ := bcell hb
        have k0 := hcc w.heap.size 0 (by simp)
        have k1 := hcc w.heap.size 1 (by simp)
        have hz1 : w.heap.size < w1.heap.size := by have := hb.size; simp at this; omega
        clear hb hcc hck' hr1 hy c2 c3
        simp at k0 k1
        go_wp2
        go_region_held3 (fun w' => w'.cell? ⟨w.heap.size, 0, none⟩ = some (.int .u64 (wd A)) ∧ w'.cell? ⟨w.heap.size, 1, none⟩ = some (.int .u64 (wd B)))
          (first | go_keep | exact ⟨World.grownBy.cell hgrow (by first | assumption | exact Lib.cell?_alloc_some _ (by assumption)) HNE.out, World.grownBy.cell hgrow (by first | assumption | exact Lib.cell?_alloc_some _ (by assumption)) HNE.out⟩)
          (first
            | (go_at_call 28; refine (clone_at w1 _ l (some ⟨b, off, none⟩) cap w.heap.size A B (m + 1) HLn.out h8 HN.out R1.out hz1 k0 k1 (by first | exact Below.refl _ _ | exact below_box w1 _ | exact (Below.refl _ w1).drew | exact (below_box w1 _).drew)).mono ?_; rintro e w2 ⟨v2, rfl, hO2, hbW, hb2, HNE, j0, j1⟩)
            | (refine step_append_lies _ (by rfl) _ _ _ (by rfl) w1.heap.size 52 i0 _ 3 24 Tryz.underlying27 HI.out.1 HI.out.2.1 HI.out.2.2.1 HI.out.2.2.2 rfl (by omega) v2 (m + 1) (fl3 l) (by rfl) (World.ownsRow.drew (World.ownsRow.alloc hO2.out _)) ⟨w2.heap.size, 0, none⟩ 1 1 [.int .i64 (y + 1), .int .u64 (wd A), .int .u64 (wd B)] (by rfl) (by rfl) (World.news_of_block (heap_alloc_new w2 _)) (by simp [Value.oneCell']) (by omega) (by unfold maxLen; omega) (by omega) (by have := hb2.out.size; simp; omega) _ rfl ?_; intro g cp w4 hown hgrow hat hlt)
            | (refine step_append_lies _ (by rfl) _ _ _ (by rfl) w1.heap.size 52 i0 _ 3 24 Tryz.underlying27 HI.out.1 HI.out.2.1 HI.out.2.2.1 HI.out.2.2.2 rfl (by omega) v2 (m + 1) (fl3 l) (by rfl) (by first | exact hO2.out | exact World.ownsRow.drew hO2.out) ⟨w1.heap.size, 0, none⟩ 1 1 [.int .i64 (y + 1), .int .u64 (wd A), .int .u64 (wd B)] (by rfl) (by rfl) (World.news_of_block ((hbW.out.block w1.heap.size (by simp)).trans (heap_alloc_new w1 _))) (by simp [Value.oneCell']) (by omega) (by unfold maxLen; omega) (by omega) (by have := hb2.out.size; first | exact this | (simp; omega)) _ rfl ?_; intro g cp w4 hown hgrow hat hlt))
        all_goals
          have Q := add_end HLn.out B1.out (by first | exact hb2.out | exact hb2.out.alloc hb2.out.size _) (by first | exact hO2.out | exact World.ownsRow.alloc hO2.out _) hown hgrow
          clear hown hgrow
          go_wp2
          go_ret2
          exact addPost.good HE.out Q.1 Q.2
  · have HE : Hid (Rg.add l A B = ([], Rg.chk l)) := by show _ = _; unfold Rg.add; rw [if_pos hc]
    generalize Rg.chk l = C at *
    have hc' : (C != 0) = true := by simpa using hc
    go_enter Tryz.func8, Tryz.ntmps8
    go_wp2_with fail
    refine hck.mono ?_; rintro e w1 ⟨rfl, hb⟩
    have B1 : Hid (Below w.heap.size w w1) := below_on HB0.out (Nat.le_refl _) hb
    clear hb hck
    go_wp2
    go_ret2
    exact addPost.bad HE.out B1.out
end Go.Proofs.YtandlmnbnjkklaaGreatDoor
