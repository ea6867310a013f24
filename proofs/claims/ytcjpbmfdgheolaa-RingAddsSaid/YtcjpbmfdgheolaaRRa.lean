/- The walks of the document's rings: a key more. -/
import Derived.Test.YtcjpbmfdgheolaaRAd
import Derived.Test.YtcjpbmfdgheolaaAppStep
namespace Go.Proofs.Ytcjpbmfdgheolaa
open Go.RowKit

theorem ra_nil {a : Option Addr} {l : List Rg.Ep} {cap n : Nat} (h : a = none → l = [] ∧ cap = 0) (hl : l.length = n) : a = none → n = 0 ∧ cap = 0 := fun e => by
  have := h e
  rw [this.1] at hl
  exact ⟨hl.symm, this.2⟩
theorem ra_own {w : World} {B n : Nat} {v : Value} {l : List Rg.Ep} (h : w.ownsRow B 40 3 v (0 + n) ([] ++ fl3 l)) : w.ownsRow B 40 3 v n (fl3 l) := by simpa using h
theorem ra_made (w1 : World) (o : Obj) : ((w1.alloc o).alloc (.cells #[] 40)).ownsRow w1.heap.size 40 3 (.slice (some ⟨w1.heap.size + 1, 0, none⟩) 0 0) 0 [] := by
  have := World.ownsRow_made (base := w1.heap.size) (e := 40) (size := 3) (w1.alloc o) #[] 0 (by simp) (Nat.zero_le _) (by simp)
  rw [World.size_alloc] at this
  exact this
theorem lit_two (w1 : World) (o o' : Obj) : ((w1.alloc o).alloc o').drew.heap[w1.heap.size + 1]? = some o' := by
  have := heap_alloc_new (w1.alloc o) o'
  rw [World.size_alloc] at this
  exact this
theorem lit_one (w1 : World) (o o' : Obj) : ((w1.alloc o).alloc o').drew.heap[w1.heap.size]? = some o := (heap_alloc_old (w1.alloc o) o' (r := w1.heap.size) (by simp)).trans (heap_alloc_new w1 o)
theorem ra_keep {w w1 W : World} {A B : Tg.W} (h : Hid (Below w1.heap.size w1 W)) (hz : w.heap.size < w1.heap.size) (k0 : w1.cell? ⟨w.heap.size, 0, none⟩ = some (.int .u64 (wd A))) (k1 : w1.cell? ⟨w.heap.size, 1, none⟩ = some (.int .u64 (wd B))) :
    W.cell? ⟨w.heap.size, 0, none⟩ = some (.int .u64 (wd A)) ∧ W.cell? ⟨w.heap.size, 1, none⟩ = some (.int .u64 (wd B)) :=
  ⟨(h.out.cell (p := ⟨w.heap.size, 0, none⟩) hz).trans k0, (h.out.cell (p := ⟨w.heap.size, 1, none⟩) hz).trans k1⟩
theorem ra_below {w1 wr w4 : World} {n : Nat} {v : Value} {xs : List Value} (hb : Below w1.heap.size w1 wr) (hO : wr.ownsRow w1.heap.size 40 3 v n xs) (hgrow : wr.grownBy w4 v.ownBlock) : Below w1.heap.size w1 w4 :=
  hb.grown hgrow hb.size (fun j hj => (World.ownsRow.lt hO j hj).1)
set_option maxRecDepth 100000 in
set_option maxHeartbeats 2000000 in
theorem ringAdd_any (l : List Rg.Ep) (a : Option Addr) (cap : Nat) (A B : Tg.W) (w : World) (hl : l.length ≤ maxLen) (hn : a = none → l = [] ∧ cap = 0) (hr : Row3 w a l) :
    Calls Try.prog 10 #[.slice a l.length cap, .agg #[.int .u64 (wd A), .int .u64 (wd B)]] w (addPost w l A B) := by
  have HR : Hid (Row3 w a l) := hr
  have HN : Hid (a = none → l = [] ∧ cap = 0) := hn
  have HL : Hid (l.length ≤ maxLen) := hl
  have HB0 : Hid (Below w.heap.size w (w.alloc (.cells #[.int .u64 (wd A), .int .u64 (wd B)] 25))) := below_box w _
  have hck := ringCheck_any l a cap (w.alloc (.cells #[.int .u64 (wd A), .int .u64 (wd B)] 25)) hl (hr.below (below_box w _))
  clear hr hn hl
  by_cases hc : Rg.chk l = 0
  · have HCZ : Hid (Rg.chk l = 0) := hc
    have h8 : l.length ≤ 8 := ((Rg.chk_iff l).1 hc).1
    rw [hc] at hck
    clear hc
    obtain ⟨n, hLn⟩ : ∃ n, l.length = n := ⟨_, rfl⟩
    have HLn : Hid (l.length = n) := hLn
    obtain ⟨i0, hi, hz0, hz1', hz2⟩ := info_ep
    have HI : Hid (Try.prog.info? 40 = some i0 ∧ i0.zero = some (.agg #[.int .i64 0, .int .u64 0, .int .u64 0]) ∧ i0.size = 3 ∧ i0.bytes = 24) := ⟨hi, hz0, hz1', hz2⟩
    have hwr1 : IntKind.i64.wrap 1 = 1 := by decide
    obtain ⟨w1, hw1⟩ : ∃ w1, w.alloc (.cells #[.int .u64 (wd A), .int .u64 (wd B)] 25) = w1 := ⟨_, rfl⟩
    have k0 : w1.cell? ⟨w.heap.size, 0, none⟩ = some (.int .u64 (wd A)) := by rw [← hw1]; simp
    have k1 : w1.cell? ⟨w.heap.size, 1, none⟩ = some (.int .u64 (wd B)) := by rw [← hw1]; simp
    have hz1 : w.heap.size < w1.heap.size := by rw [← hw1]; simp
    have HW1 : Hid (w.alloc (.cells #[.int .u64 (wd A), .int .u64 (wd B)] 25) = w1) := hw1
    rw [hLn] at hck h8 ⊢
    clear hLn hi hz0 hz1' hz2 hw1
    by_cases hx : n = 0
    · have hlt : ¬ (0 : Int) < (n : Int) := by omega
      have h88 : ((n : Int) == 8) = false := by simp; omega
      have HE : Hid (Rg.add l A B = (l ++ [(1, A, B)], 0)) := by
        have : l = [] := List.eq_nil_of_length_eq_zero (by rw [HLn.out]; exact hx)
        subst this
        rfl
      clear hx
      go_enter Try.func10, Try.ntmps10
      go_wp2_with fail
      refine hck.mono ?_; rintro e w9 ⟨rfl, rfl⟩
      rw [HW1.out] at HB0 ⊢
      have R1 : Hid (Row3 w1 a l) := HR.out.below HB0.out
      clear hck
      go_wp2
      go_region_held3 (fun w' => w'.cell? ⟨w.heap.size, 0, none⟩ = some (.int .u64 (wd A)) ∧ w'.cell? ⟨w.heap.size, 1, none⟩ = some (.int .u64 (wd B)))
        (first | go_keep | exact ra_keep B5 hz1 k0 k1 | exact ra_keep B3 hz1 k0 k1)
        (first
          | (refine step_append_any _ (by rfl) _ _ _ (by rfl) w1.heap.size 40 i0 _ 3 24 Try.underlying22 HI.out.1 HI.out.2.1 HI.out.2.2.1 HI.out.2.2.2 rfl (by omega) (.slice (some ⟨w1.heap.size, 0, none⟩) 0 0) 0 [] (by rfl) (World.ownsRow.drew (World.ownsRow_made w1 #[] 0 (Nat.le_refl _) (Nat.zero_le _) (by simp))) a n cap (fl3 l) (by rfl) (ra_nil HN.out HLn.out) (by rw [fl3_len, HLn.out]) (R1.out.below ((below_box w1 (.cells #[] 40)).drew)).news (fl3_one l) (by unfold maxLen; omega) (by omega) (((below_box w1 (.cells #[] 40)).drew)).size ?_; intro v3 w3 hO3 hg3; have B3 : Hid (Below w1.heap.size w1 w3) := (((below_box w1 (.cells #[] 40)).drew)).grown hg3 (((below_box w1 (.cells #[] 40)).drew)).size (by intro k hk; simp [Value.ownBlock] at hk; omega); have HO3 : Hid (w3.ownsRow w1.heap.size 40 3 v3 n (fl3 l)) := ra_own hO3; clear hO3 hg3)
          | (refine step_append_any _ (by rfl) _ _ _ (by rfl) w1.heap.size 40 i0 _ 3 24 Try.underlying22 HI.out.1 HI.out.2.1 HI.out.2.2.1 HI.out.2.2.2 rfl (by omega) (.slice (some ⟨w1.heap.size, 0, none⟩) 0 0) 0 [] (by rfl) (World.ownsRow.drew (World.ownsRow.alloc (World.ownsRow_made w1 #[] 0 (Nat.le_refl _) (Nat.zero_le _) (by simp)) _)) a n cap (fl3 l) (by rfl) (ra_nil HN.out HLn.out) (by rw [fl3_len, HLn.out]) (R1.out.below (((below_box w1 (.cells #[] 40)).alloc (by simp) (.cells #[.int .i64 1, .int .u64 (wd A), .int .u64 (wd B)] 40)).drew)).news (fl3_one l) (by unfold maxLen; omega) (by omega) ((((below_box w1 (.cells #[] 40)).alloc (by simp) (.cells #[.int .i64 1, .int .u64 (wd A), .int .u64 (wd B)] 40)).drew)).size ?_; intro v3 w3 hO3 hg3; have B3 : Hid (Below w1.heap.size w1 w3) := ((((below_box w1 (.cells #[] 40)).alloc (by simp) (.cells #[.int .i64 1, .int .u64 (wd A), .int .u64 (wd B)] 40)).drew)).grown hg3 ((((below_box w1 (.cells #[] 40)).alloc (by simp) (.cells #[.int .i64 1, .int .u64 (wd A), .int .u64 (wd B)] 40)).drew)).size (by intro k hk; simp [Value.ownBlock] at hk; omega); have HO3 : Hid (w3.ownsRow w1.heap.size 40 3 v3 n (fl3 l)) := ra_own hO3; have HT : Hid (w3.heap[w1.heap.size + 1]? = some (.cells #[.int .i64 1, .int .u64 (wd A), .int .u64 (wd B)] 40)) := (hg3.block (w1.heap.size + 1) (by simp) (by simp [Value.ownBlock])).trans (lit_two w1 _ _); clear hO3 hg3)
          | (refine step_append_any _ (by rfl) _ _ _ (by rfl) w1.heap.size 40 i0 _ 3 24 Try.underlying22 HI.out.1 HI.out.2.1 HI.out.2.2.1 HI.out.2.2.2 rfl (by omega) (.slice (some ⟨w1.heap.size + 1, 0, none⟩) 0 0) 0 [] (by rfl) (World.ownsRow.drew (ra_made w1 _)) a n cap (fl3 l) (by rfl) (ra_nil HN.out HLn.out) (by rw [fl3_len, HLn.out]) (R1.out.below (((below_box w1 (.cells #[.int .i64 1, .int .u64 (wd A), .int .u64 (wd B)] 40)).alloc (by simp) (.cells #[] 40)).drew)).news (fl3_one l) (by unfold maxLen; omega) (by omega) ((((below_box w1 (.cells #[.int .i64 1, .int .u64 (wd A), .int .u64 (wd B)] 40)).alloc (by simp) (.cells #[] 40)).drew)).size ?_; intro v3 w3 hO3 hg3; have B3 : Hid (Below w1.heap.size w1 w3) := ((((below_box w1 (.cells #[.int .i64 1, .int .u64 (wd A), .int .u64 (wd B)] 40)).alloc (by simp) (.cells #[] 40)).drew)).grown hg3 ((((below_box w1 (.cells #[.int .i64 1, .int .u64 (wd A), .int .u64 (wd B)] 40)).alloc (by simp) (.cells #[] 40)).drew)).size (by intro k hk; simp [Value.ownBlock] at hk; omega); have HO3 : Hid (w3.ownsRow w1.heap.size 40 3 v3 n (fl3 l)) := ra_own hO3; have HT : Hid (w3.heap[w1.heap.size]? = some (.cells #[.int .i64 1, .int .u64 (wd A), .int .u64 (wd B)] 40)) := (hg3.block w1.heap.size (by simp; omega) (by simp [Value.ownBlock])).trans (lit_one w1 _ _); clear hO3 hg3)
          | (refine step_append_lies _ (by rfl) _ _ _ (by rfl) w1.heap.size 40 i0 _ 3 24 Try.underlying22 HI.out.1 HI.out.2.1 HI.out.2.2.1 HI.out.2.2.2 rfl (by omega) v3 n (fl3 l) (by rfl) (World.ownsRow.alloc HO3.out _) ⟨w3.heap.size, 0, none⟩ 1 1 [.int .i64 1, .int .u64 (wd A), .int .u64 (wd B)] (by rfl) (by rfl) (World.news_of_block (heap_alloc_new w3 _)) (by simp [Value.oneCell']) (by omega) (by unfold maxLen; omega) (by omega) (B3.out.alloc B3.out.size _).size _ rfl ?_; intro g cp w4 hown hgrow hat hlt; have B4 := add_end HLn.out HB0.out (B3.out.alloc B3.out.size (.cells #[.int .i64 1, .int .u64 (wd A), .int .u64 (wd B)] 40)) (World.ownsRow.alloc HO3.out _) hown hgrow; have B5 : Hid (Below w1.heap.size w1 w4) := ra_below (B3.out.alloc B3.out.size (.cells #[.int .i64 1, .int .u64 (wd A), .int .u64 (wd B)] 40)) (World.ownsRow.alloc HO3.out _) hgrow; clear hat hlt hown hgrow)
          | (refine step_append_lies _ (by rfl) _ _ _ (by rfl) w1.heap.size 40 i0 _ 3 24 Try.underlying22 HI.out.1 HI.out.2.1 HI.out.2.2.1 HI.out.2.2.2 rfl (by omega) v3 n (fl3 l) (by rfl) HO3.out ⟨w1.heap.size + 1, 0, none⟩ 1 1 [.int .i64 1, .int .u64 (wd A), .int .u64 (wd B)] (by rfl) (by rfl) (World.news_of_block HT.out) (by simp [Value.oneCell']) (by omega) (by unfold maxLen; omega) (by omega) B3.out.size _ rfl ?_; intro g cp w4 hown hgrow hat hlt; have B4 := add_end HLn.out HB0.out B3.out HO3.out hown hgrow; have B5 : Hid (Below w1.heap.size w1 w4) := ra_below B3.out HO3.out hgrow; clear hat hlt hown hgrow)
          | (refine step_append_lies _ (by rfl) _ _ _ (by rfl) w1.heap.size 40 i0 _ 3 24 Try.underlying22 HI.out.1 HI.out.2.1 HI.out.2.2.1 HI.out.2.2.2 rfl (by omega) v3 n (fl3 l) (by rfl) HO3.out ⟨w1.heap.size, 0, none⟩ 1 1 [.int .i64 1, .int .u64 (wd A), .int .u64 (wd B)] (by rfl) (by rfl) (World.news_of_block HT.out) (by simp [Value.oneCell']) (by omega) (by unfold maxLen; omega) (by omega) B3.out.size _ rfl ?_; intro g cp w4 hown hgrow hat hlt; have B4 := add_end HLn.out HB0.out B3.out HO3.out hown hgrow; have B5 : Hid (Below w1.heap.size w1 w4) := ra_below B3.out HO3.out hgrow; clear hat hlt hown hgrow))
      all_goals
        have Q : Hid (_) := B4
        clear B4
        go_wp2
        go_ret2
        exact addPost.good HE.out Q.out.1 Q.out.2
    · have hlt : (0 : Int) < (n : Int) := by omega
      obtain ⟨m, hm⟩ : ∃ m, n = m + 1 := ⟨n - 1, by omega⟩
      subst hm
      have hck' := hck
      obtain ⟨x, hX⟩ : ∃ x, Rg.last l = x := ⟨_, rfl⟩
      have HX : Hid (Rg.last l = x) := hX
      have hx0 : 0 ≤ x ∧ x ≤ 255 := by
        have hu := ((Rg.chk_iff l).1 HCZ.out).2
        have hne : l ≠ [] := fun e => by have := HLn.out; rw [e] at this; cases this
        obtain ⟨e, he⟩ : ∃ e, l.getLast? = some e := ⟨_, List.getLast?_eq_some_getLast hne⟩
        have := Rg.up_mem l 0 hu e (Rg.last_mem l e he)
        rw [← hX, Rg.last_of l e he]
        omega
      clear hX hck hx
      by_cases h9 : m = 7 ∨ x = 255
      · have HE : Hid (Rg.add l A B = ([], 2)) := by
          show _ = _
          unfold Rg.add
          rw [if_neg (by rw [HCZ.out]; omega), if_pos (by rw [HLn.out, HX.out]; omega)]
        by_cases h7 : m = 7
        · subst h7
          go_enter Try.func10, Try.ntmps10
          go_wp2_with fail
          refine hck'.mono ?_; rintro e w9 ⟨rfl, rfl⟩
          rw [HW1.out] at HB0 ⊢
          have R1 : Row3 w1 a l := HR.out.below HB0.out
          obtain ⟨b, off, y, Y, Z, rfl, hbs, hy, c1, c2, c3⟩ := R1.at (k := 7) (by rw [HLn.out]; omega)
          clear hck' R1 hy h9
          go_wp2
          go_ret2
          exact addPost.bad HE.out HB0.out
        · obtain rfl : x = 255 := by omega
          have h88 : ((m : Int) + 1 == 8) = false := by simp; omega
          go_enter Try.func10, Try.ntmps10
          go_wp2_with fail
          refine hck'.mono ?_; rintro e w9 ⟨rfl, rfl⟩
          rw [HW1.out] at HB0 ⊢
          have R1 : Row3 w1 a l := HR.out.below HB0.out
          obtain ⟨b, off, y, Y, Z, rfl, hbs, hy, c1, c2, c3⟩ := R1.at (k := m) (by rw [HLn.out]; omega)
          obtain rfl : y = 255 := by rw [← HX.out]; exact (Rg.last_at HLn.out hy).symm
          clear hck' R1 hy h9
          go_wp2
          go_ret2
          exact addPost.bad HE.out HB0.out
      · have h88 : ((m : Int) + 1 == 8) = false := by simp; omega
        have hle : x ≤ 254 := by omega
        have hne : (x == 255) = false := by simp; omega
        have hwx : IntKind.i64.wrap (x + 1) = x + 1 := by rw [IntKind.wrap_i64]; omega
        have HE : Hid (Rg.add l A B = (l ++ [(x + 1, A, B)], 0)) := by
          show _ = _
          unfold Rg.add
          rw [if_neg (by rw [HCZ.out]; omega), if_neg (by rw [HLn.out, HX.out]; omega), HX.out]
        clear h9
        go_enter Try.func10, Try.ntmps10
        go_wp2_with fail
        refine hck'.mono ?_; rintro e w9 ⟨rfl, rfl⟩
        rw [HW1.out] at HB0 ⊢
        have hr1 : Row3 w1 a l := HR.out.below HB0.out
        have R1 : Hid (Row3 w1 a l) := hr1
        obtain ⟨b, off, y, Y, Z, rfl, hbs, hy, c1, c2, c3⟩ := hr1.at (k := m) (by rw [HLn.out]; omega)
        obtain rfl : y = x := by rw [← HX.out]; exact (Rg.last_at HLn.out hy).symm
        clear hck' hr1 hy c2 c3
        go_wp2
        go_region_held3 (fun w' => w'.cell? ⟨w.heap.size, 0, none⟩ = some (.int .u64 (wd A)) ∧ w'.cell? ⟨w.heap.size, 1, none⟩ = some (.int .u64 (wd B)))
          (first | go_keep | exact ra_keep B5 hz1 k0 k1 | exact ra_keep B3 hz1 k0 k1)
          (first
            | (refine step_append_any _ (by rfl) _ _ _ (by rfl) w1.heap.size 40 i0 _ 3 24 Try.underlying22 HI.out.1 HI.out.2.1 HI.out.2.2.1 HI.out.2.2.2 rfl (by omega) (.slice (some ⟨w1.heap.size, 0, none⟩) 0 0) 0 [] (by rfl) (World.ownsRow.drew (World.ownsRow_made w1 #[] 0 (Nat.le_refl _) (Nat.zero_le _) (by simp))) (some ⟨b, off, none⟩) (m + 1) cap (fl3 l) (by rfl) (ra_nil HN.out HLn.out) (by rw [fl3_len, HLn.out]) (R1.out.below ((below_box w1 (.cells #[] 40)).drew)).news (fl3_one l) (by unfold maxLen; omega) (by omega) (((below_box w1 (.cells #[] 40)).drew)).size ?_; intro v3 w3 hO3 hg3; have B3 : Hid (Below w1.heap.size w1 w3) := (((below_box w1 (.cells #[] 40)).drew)).grown hg3 (((below_box w1 (.cells #[] 40)).drew)).size (by intro k hk; simp [Value.ownBlock] at hk; omega); have HO3 : Hid (w3.ownsRow w1.heap.size 40 3 v3 (m + 1) (fl3 l)) := ra_own hO3; clear hO3 hg3)
            | (refine step_append_any _ (by rfl) _ _ _ (by rfl) w1.heap.size 40 i0 _ 3 24 Try.underlying22 HI.out.1 HI.out.2.1 HI.out.2.2.1 HI.out.2.2.2 rfl (by omega) (.slice (some ⟨w1.heap.size, 0, none⟩) 0 0) 0 [] (by rfl) (World.ownsRow.drew (World.ownsRow.alloc (World.ownsRow_made w1 #[] 0 (Nat.le_refl _) (Nat.zero_le _) (by simp)) _)) (some ⟨b, off, none⟩) (m + 1) cap (fl3 l) (by rfl) (ra_nil HN.out HLn.out) (by rw [fl3_len, HLn.out]) (R1.out.below (((below_box w1 (.cells #[] 40)).alloc (by simp) (.cells #[.int .i64 (y + 1), .int .u64 (wd A), .int .u64 (wd B)] 40)).drew)).news (fl3_one l) (by unfold maxLen; omega) (by omega) ((((below_box w1 (.cells #[] 40)).alloc (by simp) (.cells #[.int .i64 (y + 1), .int .u64 (wd A), .int .u64 (wd B)] 40)).drew)).size ?_; intro v3 w3 hO3 hg3; have B3 : Hid (Below w1.heap.size w1 w3) := ((((below_box w1 (.cells #[] 40)).alloc (by simp) (.cells #[.int .i64 (y + 1), .int .u64 (wd A), .int .u64 (wd B)] 40)).drew)).grown hg3 ((((below_box w1 (.cells #[] 40)).alloc (by simp) (.cells #[.int .i64 (y + 1), .int .u64 (wd A), .int .u64 (wd B)] 40)).drew)).size (by intro k hk; simp [Value.ownBlock] at hk; omega); have HO3 : Hid (w3.ownsRow w1.heap.size 40 3 v3 (m + 1) (fl3 l)) := ra_own hO3; have HT : Hid (w3.heap[w1.heap.size + 1]? = some (.cells #[.int .i64 (y + 1), .int .u64 (wd A), .int .u64 (wd B)] 40)) := (hg3.block (w1.heap.size + 1) (by simp) (by simp [Value.ownBlock])).trans (lit_two w1 _ _); clear hO3 hg3)
            | (refine step_append_any _ (by rfl) _ _ _ (by rfl) w1.heap.size 40 i0 _ 3 24 Try.underlying22 HI.out.1 HI.out.2.1 HI.out.2.2.1 HI.out.2.2.2 rfl (by omega) (.slice (some ⟨w1.heap.size + 1, 0, none⟩) 0 0) 0 [] (by rfl) (World.ownsRow.drew (ra_made w1 _)) (some ⟨b, off, none⟩) (m + 1) cap (fl3 l) (by rfl) (ra_nil HN.out HLn.out) (by rw [fl3_len, HLn.out]) (R1.out.below (((below_box w1 (.cells #[.int .i64 (y + 1), .int .u64 (wd A), .int .u64 (wd B)] 40)).alloc (by simp) (.cells #[] 40)).drew)).news (fl3_one l) (by unfold maxLen; omega) (by omega) ((((below_box w1 (.cells #[.int .i64 (y + 1), .int .u64 (wd A), .int .u64 (wd B)] 40)).alloc (by simp) (.cells #[] 40)).drew)).size ?_; intro v3 w3 hO3 hg3; have B3 : Hid (Below w1.heap.size w1 w3) := ((((below_box w1 (.cells #[.int .i64 (y + 1), .int .u64 (wd A), .int .u64 (wd B)] 40)).alloc (by simp) (.cells #[] 40)).drew)).grown hg3 ((((below_box w1 (.cells #[.int .i64 (y + 1), .int .u64 (wd A), .int .u64 (wd B)] 40)).alloc (by simp) (.cells #[] 40)).drew)).size (by intro k hk; simp [Value.ownBlock] at hk; omega); have HO3 : Hid (w3.ownsRow w1.heap.size 40 3 v3 (m + 1) (fl3 l)) := ra_own hO3; have HT : Hid (w3.heap[w1.heap.size]? = some (.cells #[.int .i64 (y + 1), .int .u64 (wd A), .int .u64 (wd B)] 40)) := (hg3.block w1.heap.size (by simp; omega) (by simp [Value.ownBlock])).trans (lit_one w1 _ _); clear hO3 hg3)
            | (refine step_append_lies _ (by rfl) _ _ _ (by rfl) w1.heap.size 40 i0 _ 3 24 Try.underlying22 HI.out.1 HI.out.2.1 HI.out.2.2.1 HI.out.2.2.2 rfl (by omega) v3 (m + 1) (fl3 l) (by rfl) (World.ownsRow.alloc HO3.out _) ⟨w3.heap.size, 0, none⟩ 1 1 [.int .i64 (y + 1), .int .u64 (wd A), .int .u64 (wd B)] (by rfl) (by rfl) (World.news_of_block (heap_alloc_new w3 _)) (by simp [Value.oneCell']) (by omega) (by unfold maxLen; omega) (by omega) (B3.out.alloc B3.out.size _).size _ rfl ?_; intro g cp w4 hown hgrow hat hlt; have B4 := add_end HLn.out HB0.out (B3.out.alloc B3.out.size (.cells #[.int .i64 (y + 1), .int .u64 (wd A), .int .u64 (wd B)] 40)) (World.ownsRow.alloc HO3.out _) hown hgrow; have B5 : Hid (Below w1.heap.size w1 w4) := ra_below (B3.out.alloc B3.out.size (.cells #[.int .i64 (y + 1), .int .u64 (wd A), .int .u64 (wd B)] 40)) (World.ownsRow.alloc HO3.out _) hgrow; clear hat hlt hown hgrow)
            | (refine step_append_lies _ (by rfl) _ _ _ (by rfl) w1.heap.size 40 i0 _ 3 24 Try.underlying22 HI.out.1 HI.out.2.1 HI.out.2.2.1 HI.out.2.2.2 rfl (by omega) v3 (m + 1) (fl3 l) (by rfl) HO3.out ⟨w1.heap.size + 1, 0, none⟩ 1 1 [.int .i64 (y + 1), .int .u64 (wd A), .int .u64 (wd B)] (by rfl) (by rfl) (World.news_of_block HT.out) (by simp [Value.oneCell']) (by omega) (by unfold maxLen; omega) (by omega) B3.out.size _ rfl ?_; intro g cp w4 hown hgrow hat hlt; have B4 := add_end HLn.out HB0.out B3.out HO3.out hown hgrow; have B5 : Hid (Below w1.heap.size w1 w4) := ra_below B3.out HO3.out hgrow; clear hat hlt hown hgrow)
            | (refine step_append_lies _ (by rfl) _ _ _ (by rfl) w1.heap.size 40 i0 _ 3 24 Try.underlying22 HI.out.1 HI.out.2.1 HI.out.2.2.1 HI.out.2.2.2 rfl (by omega) v3 (m + 1) (fl3 l) (by rfl) HO3.out ⟨w1.heap.size, 0, none⟩ 1 1 [.int .i64 (y + 1), .int .u64 (wd A), .int .u64 (wd B)] (by rfl) (by rfl) (World.news_of_block HT.out) (by simp [Value.oneCell']) (by omega) (by unfold maxLen; omega) (by omega) B3.out.size _ rfl ?_; intro g cp w4 hown hgrow hat hlt; have B4 := add_end HLn.out HB0.out B3.out HO3.out hown hgrow; have B5 : Hid (Below w1.heap.size w1 w4) := ra_below B3.out HO3.out hgrow; clear hat hlt hown hgrow))
        all_goals
          have Q : Hid (_) := B4
          clear B4
          go_wp2
          go_ret2
          exact addPost.good HE.out Q.out.1 Q.out.2
  · have HE : Hid (Rg.add l A B = ([], Rg.chk l)) := by show _ = _; unfold Rg.add; rw [if_pos hc]
    generalize Rg.chk l = C at *
    have hc' : (C != 0) = true := by simpa using hc
    go_enter Try.func10, Try.ntmps10
    go_wp2_with fail
    refine hck.mono ?_; rintro e w1 ⟨rfl, rfl⟩
    clear hck
    go_wp2
    go_ret2
    exact addPost.bad HE.out HB0.out
end Go.Proofs.Ytcjpbmfdgheolaa
