/- The walk of term.Full: the first so many terms, a span each. -/
import Derived.Test.YthojffiajlpneaaDoorTFind
import Derived.Test.YthojffiajlpneaaDoorOwnS
namespace Go.Proofs.YthojffiajlpneaaDoor
open Go.RowKit

namespace Trm
/-- the first k terms, a span each -/
def spn (y m d u n : Int) (k : Nat) : List Spn.Sp := (List.range k).map fun i : Nat => (day y m d u n i, day y m d u n (i + 1))
/-- what Full answers: nothing where the last one's end is beyond all days -/
def full (y m d u n : Int) (k : Nat) : List Spn.Sp := if day y m d u n k = 0 then [] else spn y m d u n k
theorem spn_len (y m d u n : Int) (k : Nat) : (spn y m d u n k).length = k := by simp [spn]
theorem spn_succ (y m d u n : Int) (k : Nat) : spn y m d u n (k + 1) = spn y m d u n k ++ [(day y m d u n k, day y m d u n (k + 1))] := by
  unfold spn; rw [List.range_succ, List.map_append]; rfl
theorem full_len (y m d u n : Int) (k : Nat) : (full y m d u n k).length ≤ k := by
  unfold full; split
  · simp
  · rw [spn_len]; exact Nat.le_refl _
/-- where the end of an earlier term is beyond all days, that of a later one is -/
theorem day_gone (y m d u n : Int) (h : Cal.vld y m d) (hn : 1 ≤ n) (a b : Nat) (hab : a ≤ b) (ha : day y m d u n a = 0) : day y m d u n b = 0 := by
  by_cases c : day y m d u n b = 0
  · exact c
  · exact absurd ha (day_mono y m d y m d u n a b h h hn (by omega) (by omega) (Int.le_refl _) c).1
end Trm
set_option maxHeartbeats 1000000 in
theorem full_bad (s u n k c : Int) (w : World) (h : Trm.bad u n s k 64 = c) (hc : c ≠ 0) :
    Calls Tryd.prog 10 #[.int .i64 s, .agg #[.int .i64 u, .int .i64 n], .int .i64 k] w fun e w' => e = .returned (.tuple #[.slice none 0 0, .int .i64 c]) ∧ Below w.heap.size w w' := by
  have hc1 : (c != 0) = true := by simpa using hc
  rcases bad_cases u n s k 64 c h hc with g | ⟨g, rfl, g2⟩ | ⟨g, rfl, g2, g3, g4⟩
  · have G : Hid (_) := g
    clear g h hc
    go_enter Tryd.func10, Tryd.ntmps10
    go_wp2_with fail
    refine (tcheck_at _ _ _ _ G.out).mono ?_; rintro e w1 ⟨rfl, b1⟩
    go_wp2_with fail
    go_ret2
    exact ⟨rfl, below_next (below_box _ _) (Nat.le_refl _) b1⟩
  · have G : Hid (_) := g
    have G2 : Hid (_) := g2
    clear g g2 h hc
    go_enter Tryd.func10, Tryd.ntmps10
    go_wp2_with fail
    refine (tcheck_at _ _ _ _ G.out).mono ?_; rintro e w1 ⟨rfl, b1⟩
    go_wp2_with (go_at_call 21; refine (tday_no _ _ G2.out).mono ?_; rintro e w' ⟨rfl, rfl⟩)
    go_ret2
    exact ⟨rfl, below_next (below_box _ _) (Nat.le_refl _) b1⟩
  · have G : Hid (_) := g
    have G4 : Hid (_) := g4
    clear g g4 h hc
    go_enter Tryd.func10, Tryd.ntmps10
    go_wp2_with fail
    refine (tcheck_at _ _ _ _ G.out).mono ?_; rintro e w1 ⟨rfl, b1⟩
    go_wp2_with (first
      | (go_at_call 21; refine (tday_yes _ _ g2 g3).mono ?_; rintro e w' ⟨rfl, rfl⟩)
      | (go_at_call 22; refine (twithin_no _ _ _ _ G4.out).mono ?_; rintro e w' ⟨rfl, rfl⟩))
    go_ret2
    exact ⟨rfl, below_next (below_box _ _) (Nat.le_refl _) b1⟩
set_option maxHeartbeats 2000000 in
theorem full_ok (s y m d u n : Int) (M : Nat) (w : World) (hw : Laid w) (hv : Cal.vld y m d) (hs : Cal.num y m d = s) (hu1 : 1 ≤ u) (hu2 : u ≤ 4) (hn1 : 1 ≤ n) (hn2 : n ≤ 120) (hM : M ≤ 64) :
    Calls Tryd.prog 10 #[.int .i64 s, .agg #[.int .i64 u, .int .i64 n], .int .i64 M] w fun e w' => ∃ v, e = .returned (.tuple #[v, .int .i64 (Trm.over (Trm.day y m d u n M))]) ∧ OwnS w' w.heap.size v (Trm.full y m d u n M) ∧ Below w.heap.size w w' := by
  have hi := Cal.num_in y m d hv
  rw [hs] at hi
  have h0 := Trm.day_zero y m d u n hv
  rw [hs] at h0
  have G : Hid (Trm.chk u n = 0) := Trm.chk_ok u n hu1 hu2 hn1 hn2
  have HV : Hid (Cal.vld y m d ∧ Cal.num y m d = s) := ⟨hv, hs⟩
  have H0 : Hid (_) := h0
  obtain ⟨W0, hW0⟩ : ∃ W0, W0 = w.alloc (.cells #[.int .i64 u, .int .i64 n] 23) := ⟨_, rfl⟩
  have HL : Hid (Laid W0) := by unfold Hid; rw [hW0]; exact hw.alloc _
  have hz : W0.heap.size = w.heap.size + 1 := by rw [hW0]; simp
  have BW : Hid (Below w.heap.size w W0) := by unfold Hid; rw [hW0]; exact below_box _ _
  have CW : Hid (W0.cell? ⟨w.heap.size, 0, none⟩ = some (.int .i64 u) ∧ W0.cell? ⟨w.heap.size, 1, none⟩ = some (.int .i64 n)) := by unfold Hid; rw [hW0]; exact has2_new _ _ _ _
  obtain ⟨i0, hi0, hz0, hz1, hz2⟩ := info_parts infoSpan
  have HI : Hid (Tryd.prog.info? 46 = some i0 ∧ i0.zero = some (.agg #[.int .i64 0, .int .i64 0]) ∧ i0.size = 2 ∧ i0.bytes = 16) := ⟨hi0, hz0, hz1, hz2⟩
  clear hi0 hz0 hz1 hz2 hv hs h0
  have HZ : Hid (W0.heap.size = w.heap.size + 1) := hz
  have HW0 : Hid (w.alloc (.cells #[.int .i64 u, .int .i64 n] 23) = W0) := hW0.symm
  clear hz hW0
  go_enter Tryd.func10, Tryd.ntmps10
  go_wp2_with fail
  rw [HW0.out]
  refine (tcheck_at _ _ _ _ G.out).mono ?_; rintro e w1 ⟨rfl, b1⟩
  have B1 : Hid (Below W0.heap.size W0 w1) := b1
  clear b1
  go_wp2_with (first
    | (go_at_call 21; refine (tday_yes _ _ hi.1 hi.2).mono ?_; rintro e w' ⟨rfl, rfl⟩)
    | (go_at_call 22; refine (twithin_yes _ _ _ _ (by omega) (by omega)).mono ?_; rintro e w' ⟨rfl, rfl⟩))
  go_loopw [9, 10, 29] (fun s9 s10 s29 wr => ∃ (k : Nat) (v : Value), k ≤ M ∧ s29 = .int .i64 k ∧ s9 = v ∧ s10 = .int .i64 (Trm.day y m d u n k) ∧ Hid (¬ Trm.day y m d u n k = 0) ∧ Hid (OwnS wr W0.heap.size v (Trm.spn y m d u n k) ∧ Below W0.heap.size W0 wr)) (fun _ _ s29 _ => M - (intOf s29).toNat)
  case atStart =>
    refine ⟨0, _, Nat.zero_le _, rfl, rfl, ?_, ?_, ⟨OwnS.nil _ _, B1.out⟩⟩
    · rw [show ((0 : Nat) : Int) = 0 from rfl, H0.out]
    · show ¬ Trm.day y m d u n ((0 : Nat) : Int) = 0
      rw [show ((0 : Nat) : Int) = 0 from rfl, H0.out]; omega
  case round =>
    obtain ⟨k, v, hk, rfl, rfl, rfl, HN, HO⟩ := hrel
    obtain ⟨own, bel⟩ := HO.out
    obtain ⟨hc, -⟩ := bcell bel
    have c0 := hc w.heap.size 0 (by have := HZ.out; omega)
    have c1 := hc w.heap.size 1 (by have := HZ.out; omega)
    rw [CW.out.1] at c0
    rw [CW.out.2] at c1
    clear hc own bel
    by_cases hlt : k < M
    · have hlt' : (k : Int) < (M : Int) := by omega
      obtain ⟨x, hx⟩ : ∃ x, Trm.day y m d u n (k + 1) = x := ⟨_, rfl⟩
      have HX : Hid (Trm.day y m d u n (k + 1) = x) := hx
      clear hx
      obtain ⟨F, hF⟩ : ∃ F, Trm.day y m d u n k = F := ⟨_, rfl⟩
      have HF : Hid (_) := hF
      rw [hF]
      clear hF
      by_cases hx0 : x = 0
      · have HC : Hid (Trm.over x = 8) := by unfold Hid; rw [hx0]; rfl
        have HX0 : Hid (x = 0) := hx0
        clear hx0
        go_wp2_with fail
        refine (first_at _ y m d _ _ _ x 8 _ (HL.out.below HO.out.2) HV.out.1 HV.out.2 hu1 hu2 hn1 hn2 (by omega) (by omega) HX.out HC.out).mono ?_; rintro e w2 ⟨rfl, b2⟩
        have B2 : Hid (_) := below_on HO.out.2 (Nat.le_refl _) b2
        clear b2 c0 c1
        go_wp2_with fail
        go_ret2
        have gone : Trm.day y m d u n M = 0 := Trm.day_gone y m d u n HV.out.1 hn1 (k + 1) M (by omega) (by rw [show ((k + 1 : Nat) : Int) = (k : Int) + 1 by omega, HX.out, HX0.out])
        refine ⟨.slice none 0 0, by rw [gone]; rfl, ?_, below_on BW.out (Nat.le_refl _) B2.out⟩
        unfold Trm.full; rw [if_pos gone]; exact OwnS.nil _ _
      · have HC : Hid (Trm.over x = 0) := by unfold Hid Trm.over; rw [if_neg hx0]
        have HX0 : Hid (¬ x = 0) := hx0
        clear hx0
        go_wp2_with fail
        refine (first_at _ y m d _ _ _ x 0 _ (HL.out.below HO.out.2) HV.out.1 HV.out.2 hu1 hu2 hn1 hn2 (by omega) (by omega) HX.out HC.out).mono ?_; rintro e w2 ⟨rfl, b2⟩
        have hown := OwnS.still HO.out.1 b2
        have B2 := below_on HO.out.2 (Nat.le_refl _) b2
        have hlen := Trm.spn_len y m d u n k
        have hsz : W0.heap.size ≤ w2.heap.size := B2.size
        have HB2 : Hid (_) := B2
        clear b2 c0 c1 B2
        go_wp2_with (at_builtin; refine wpList_append_own _ rfl (.tmp 43) (.tmp 47) 27 rfl W0.heap.size 46 i0 _ 2 16 Tryd.underlying27 HI.out.1 HI.out.2.1 HI.out.2.2.1 HI.out.2.2.2 rfl (by decide) _ _ _ rfl (World.ownsRow.alloc hown _) ⟨w2.heap.size, 0, none⟩ 1 1 [.int .i64 F, .int .i64 x] rfl rfl (cell2_new _ _ _ _) (one2 _ _) (by unfold maxLen; omega) (by omega) (by first | omega | (simp; omega)) ?_; intro v1 w3 own1 grow1 _)
        have R := OwnS.snoc hsz hown HB2.out own1 grow1
        have HR : Hid (_) := R
        clear own1 grow1 hown R
        go_wp2
        go_roundw
        case rel =>
          refine ⟨k + 1, _, by omega, by go_num, rfl, by rw [show ((k + 1 : Nat) : Int) = (k : Int) + 1 by omega, HX.out], ?_, ?_⟩
          · show ¬ Trm.day y m d u n ((k + 1 : Nat) : Int) = 0
            rw [show ((k + 1 : Nat) : Int) = (k : Int) + 1 by omega, HX.out]; exact HX0.out
          · show OwnS _ _ _ (Trm.spn y m d u n (k + 1)) ∧ _
            rw [Trm.spn_succ, HX.out, HF.out]; exact HR.out
        case measure => simp [intOf]; omega
    · obtain rfl : k = M := by omega
      clear c0 c1
      go_wp2_with fail
      go_ret2
      refine ⟨_, ret_err (by unfold Trm.over; rw [if_neg HN.out]), ?_, below_on BW.out (Nat.le_refl _) HO.out.2⟩
      unfold Trm.full; rw [if_neg HN.out]
      exact OwnS.weak HO.out.1 (by have := HZ.out; omega)
end Go.Proofs.YthojffiajlpneaaDoor
