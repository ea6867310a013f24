/- The law RestFares: walked. -/
import Derived.Test.YtcaibonnkfhkmaaFSt
import Derived.Test.YtcaibonnkfhkmaaFBeg2
import Derived.Test.YtcaibonnkfhkmaaAppAll
import Derived.Test.YtcaibonnkfhkmaaFMx
namespace Go.Proofs.Ytcaibonnkfhkmaa
open Go.RowKit

set_option maxRecDepth 100000 in
set_option maxHeartbeats 2000000 in
theorem restFares_any (f : List (List Int)) (ad : Option Addr) (cap : Nat) (w : World) (hl : f.length ≤ maxLen) (hz : f.length * 24 ≤ 140737488351232) (hz8 : ∀ i, i < f.length → (f.getD i []).length * 8 ≤ 140737488351232) (_hn : ad = none → cap = 0 ∧ f = []) (hm : MatN w ad f) :
    Calls Try.prog 8 #[.slice ad f.length cap] w fun e w' => e = .returned (.bool true) ∧ Below w.heap.size w w' := by
  obtain ⟨i0, hi, hz0, hz1, hz2⟩ := info_parts' info_int
  have HI : Hid (Try.prog.info? 3 = some i0 ∧ i0.zero = some (.int .i64 0) ∧ i0.size = 1 ∧ i0.bytes = 8) := ⟨hi, hz0, hz1, hz2⟩
  clear hi hz0 hz1 hz2
  obtain ⟨j0, hi, hz0, hz1, hz2⟩ := info_parts' info_row
  have HJ : Hid (Try.prog.info? 37 = some j0 ∧ j0.zero = some (.slice none 0 0) ∧ j0.size = 1 ∧ j0.bytes = 24) := ⟨hi, hz0, hz1, hz2⟩
  clear hi hz0 hz1 hz2
  have HM : Hid (MatN w ad f) := hm
  have HZ8 : Hid (∀ i, i < f.length → (f.getD i []).length * 8 ≤ 140737488351232) := hz8
  have HRL : Hid (∀ r ∈ f, r.length ≤ maxLen) := by
    intro r hr
    obtain ⟨i, hi, rfl⟩ := List.getElem_of_mem hr
    have := hz8 i hi
    rw [List.getD_eq_getElem?_getD, List.getElem?_eq_getElem hi] at this
    have h2 : (f[i]).length * 8 ≤ 140737488351232 := this
    unfold maxLen; omega
  have HMEND : Hid ((1 ≤ f.length ∧ f.length ≤ 6 ∧ ∃ C : Nat → Nat → Int, ∀ (W : World) (a : Option Addr) (c : Nat), Mat W a f → Calls Try.prog 16 #[.slice a f.length c] W fun e w' => e = .returned (.tuple #[.slice (some ⟨W.heap.size + 1, 0, none⟩) f.length f.length, .int .i64 0]) ∧ Out w' (W.heap.size + 1) f.length (fun k => W.heap.size + 3 + k) C ∧ Below W.heap.size W w') ∨
      ∃ q : Int, ∀ (W : World) (a : Option Addr) (c : Nat), Mat W a f → Calls Try.prog 16 #[.slice a f.length c] W fun e w' => e = .returned (.tuple #[.slice none 0 0, .int .i64 q]) ∧ Below W.heap.size W w') := by
    by_cases hc : Fr.chk f = 0
    · exact .inl ⟨(Fr.chk_zero hc).1, (Fr.chk_zero hc).2.1, _, fun W a c h => mend_ok a c W hl h hc⟩
    · exact .inr ⟨_, fun W a c h => mend_bad a c W hl h hc⟩
  have HSF : Hid (∀ (W : World) (a1 a2 : Option Addr) (c1 c2 : Nat), Mat W a1 f → Mat W a2 f → Calls Try.prog 18 #[.slice a1 f.length c1, .slice a2 f.length c2] W fun e w' => e = .returned (.bool true) ∧ ∃ q, w' = W.drewN q) := fun W a1 a2 c1 c2 h1 h2 => by
    have := sameFares_any f f a1 a2 c1 c2 W hl hl h1 h2
    rwa [decide_eq_true rfl] at this
  obtain ⟨n, hn⟩ : ∃ n, f.length = n := ⟨_, rfl⟩
  have HN : Hid (f.length = n) := hn
  rw [hn] at hl hz HZ8 HMEND HSF ⊢
  clear hn _hn hm hz8
  unfold maxLen at hl
  go_enter Try.func8, Try.ntmps8
  go_wp2
  go_loopw [3, 4] (fun v iv wr => ∃ k : Nat, k ≤ n ∧ iv = .int .i64 k ∧ OwnM wr w.heap.size v (f.take k) ∧ Below w.heap.size w wr) (fun _ iv _ => n - (intOf iv).toNat)
  case atStart => exact ⟨0, Nat.zero_le _, rfl, by simpa using OwnM.nil _ _, Below.refl _ _⟩
  case round =>
    obtain ⟨k, hk, rfl, hown, hB⟩ := hrel
    have HO : Hid (OwnM wr w.heap.size u3 (f.take k)) := hown
    have HB : Hid (Below w.heap.size w wr) := hB
    clear hown hB
    obtain ⟨W1, hW1⟩ : ∃ W1, W1 = wr := ⟨_, rfl⟩
    subst hW1
    by_cases hlt : k < n
    · have hlt' : (k : Int) < (n : Int) := by omega
      obtain ⟨b, off, ai, ci, rfl, hb, c1, hx, hxl, hnil⟩ := (HM.out.below HB.out).at (k := k) (by rw [HN.out]; exact hlt)
      have h8 := HZ8.out k hlt
      have HS : Hid (f.take (k + 1) = f.take k ++ [f.getD k []]) := take_next f k (by rw [HN.out]; exact hlt)
      have HLn : Hid ((f.take k).length = k) := by show _ = _; rw [List.length_take, HN.out]; omega
      have HX : Hid (Row1 (W1.alloc (.cells #[] 3)) ai (f.getD k [])) := hx.below (below_box _ _)
      have HNI : Hid (ai = none → ci = 0 ∧ f.getD k [] = []) := hnil
      clear hx hnil
      generalize f.getD k [] = xs at *
      generalize f.take k = g at *
      unfold maxLen at hxl
      obtain ⟨nx, hnx⟩ : ∃ nx, xs.length = nx := ⟨_, rfl⟩
      have HNX : Hid (xs.length = nx) := hnx
      rw [hnx] at c1 hxl h8
      clear hnx
      go_wp2_with (first
        | (at_builtin; refine wpList_append_all _ rfl (.tmp 19) (.tmp 23) 37 rfl W1.heap.size 3 i0 (.int .i64 0) 1 8 (by rfl) HI.out.1 HI.out.2.1 HI.out.2.2.1 HI.out.2.2.2 rfl (by decide) _ _ _ rfl (World.ownsRow_made W1 #[] 0 (Nat.le_refl _) (Nat.zero_le _) (by simp)) ai nx ci (xs.map (Value.int .i64)) rfl (fun e => ⟨by rw [← HNX.out, (HNI.out e).2]; rfl, (HNI.out e).1⟩) (by simp [HNX.out]) HX.out.news1 (ints_one1 xs) (by unfold maxLen; omega) (by omega) (by simp) ?_; intro v1 w1 own1 grow1; have R1 := OwnI.join1 (xs := []) (ys := xs) (by simp) (World.ownsRow_made W1 #[] 0 (Nat.le_refl _) (Nat.zero_le _) (by simp)) (below_box W1 (.cells #[] 3)) (by rw [HNX.out]; exact own1) grow1; rw [List.nil_append] at R1; obtain ⟨ua, uc, hu7, _⟩ := R1.1.row; subst hu7
           have HU : Hid (OwnI w1 W1.heap.size (.slice ua xs.length uc) xs) := R1.1
           have HB2 : Hid (Below W1.heap.size W1 w1) := R1.2
           clear R1 own1 grow1
           obtain ⟨vs, hvs, hR, hrows⟩ := HO.out.still HB2.out
           have HU3 : Hid (OwnI w1 w.heap.size (.slice ua xs.length uc) xs) := HU.out.weak HB.out.size
           have HB3 : Hid (Below w.heap.size w w1) := below_on HB.out (Nat.le_refl _) HB2.out
           have HVS : Hid (vs.length = g.length) := hvs
           have HR : Hid (OwnR w1 w.heap.size u3 vs) := hR
           have HRO : Hid (∀ (j : Nat) (r : List Int), g[j]? = some r → ∃ u, vs[j]? = some u ∧ OwnI w1 w.heap.size u r) := hrows
           have hsz : w.heap.size ≤ w1.heap.size := HB3.out.size
           clear hR hrows hvs)
        | (at_builtin; (refine wpList_append_own _ rfl (.tmp 18) (.tmp 25) 23 rfl w.heap.size 37 j0 (.slice none 0 0) 1 24 (by rfl) HJ.out.1 HJ.out.2.1 HJ.out.2.2.1 HJ.out.2.2.2 rfl (by decide) _ _ _ rfl (World.ownsRow.alloc HR.out _) ⟨w1.heap.size, 0, none⟩ 1 1 [.slice ua xs.length uc] rfl rfl (cell1_new _ _ _) (oneR HU3.out) (by unfold maxLen; have := HLn.out; have := HVS.out; omega) (by have := HLn.out; have := HVS.out; omega) (by first | omega | (simp; omega)) ?_; intro v2 w2 own2 grow2 _)))
      have R := OwnM.keep hsz HVS.out HR.out HRO.out HU3.out HB3.out own2 grow2
      clear own2 grow2
      go_wp2
      refine ⟨⟨k + 1, by omega, by go_num, by rw [HS.out]; exact R.1, R.2⟩, by simp [intOf]; omega⟩
    · obtain rfl : n = k := by omega
      have HTK : Hid (f.take n = f) := by show _ = _; rw [← HN.out, List.take_length]
      obtain ⟨ga, gc, rfl, hg⟩ := HO.out.mat (by rw [HTK.out]; exact HRL.out)
      rw [HTK.out, HN.out]
      rw [HTK.out] at hg
      have HG : Hid (Mat W1 ga f) := hg
      have HF : Hid (Mat W1 ad f) := (HM.out.below HB.out).mat
      clear hg HO HTK
      rcases HMEND.out with ⟨hn1, hn6, C, M1⟩ | ⟨q, M1⟩
      · have HM1 : Hid (∀ (W : World) (a : Option Addr) (c : Nat), Mat W a f → Calls Try.prog 16 #[.slice a n c] W fun e w' => e = .returned (.tuple #[.slice (some ⟨W.heap.size + 1, 0, none⟩) n n, .int .i64 0]) ∧ Out w' (W.heap.size + 1) n (fun k => W.heap.size + 3 + k) C ∧ Below W.heap.size W w') := M1
        clear M1 HMEND
        go_wp2_with fail
        refine (HM1.out W1 _ _ HG.out).mono ?_; rintro e W2 ⟨rfl, hO, hB⟩
        have HO2 : Hid (Out W2 (W1.heap.size + 1) n (fun k => W1.heap.size + 3 + k) C) := hO
        have HB2 : Hid (Below W1.heap.size W1 W2) := hB
        have hst : W1.heap.size + 3 + n ≤ W2.heap.size := by
          have := RowI.lt (hO.2 (n - 1) (by omega))
          dsimp only at this
          omega
        have HST : Hid (W1.heap.size + 3 + n ≤ W2.heap.size) := hst
        clear hO hB hst
        go_wp2_with fail
        refine (HM1.out W2 _ _ (HF.out.below HB2.out)).mono ?_; rintro e W3 ⟨rfl, hO, hB⟩
        have HO3 : Hid (Out W3 (W1.heap.size + 1) n (fun k => W1.heap.size + 3 + k) C) := HO2.out.below hB
        have HA3 : Hid (Out W3 (W2.heap.size + 1) n (fun k => W2.heap.size + 3 + k) C) := hO
        have HB3 : Hid (Below W1.heap.size W1 W3) := below_on HB2.out (Nat.le_refl _) hB
        clear hO hB
        go_wp2_with fail
        refine (fareBegun_any W3).mono ?_; rintro e W4 ⟨rfl, hB⟩
        have HF4 : Hid (FSt W1 W1.heap.size W2.heap.size n C 0 0 W4) := ⟨rfl, HST.out, (HO3.out.below hB).congr fun x y _ _ => by unfold Fr.mx; rw [if_neg (by omega)], HA3.out.below hB, below_on HB3.out (Nat.le_refl _) hB⟩
        clear hB HO2 HO3 HA3 HB2 HB3 HST HM1
        have HS1 : Hid (∃ s, W1.heap.size = s) := ⟨_, rfl⟩
        generalize W2.heap.size = t at *
        obtain ⟨s, hs⟩ := HS1.out
        rw [hs] at HF4 ⊢
        clear hs HS1
        go_wp2
        go_loopw [9, 10, 11] (fun iv _ _ wr => ∃ i : Nat, i ≤ n ∧ iv = .int .i64 i ∧ FSt W1 s t n C i 0 wr) (fun iv _ _ _ => n - (intOf iv).toNat)
        case atStart => exact ⟨0, Nat.zero_le _, rfl, HF4.out⟩
        case round =>
          clear HF4
          obtain ⟨i, hi, rfl, hst⟩ := hrel
          have HQ : Hid (FSt W1 s t n C i 0 wr) := hst
          clear hst
          by_cases hli : i < n
          · have hli' : (i : Int) < (n : Int) := by omega
            obtain ⟨d, hd⟩ : ∃ d, n - i = d := ⟨_, rfl⟩
            go_wp2
            go_loopw [10] (fun jv wq => ∃ j : Nat, j ≤ d ∧ jv = .int .i64 j ∧ FSt W1 s t n C i j wq) (fun jv _ => d - (intOf jv).toNat)
            case atStart => exact ⟨0, Nat.zero_le _, rfl, HQ.out⟩
            case round =>
              clear HQ
              obtain ⟨j, hj, rfl, hst⟩ := hrel
              have HQ : Hid (FSt W1 s t n C i j wr) := hst
              have ch := hst.head hli
              rw [hd] at ch
              clear hst
              by_cases hlj : j < d
              · have hlj' : (j : Int) < (d : Int) := by omega
                obtain ⟨x, ce, fe⟩ := HQ.out.one hli (k := j) (by omega)
                go_wp2
                refine ⟨⟨j + 1, by omega, by go_num, HQ.out.set hli (by omega)⟩, by simp [intOf]; omega⟩
              · obtain rfl : j = d := by omega
                subst hd
                have HQ2 : Hid (FSt W1 s t n C (i + 1) 0 wr) := HQ.out.next hli
                clear HQ
                go_wp2
                go_loopw [11] (fun kv wq => ∃ k : Nat, i + 1 ≤ k ∧ k ≤ n ∧ kv = .int .i64 k ∧ FSt W1 s t n C (i + 1) 0 wq) (fun kv _ => n - (intOf kv).toNat)
                case atStart => exact ⟨i + 1, Nat.le_refl _, by omega, by go_num, HQ2.out⟩
                case round =>
                  clear HQ2 ch
                  obtain ⟨k, hk1, hk2, rfl, hst⟩ := hrel
                  have HQ : Hid (FSt W1 s t n C (i + 1) 0 wr) := hst
                  by_cases hlk : k < n
                  · have hlk' : (k : Int) < (n : Int) := by omega
                    have c1 := hst.head hlk
                    have c2 := hst.headA hlk
                    have HSQ : Hid (∀ q, Calls Try.prog 20 #[.slice (some ⟨s + 3 + k, 0, none⟩) (n - k) (n - k), .slice (some ⟨t + 3 + k, 0, none⟩) (n - k) (n - k)] (wr.drewN q) fun e w' => e = .returned (.bool true) ∧ ∃ q2, w' = (wr.drewN q).drewN q2) := fun q => hst.same (by omega) hlk hk1 q
                    clear hst
                    generalize n - k = lk at *
                    go_wp2
                    go_quiet ((go_at_call 20; exact Calls.quiet_of (HSQ.out _)))
                    go_wp2
                    refine ⟨⟨k + 1, by omega, by omega, by go_num, HQ.out.drewN _⟩, by simp [intOf]; omega⟩
                  · obtain rfl : k = n := by omega
                    clear hst
                    go_wp2
                    refine ⟨⟨i + 1, by omega, by go_num, HQ.out⟩, by simp [intOf]; omega⟩
          · obtain rfl : i = n := by omega
            have HQB : Hid (Below W1.heap.size W1 wr) := by have := HQ.out.below; rw [← HQ.out.hs] at this; exact this
            clear HQ
            go_wp2_with fail
            refine (HSF.out wr _ _ _ _ (HG.out.below HQB.out) (HF.out.below HQB.out)).mono ?_; rintro e W5 ⟨rfl, hq⟩
            have HB5 : Hid (Below w.heap.size w W5) := by obtain ⟨q, h⟩ := hq; show Below _ _ _; rw [h]; exact below_drewN (below_on HB.out (Nat.le_refl _) HQB.out) q
            clear hq
            go_wp2
            go_ret
            exact ⟨rfl, HB5.out⟩
      · have HM1 : Hid (∀ (W : World) (a : Option Addr) (c : Nat), Mat W a f → Calls Try.prog 16 #[.slice a n c] W fun e w' => e = .returned (.tuple #[.slice none 0 0, .int .i64 q]) ∧ Below W.heap.size W w') := M1
        clear M1 HMEND
        go_wp2_with fail
        refine (HM1.out W1 _ _ HG.out).mono ?_; rintro e W2 ⟨rfl, hB⟩
        have HB2 : Hid (Below W1.heap.size W1 W2) := hB
        clear hB
        go_wp2_with fail
        refine (HM1.out W2 _ _ (HF.out.below HB2.out)).mono ?_; rintro e W3 ⟨rfl, hB⟩
        have HB3 : Hid (Below W1.heap.size W1 W3) := below_on HB2.out (Nat.le_refl _) hB
        clear hB
        go_wp2_with fail
        refine (fareBegun_any W3).mono ?_; rintro e W4 ⟨rfl, hB⟩
        have HB4 : Hid (Below W1.heap.size W1 W4) := below_on HB3.out (Nat.le_refl _) hB
        clear hB HB2 HB3 HM1
        have hqq : (q != q) = false := by simp
        go_wp2
        go_loopw [9, 10, 11] (fun iv _ _ wr => iv = .int .i64 0 ∧ wr = W4) (fun _ _ _ _ => 0)
        case atStart => exact ⟨rfl, rfl⟩
        case round =>
          obtain ⟨rfl, rfl⟩ := hrel
          go_wp2_with fail
          refine (HSF.out _ _ _ _ _ (HG.out.below HB4.out) (HF.out.below HB4.out)).mono ?_; rintro e W5 ⟨rfl, hq⟩
          have HB5 : Hid (Below w.heap.size w W5) := by obtain ⟨q, h⟩ := hq; show Below _ _ _; rw [h]; exact below_drewN (below_on HB.out (Nat.le_refl _) HB4.out) q
          clear hq
          go_wp2
          go_ret
          exact ⟨rfl, HB5.out⟩
end Go.Proofs.Ytcaibonnkfhkmaa
