/- The walks of the document's words on fares: are two of them one; is none dearer. -/
import Derived.Test.YtcaibonnkfhkmaaFSm
namespace Go.Proofs.Ytcaibonnkfhkmaa
open Go.RowKit

set_option maxRecDepth 100000 in
set_option maxHeartbeats 800000 in
theorem sameFares_any (f g : List (List Int)) (a1 a2 : Option Addr) (k1 k2 : Nat) (w : World) (hl : f.length ≤ maxLen) (hr : g.length ≤ maxLen) (h1 : Mat w a1 f) (h2 : Mat w a2 g) :
    Calls Try.prog 18 #[.slice a1 f.length k1, .slice a2 g.length k2] w fun e w' => e = .returned (.bool (decide (f = g))) ∧ ∃ q, w' = w.drewN q := by
  unfold maxLen at hl hr
  have HR1 : Hid (Mat w a1 f) := h1
  have HR2 : Hid (Mat w a2 g) := h2
  obtain ⟨n, hn⟩ : ∃ n, f.length = n := ⟨_, rfl⟩
  obtain ⟨m, hm⟩ : ∃ m, g.length = m := ⟨_, rfl⟩
  have HN : Hid (f.length = n) := hn
  have HM : Hid (g.length = m) := hm
  rw [hn] at hl
  rw [hm] at hr
  rw [hn, hm]
  clear hn hm h1 h2
  by_cases he : n = m
  · subst he
    have hne : ((n : Int) != (n : Int)) = false := by simp
    go_enter Try.func18, Try.ntmps18
    go_wp2
    go_loopw [5] (fun i wr => ∃ k : Nat, k ≤ n ∧ i = .int .i64 k ∧ (∀ j, j < k → f.getD j [] = g.getD j []) ∧ ∃ q, wr = w.drewN q) (fun i _ => n - (intOf i).toNat)
    case atStart => exact ⟨0, Nat.zero_le _, rfl, fun j hj => by omega, 0, rfl⟩
    case round =>
      obtain ⟨k, hk, rfl, hz, hwr⟩ := hrel
      have HWR : Hid (∃ q, wr = w.drewN q) := hwr
      have HQ1 : Hid (Mat wr a1 f) := by obtain ⟨q, h⟩ := hwr; show Mat _ _ _; rw [h]; exact HR1.out.below (below_drewN (Below.refl _ _) q)
      have HQ2 : Hid (Mat wr a2 g) := by obtain ⟨q, h⟩ := hwr; show Mat _ _ _; rw [h]; exact HR2.out.below (below_drewN (Below.refl _ _) q)
      clear hwr
      have HZ : Hid (∀ j, j < k → f.getD j [] = g.getD j []) := hz
      clear hz
      by_cases hlt : k < n
      · have hlt' : (k : Int) < (n : Int) := by omega
        obtain ⟨b1, o1, r1, ci1, rfl, hb1, c1, hx, hxl⟩ := HQ1.out.at (k := k) (by rw [HN.out]; exact hlt)
        obtain ⟨b2, o2, r2, ci2, rfl, hb2, c2, hy, hyl⟩ := HQ2.out.at (k := k) (by rw [HM.out]; exact hlt)
        have HF : Hid (∀ x, x = f.getD k [] → ∀ y, y = g.getD k [] → (x = y → ∀ j, j < k + 1 → f.getD j [] = g.getD j []) ∧ (x ≠ y → f ≠ g)) := by
          rintro x rfl y rfl
          refine ⟨fun e j hj => ?_, fun e h => e (by rw [h])⟩
          by_cases c : j = k
          · subst c; exact e
          · exact HZ.out j (by omega)
        have HSI : Hid (∀ W : World, Row1 W r1 (f.getD k []) → Row1 W r2 (g.getD k []) → Calls Try.prog 20 #[.slice r1 (f.getD k []).length ci1, .slice r2 (g.getD k []).length ci2] W fun e w' => e = .returned (.bool (decide (f.getD k [] = g.getD k []))) ∧ ∃ q, w' = W.drewN q) := fun W h1 h2 => sameInts_any _ _ _ _ _ _ W hxl hyl h1 h2
        have HXR : Hid (∀ m, Row1 (wr.drewN m) r1 (f.getD k [])) := fun m => hx.below (below_drewN (Below.refl _ _) m)
        have HYR : Hid (∀ m, Row1 (wr.drewN m) r2 (g.getD k [])) := fun m => hy.below (below_drewN (Below.refl _ _) m)
        have HFF := HF.out _ rfl _ rfl
        clear hx hy HF
        generalize f.getD k [] = x at *
        generalize g.getD k [] = y at *
        have HFF' : Hid ((x = y → ∀ j, j < k + 1 → f.getD j [] = g.getD j []) ∧ (x ≠ y → f ≠ g)) := HFF
        clear HFF
        by_cases hxy : x = y
        · skip
          have HSQ : Hid (∀ m, Calls Try.prog 20 #[.slice r1 x.length ci1, .slice r2 y.length ci2] (wr.drewN m) fun e w' => e = .returned (.bool true) ∧ ∃ q, w' = (wr.drewN m).drewN q) := fun m => by
            have := HSI.out (wr.drewN m) (HXR.out m) (HYR.out m)
            rwa [decide_eq_true hxy] at this
          have HZ2 : Hid (∀ j, j < k + 1 → f.getD j [] = g.getD j []) := HFF'.out.1 hxy
          clear HSI HXR HYR HFF' hxy
          generalize x.length = lx at *
          generalize y.length = ly at *
          go_wp2
          go_quiet ((go_at_call 20; exact Calls.quiet_of (HSQ.out _)))
          go_wp2
          refine ⟨⟨k + 1, by omega, by go_num, HZ2.out, ?_⟩, by simp [intOf]; omega⟩
          obtain ⟨q, h⟩ := HWR.out
          exact ⟨q + nq, by rw [h, World.drewN_drewN]⟩
        · skip
          have HSQ : Hid (∀ m, Calls Try.prog 20 #[.slice r1 x.length ci1, .slice r2 y.length ci2] (wr.drewN m) fun e w' => e = .returned (.bool false) ∧ ∃ q, w' = (wr.drewN m).drewN q) := fun m => by
            have := HSI.out (wr.drewN m) (HXR.out m) (HYR.out m)
            rwa [decide_eq_false hxy] at this
          have HEE : Hid (decide (f = g) = false) := decide_eq_false (HFF'.out.2 hxy)
          clear HSI HXR HYR HFF' hxy
          generalize x.length = lx at *
          generalize y.length = ly at *
          go_wp2
          go_quiet ((go_at_call 20; exact Calls.quiet_of (HSQ.out _)))
          go_wp2
          go_ret
          refine ⟨ret_bool HEE.out.symm, ?_⟩
          obtain ⟨q, h⟩ := HWR.out
          exact ⟨q + nq, by rw [h, World.drewN_drewN]⟩
      · obtain rfl : n = k := by omega
        have HEE : Hid (decide (f = g) = true) := by
          show _ = _
          rw [decide_eq_true_iff]
          apply List.ext_getElem?
          intro j
          by_cases c : j < n
          · have := HZ.out j c
            rw [List.getD_eq_getElem?_getD, List.getD_eq_getElem?_getD, List.getElem?_eq_getElem (by rw [HN.out]; exact c), List.getElem?_eq_getElem (by rw [HM.out]; exact c)] at this
            rw [List.getElem?_eq_getElem (by rw [HN.out]; exact c), List.getElem?_eq_getElem (by rw [HM.out]; exact c)]
            exact congrArg some this
          · rw [List.getElem?_eq_none (by rw [HN.out]; omega), List.getElem?_eq_none (by rw [HM.out]; omega)]
        go_wp2
        go_ret
        exact ⟨ret_bool HEE.out.symm, HWR.out⟩
  · have hne : ((n : Int) != (m : Int)) = true := by simp; omega
    have HEE : Hid (decide (f = g) = false) := by
      show _ = _
      rw [decide_eq_false_iff_not]
      rintro rfl
      exact he (HN.out.symm.trans HM.out)
    go_enter Try.func18, Try.ntmps18
    go_wp2
    go_ret
    exact ⟨ret_bool HEE.out.symm, 0, rfl⟩
end Go.Proofs.Ytcaibonnkfhkmaa
