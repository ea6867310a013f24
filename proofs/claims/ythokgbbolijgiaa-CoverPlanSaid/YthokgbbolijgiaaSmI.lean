/- The document's word on slices of numbers: are two the same. -/
import Derived.Test.YthokgbbolijgiaaRow1
namespace Go.Proofs.Ythokgbbolijgiaa
open Go.RowKit

set_option maxRecDepth 100000 in
set_option maxHeartbeats 800000 in
theorem sameInts_any (l r : List Int) (a1 a2 : Option Addr) (k1 k2 : Nat) (w : World) (hl : l.length ≤ maxLen) (hr : r.length ≤ maxLen) (h1 : Row1 w a1 l) (h2 : Row1 w a2 r) :
    Calls Try.prog 16 #[.slice a1 l.length k1, .slice a2 r.length k2] w fun e w' => e = .returned (.bool (decide (l = r))) ∧ ∃ q, w' = w.drewN q := by
  unfold maxLen at hl hr
  have HR1 : Hid (Row1 w a1 l) := h1
  have HR2 : Hid (Row1 w a2 r) := h2
  obtain ⟨n, hn⟩ : ∃ n, l.length = n := ⟨_, rfl⟩
  obtain ⟨m, hm⟩ : ∃ m, r.length = m := ⟨_, rfl⟩
  have HN : Hid (l.length = n) := hn
  have HM : Hid (r.length = m) := hm
  rw [hn] at hl
  rw [hm] at hr
  rw [hn, hm]
  clear hn hm h1 h2
  by_cases he : n = m
  · subst he
    have hne : ((n : Int) != (n : Int)) = false := by simp
    go_enter Try.func16, Try.ntmps16
    go_wp2
    go_loopw [5] (fun i wr => ∃ k : Nat, k ≤ n ∧ i = .int .i64 k ∧ (∀ j, j < k → l[j]? = r[j]?) ∧ ∃ q, wr = w.drewN q) (fun i _ => n - (intOf i).toNat)
    case atStart => exact ⟨0, Nat.zero_le _, rfl, fun j hj => by omega, 0, rfl⟩
    case round =>
      obtain ⟨k, hk, rfl, hz, q, rfl⟩ := hrel
      have HZ : Hid (∀ j, j < k → l[j]? = r[j]?) := hz
      clear hz
      by_cases hlt : k < n
      · have hlt' : (k : Int) < (n : Int) := by omega
        obtain ⟨b1, o1, x, rfl, hb1, hx, c1⟩ := HR1.out.at (k := k) (by rw [HN.out]; exact hlt)
        obtain ⟨b2, o2, y, rfl, hb2, hy, c2⟩ := HR2.out.at (k := k) (by rw [HM.out]; exact hlt)
        have HX : Hid (l[k]? = some x) := hx
        have HY : Hid (r[k]? = some y) := hy
        clear hx hy
        by_cases hxy : x = y
        · have hxy' : (x != y) = false := by simpa using hxy
          have HZ2 : Hid (∀ j, j < k + 1 → l[j]? = r[j]?) := by
            intro j hj
            by_cases c : j = k
            · subst c; rw [HX.out, HY.out, hxy]
            · exact HZ.out j (by omega)
          clear hxy
          go_wp2
          try go_quiet (fail)
          try go_wp2
          refine ⟨⟨k + 1, by omega, by go_num, HZ2.out, _, (by first | rfl | exact World.drewN_drewN _ _ _)⟩, by simp [intOf]; omega⟩
        · have hxy' : (x != y) = true := by simpa using hxy
          have HEE : Hid (decide (l = r) = false) := by
            show _ = _
            rw [decide_eq_false_iff_not]
            rintro rfl
            exact hxy (Option.some.inj (HX.out.symm.trans HY.out))
          clear hxy
          go_wp2
          try go_quiet (fail)
          try go_wp2
          go_ret
          exact ⟨ret_bool HEE.out.symm, _, (by first | rfl | exact World.drewN_drewN _ _ _)⟩
      · obtain rfl : n = k := by omega
        have HEE : Hid (decide (l = r) = true) := by
          show _ = _
          rw [decide_eq_true_iff]
          apply List.ext_getElem?
          intro j
          by_cases c : j < n
          · exact HZ.out j c
          · rw [List.getElem?_eq_none (by rw [HN.out]; omega), List.getElem?_eq_none (by rw [HM.out]; omega)]
        go_wp2
        go_ret
        exact ⟨ret_bool HEE.out.symm, _, rfl⟩
  · have hne : ((n : Int) != (m : Int)) = true := by simp; omega
    have HEE : Hid (decide (l = r) = false) := by
      show _ = _
      rw [decide_eq_false_iff_not]
      rintro rfl
      exact he (HN.out.symm.trans HM.out)
    go_enter Try.func16, Try.ntmps16
    go_wp2
    go_ret
    exact ⟨ret_bool HEE.out.symm, 0, rfl⟩
end Go.Proofs.Ythokgbbolijgiaa
