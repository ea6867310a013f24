/- The walk of LedgerZero. -/
import Derived.Test.YtdebhcdmbijanaaLgAt
namespace Go.Proofs.Ytdebhcdmbijanaa
open Go.RowKit Go.BigFrame

namespace Lg
def upto (l : List Ps) : Nat → Int
  | 0 => 0
  | k + 1 => upto l k + bal l (k + 1 : Nat)
theorem upto_five (l : List Ps) (h : ∀ p ∈ l, POk p) : upto l 5 = 0 := by
  have := bal_all l h
  show 0 + bal l 1 + bal l 2 + bal l 3 + bal l 4 + bal l 5 = 0
  omega
theorem upto_bd (l : List Ps) (h : LOk l) (k : Nat) : -(k * 659706976665600) ≤ upto l k ∧ upto l k ≤ k * 659706976665600 := by
  induction k with
  | zero => unfold upto; simp
  | succ k ih =>
    have := bal_bd l (k + 1 : Nat) h.each
    have := h.len
    unfold upto
    omega
end Lg
set_option maxRecDepth 100000 in
set_option maxHeartbeats 4000000 in
theorem ledgerZero_any (l : List Lg.Ps) (a : Option Addr) (cap : Nat) (w : World) (hL : Ldg w a l.length cap l) :
    Calls Try.prog 4 #[.slice a l.length cap] w fun e w' => e = .returned (.bool true) ∧ Below w.heap.size w w' := by
  have L : Hid (Ldg w a l.length cap l) := hL
  obtain ⟨n, hn⟩ : ∃ n, l.length = n := ⟨_, rfl⟩
  rw [hn] at L ⊢
  clear hL hn
  by_cases h : Lg.chk l = 0
  · have HC : Hid (Lg.chk l = 0) := h
    have HLO : Hid (Lg.LOk l) := (Lg.chk_ok l).1 h
    clear h
    go_enter Try.func4, Try.ntmps4
    go_wp2_with fail
    refine (lbegun_any _).mono ?_
    rintro e w1 ⟨rfl, hb⟩
    have B1 : Hid (Below w.heap.size w w1) := hb
    have L : Hid (Ldg w1 a n cap l) := L.out.below hb
    clear hb
    go_wp2_with fail
    refine (lCheck_at L.out 0 HC.out).mono ?_
    rintro e w2 ⟨rfl, hb⟩
    have B2 : Hid (Below w.heap.size w w2) := below_on B1.out (Nat.le_refl _) hb
    have L : Hid (Ldg w2 a n cap l) := L.out.below hb
    clear hb
    go_wp2
    go_loopw [3, 4] (fun sv iv wr => ∃ k : Nat, k ≤ 5 ∧ iv = .int .i64 (k + 1 : Nat) ∧ sv = .int .i64 (Lg.upto l k) ∧ Below w2.heap.size w2 wr) (fun _ iv _ => 6 - (intOf iv).toNat)
    case atStart => exact ⟨0, by omega, rfl, rfl, Below.refl _ _⟩
    case round =>
      obtain ⟨k, hk, rfl, rfl, hb⟩ := hrel
      have HB : Hid (Below w2.heap.size w2 wr) := hb
      have BW : Hid (Below w.heap.size w wr) := below_on B2.out (Nat.le_refl _) hb
      clear hb
      by_cases hlt : k < 5
      · have hlt' : ((k + 1 : Nat) : Int) ≤ 5 := by omega
        have hlo := Lg.upto_bd l HLO.out k
        have hbb := Lg.bal_bd l (k + 1 : Nat) HLO.out.each
        have h100 := HLO.out.len
        have HU : Hid (Lg.upto l (k + 1) = Lg.upto l k + Lg.bal l (k + 1 : Nat)) := rfl
        obtain ⟨s, hs⟩ : ∃ s, Lg.upto l k = s := ⟨_, rfl⟩
        obtain ⟨v, hv⟩ : ∃ v, Lg.bal l (k + 1 : Nat) = v := ⟨_, rfl⟩
        rw [hs, hv] at HU
        rw [hs] at hlo ⊢
        have HV : Hid (Lg.balV l (k + 1 : Nat) = v ∧ Lg.balC l (k + 1 : Nat) = 0) := by
          have := Lg.balV_in (a := (k + 1 : Nat)) HC.out (by omega)
          rw [hv] at this; exact this
        rw [hv] at hbb
        have s1 : -(9000000000000000 : Int) ≤ s + v := by omega
        have s2 : s + v ≤ 9000000000000000 := by omega
        clear hlo hbb h100 hs hv
        go_wp2_with fail
        refine (lBalance_at (L.out.below HB.out) (k + 1 : Nat) v 0 HV.out.1 HV.out.2).mono ?_
        rintro e w3 ⟨rfl, hb⟩
        have B3 : Hid (Below w2.heap.size w2 w3) := below_on HB.out (Nat.le_refl _) hb
        clear hb
        go_wp2
        go_round
        case rel => exact ⟨k + 1, by omega, by go_num, by rw [HU.out], B3.out⟩
        case measure => simp [intOf]; omega
      · obtain rfl : k = 5 := by omega
        have HU : Hid (Lg.upto l 5 = 0) := Lg.upto_five l HLO.out.each
        rw [HU.out]
        go_wp2
        go_ret
        exact ⟨rfl, BW.out⟩
  · obtain ⟨c, hc⟩ : ∃ c, Lg.chk l = c := ⟨_, rfl⟩
    have HC : Hid (Lg.chk l = c) := hc
    have hcn : (c != 0) = true := by rw [← hc]; simpa using h
    clear h hc
    go_enter Try.func4, Try.ntmps4
    go_wp2_with fail
    refine (lbegun_any _).mono ?_
    rintro e w1 ⟨rfl, hb⟩
    have B1 : Hid (Below w.heap.size w w1) := hb
    have L : Hid (Ldg w1 a n cap l) := L.out.below hb
    clear hb
    go_wp2_with fail
    refine (lCheck_at L.out c HC.out).mono ?_
    rintro e w2 ⟨rfl, hb⟩
    have B2 : Hid (Below w.heap.size w w2) := below_on B1.out (Nat.le_refl _) hb
    clear hb
    go_wp2
    go_ret
    exact ⟨rfl, B2.out⟩
end Go.Proofs.Ytdebhcdmbijanaa
