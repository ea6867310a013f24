/- The walk of LedgerOnce. -/
import Derived.Test.YtdebhcdmbijanaaLgAt
namespace Go.Proofs.Ytdebhcdmbijanaa
open Go.RowKit Go.BigFrame

theorem Ldg.one (w : World) (id : Int) (ls : List Lg.Ln) (pa : Option Addr) (q pc : Nat) (hq : ls.length = q) (hpl : ls.length ≤ maxLen ∧ ls.length ≤ pc) (hpr : RowL w pa ls) :
    Ldg (w.alloc (.cells #[.int .i64 id, .slice pa q pc] 25)) (some ⟨w.heap.size, 0, none⟩) 1 1 [(id, ls)] := by
  subst hq
  have B : Below w.heap.size w (w.alloc (.cells #[.int .i64 id, .slice pa ls.length pc] 25)) := below_box w _
  refine ⟨rfl, ⟨by unfold maxLen; simp, Nat.le_refl _⟩, (fun e => by cases e), ?_, ?_⟩
  · intro p hp
    rw [List.mem_singleton] at hp; subst hp
    exact hpl.1
  · refine ⟨[(id, .slice pa ls.length pc)], ⟨rfl, fun i u p hu hp => ?_⟩, .inr ⟨w.heap.size, 0, rfl, by simp, fun j u hj => ?_⟩⟩
    · cases i with
      | zero => simp at hu hp; subst hu hp; exact ⟨rfl, pa, pc, rfl, hpl.2, hpr.below B⟩
      | succ i => simp at hu
    · match j, hj with
      | 0, hj => simp [flatP] at hj; subst hj; simp
      | 1, hj => simp [flatP] at hj; subst hj; simp
      | j + 2, hj => simp [flatP] at hj
set_option maxRecDepth 100000 in
set_option maxHeartbeats 4000000 in
theorem lo_bad (l : List Lg.Ps) (a : Option Addr) (cap : Nat) (id : Int) (ls : List Lg.Ln) (pa : Option Addr) (pc : Nat) (acc : Int) (w : World) (hL : Ldg w a l.length cap l) (hpl : ls.length ≤ maxLen ∧ ls.length ≤ pc) (hpr : RowL w pa ls) (c : Int) (A : List Lg.Ps) (hA : Lg.post l (id, ls) = (A, c)) (h0 : c ≠ 0) :
    Calls Try.prog 5 #[.slice a l.length cap, .agg #[.int .i64 id, .slice pa ls.length pc], .int .i64 acc] w fun e w' => e = .returned (.bool true) ∧ Below w.heap.size w w' := by
  have L : Hid (Ldg w a l.length cap l) := hL
  have P : Hid (RowL w pa ls) := hpr
  have HPL : Hid (ls.length ≤ maxLen ∧ ls.length ≤ pc) := hpl
  obtain rfl : A = [] := by have := Lg.post_err l (id, ls) (by rw [hA]; exact h0); rw [hA] at this; exact this
  have hcn : (c != 0) = true := by simpa using h0
  have hp1 := Lg.post_len l (id, ls)
  rw [hA] at hp1
  simp only at hp1
  have HA : Hid (Lg.post l (id, ls) = (([] : List Lg.Ps), c)) := hA
  have HAL : Hid ((([] : List Lg.Ps)).length ≤ maxLen) := Nat.le_trans hp1 mL
  obtain ⟨n, hn⟩ : ∃ n, l.length = n := ⟨_, rfl⟩
  obtain ⟨m, hm⟩ : ∃ m, ls.length = m := ⟨_, rfl⟩
  have HM : Hid (ls.length = m) := hm
  rw [hn] at L
  rw [hn, hm]
  have B0 : Hid (Below w.heap.size w (w.alloc (.cells #[.int .i64 id, .slice pa m pc] 25))) := below_box w _
  have L : Hid (Ldg (w.alloc (.cells #[.int .i64 id, .slice pa m pc] 25)) a n cap l) := L.out.below B0.out
  have P : Hid (RowL (w.alloc (.cells #[.int .i64 id, .slice pa m pc] 25)) pa ls) := P.out.below B0.out
  have PB : Hid (Blk2 (w.alloc (.cells #[.int .i64 id, .slice pa m pc] 25)) w.heap.size (.int .i64 id) (.slice pa m pc)) := Blk2.new _ _ _ _
  clear hA hp1 hL hpl hpr hn hm h0
  go_enter Try.func5, Try.ntmps5
  go_wp2_with fail
  refine (lPost_at L.out id ls pa m pc ([] : List Lg.Ps) c HM.out HPL.out P.out HA.out HAL.out).mono ?_
  rintro e w1 ⟨Aa, Ac, rfl, hl, hb⟩
  have B1 : Hid (Below w.heap.size w w1) := below_on B0.out (Nat.le_refl _) hb
  have L : Hid (Ldg w1 a n cap l) := L.out.below hb
  have P : Hid (RowL w1 pa ls) := P.out.below hb
  have PB : Hid (Blk2 w1 w.heap.size (.int .i64 id) (.slice pa m pc)) := PB.out.below hb
  have LA : Hid (Ldg w1 Aa ([] : List Lg.Ps).length Ac ([] : List Lg.Ps)) := by have := hl; exact this
  clear hb hl
  go_wp2_with fail
  refine (lbegun_any _).mono ?_
  rintro e w2 ⟨rfl, hb⟩
  have B2 : Hid (Below w.heap.size w w2) := below_on B1.out (Nat.le_refl _) hb
  have L : Hid (Ldg w2 a n cap l) := L.out.below hb
  have P : Hid (RowL w2 pa ls) := P.out.below hb
  have PB : Hid (Blk2 w2 w.heap.size (.int .i64 id) (.slice pa m pc)) := PB.out.below hb
  have LA : Hid (Ldg w2 Aa ([] : List Lg.Ps).length Ac ([] : List Lg.Ps)) := LA.out.below hb
  clear hb
  go_wp2
  go_ret
  exact ⟨rfl, B2.out⟩
set_option maxRecDepth 100000 in
set_option maxHeartbeats 4000000 in
theorem lo_out (l : List Lg.Ps) (a : Option Addr) (cap : Nat) (id : Int) (ls : List Lg.Ln) (pa : Option Addr) (pc : Nat) (acc : Int) (w : World) (hL : Ldg w a l.length cap l) (hpl : ls.length ≤ maxLen ∧ ls.length ≤ pc) (hpr : RowL w pa ls) (A : List Lg.Ps) (hA : Lg.post l (id, ls) = (A, 0)) (ha : acc < 1 ∨ 5 < acc) :
    Calls Try.prog 5 #[.slice a l.length cap, .agg #[.int .i64 id, .slice pa ls.length pc], .int .i64 acc] w fun e w' => e = .returned (.bool true) ∧ Below w.heap.size w w' := by
  have L : Hid (Ldg w a l.length cap l) := hL
  have P : Hid (RowL w pa ls) := hpr
  have HPL : Hid (ls.length ≤ maxLen ∧ ls.length ≤ pc) := hpl
  have HCl : Hid (Lg.chk l = 0) := (Lg.chk_ok l).2 (Lg.post_cases hA).1
  have HCA : Hid (Lg.chk A = 0) := (Lg.chk_ok _).2 (Lg.post_ok hA).1
  have HA2 : Hid (Lg.post A (id, ls) = (A, 0)) := Lg.post_again hA
  have hp1 := Lg.post_len l (id, ls)
  rw [hA] at hp1
  simp only at hp1
  have HA : Hid (Lg.post l (id, ls) = (A, 0)) := hA
  have HAL : Hid ((A).length ≤ maxLen) := Nat.le_trans hp1 mL
  have HVl : Hid (Lg.balV l acc = 0 ∧ Lg.balC l acc = 7) := Lg.balV_out HCl.out ha
  have HVA : Hid (Lg.balV A acc = 0 ∧ Lg.balC A acc = 7) := Lg.balV_out HCA.out ha
  clear ha
  obtain ⟨n, hn⟩ : ∃ n, l.length = n := ⟨_, rfl⟩
  obtain ⟨m, hm⟩ : ∃ m, ls.length = m := ⟨_, rfl⟩
  have HM : Hid (ls.length = m) := hm
  rw [hn] at L
  rw [hn, hm]
  have B0 : Hid (Below w.heap.size w (w.alloc (.cells #[.int .i64 id, .slice pa m pc] 25))) := below_box w _
  have L : Hid (Ldg (w.alloc (.cells #[.int .i64 id, .slice pa m pc] 25)) a n cap l) := L.out.below B0.out
  have P : Hid (RowL (w.alloc (.cells #[.int .i64 id, .slice pa m pc] 25)) pa ls) := P.out.below B0.out
  have PB : Hid (Blk2 (w.alloc (.cells #[.int .i64 id, .slice pa m pc] 25)) w.heap.size (.int .i64 id) (.slice pa m pc)) := Blk2.new _ _ _ _
  clear hA hp1 hL hpl hpr hn hm
  go_enter Try.func5, Try.ntmps5
  go_wp2_with fail
  refine (lPost_at L.out id ls pa m pc A 0 HM.out HPL.out P.out HA.out HAL.out).mono ?_
  rintro e w1 ⟨Aa, Ac, rfl, hl, hb⟩
  have B1 : Hid (Below w.heap.size w w1) := below_on B0.out (Nat.le_refl _) hb
  have L : Hid (Ldg w1 a n cap l) := L.out.below hb
  have P : Hid (RowL w1 pa ls) := P.out.below hb
  have PB : Hid (Blk2 w1 w.heap.size (.int .i64 id) (.slice pa m pc)) := PB.out.below hb
  have LA : Hid (Ldg w1 Aa A.length Ac A) := by have := hl; exact this
  clear hb hl
  go_wp2_with fail
  refine (lbegun_any _).mono ?_
  rintro e w2 ⟨rfl, hb⟩
  have B2 : Hid (Below w.heap.size w w2) := below_on B1.out (Nat.le_refl _) hb
  have L : Hid (Ldg w2 a n cap l) := L.out.below hb
  have P : Hid (RowL w2 pa ls) := P.out.below hb
  have PB : Hid (Blk2 w2 w.heap.size (.int .i64 id) (.slice pa m pc)) := PB.out.below hb
  have LA : Hid (Ldg w2 Aa A.length Ac A) := LA.out.below hb
  clear hb
  have k0 := PB.out.2.1
  have k1 := PB.out.2.2.1
  go_wp2_with fail
  refine (lPost_at LA.out id ls pa m pc A 0 HM.out HPL.out P.out HA2.out HAL.out).mono ?_
  rintro e w3 ⟨Ba, Bc, rfl, hl, hb⟩
  have B3 : Hid (Below w.heap.size w w3) := below_on B2.out (Nat.le_refl _) hb
  have L : Hid (Ldg w3 a n cap l) := L.out.below hb
  have P : Hid (RowL w3 pa ls) := P.out.below hb
  have PB : Hid (Blk2 w3 w.heap.size (.int .i64 id) (.slice pa m pc)) := PB.out.below hb
  have LA : Hid (Ldg w3 Aa A.length Ac A) := LA.out.below hb
  have LB : Hid (Ldg w3 Ba A.length Bc A) := by have := hl; exact this
  clear hb hl
  clear k0 k1
  go_wp2_with fail
  refine (sameLedger_at LA.out LB.out true (by simp)).mono ?_
  rintro e w4 ⟨rfl, hb⟩
  have B4 : Hid (Below w.heap.size w w4) := below_on B3.out (Nat.le_refl _) hb
  have L : Hid (Ldg w4 a n cap l) := L.out.below hb
  have P : Hid (RowL w4 pa ls) := P.out.below hb
  have PB : Hid (Blk2 w4 w.heap.size (.int .i64 id) (.slice pa m pc)) := PB.out.below hb
  have LA : Hid (Ldg w4 Aa A.length Ac A) := LA.out.below hb
  have LB : Hid (Ldg w4 Ba A.length Bc A) := LB.out.below hb
  clear hb
  go_wp2_with fail
  refine (lCheck_at LA.out 0 HCA.out).mono ?_
  rintro e w5 ⟨rfl, hb⟩
  have B5 : Hid (Below w.heap.size w w5) := below_on B4.out (Nat.le_refl _) hb
  have L : Hid (Ldg w5 a n cap l) := L.out.below hb
  have P : Hid (RowL w5 pa ls) := P.out.below hb
  have PB : Hid (Blk2 w5 w.heap.size (.int .i64 id) (.slice pa m pc)) := PB.out.below hb
  have LA : Hid (Ldg w5 Aa A.length Ac A) := LA.out.below hb
  have LB : Hid (Ldg w5 Ba A.length Bc A) := LB.out.below hb
  clear hb
  go_wp2_with fail
  refine (lBalance_at L.out acc 0 7 HVl.out.1 HVl.out.2).mono ?_
  rintro e w6 ⟨rfl, hb⟩
  have B6 : Hid (Below w.heap.size w w6) := below_on B5.out (Nat.le_refl _) hb
  have L : Hid (Ldg w6 a n cap l) := L.out.below hb
  have P : Hid (RowL w6 pa ls) := P.out.below hb
  have PB : Hid (Blk2 w6 w.heap.size (.int .i64 id) (.slice pa m pc)) := PB.out.below hb
  have LA : Hid (Ldg w6 Aa A.length Ac A) := LA.out.below hb
  have LB : Hid (Ldg w6 Ba A.length Bc A) := LB.out.below hb
  clear hb
  go_wp2_with fail
  refine (lBalance_at LA.out acc 0 7 HVA.out.1 HVA.out.2).mono ?_
  rintro e w7 ⟨rfl, hb⟩
  have B7 : Hid (Below w.heap.size w w7) := below_on B6.out (Nat.le_refl _) hb
  have L : Hid (Ldg w7 a n cap l) := L.out.below hb
  have P : Hid (RowL w7 pa ls) := P.out.below hb
  have PB : Hid (Blk2 w7 w.heap.size (.int .i64 id) (.slice pa m pc)) := PB.out.below hb
  have LA : Hid (Ldg w7 Aa A.length Ac A) := LA.out.below hb
  have LB : Hid (Ldg w7 Ba A.length Bc A) := LB.out.below hb
  clear hb
  go_wp2
  go_ret
  exact ⟨rfl, B7.out⟩
set_option maxRecDepth 100000 in
set_option maxHeartbeats 4000000 in
theorem lo_same (l : List Lg.Ps) (a : Option Addr) (cap : Nat) (id : Int) (ls : List Lg.Ln) (pa : Option Addr) (pc : Nat) (acc : Int) (w : World) (hL : Ldg w a l.length cap l) (hpl : ls.length ≤ maxLen ∧ ls.length ≤ pc) (hpr : RowL w pa ls) (hA : Lg.post l (id, ls) = (l, 0)) (ha : 1 ≤ acc ∧ acc ≤ 5) :
    Calls Try.prog 5 #[.slice a l.length cap, .agg #[.int .i64 id, .slice pa ls.length pc], .int .i64 acc] w fun e w' => e = .returned (.bool true) ∧ Below w.heap.size w w' := by
  have L : Hid (Ldg w a l.length cap l) := hL
  have P : Hid (RowL w pa ls) := hpr
  have HPL : Hid (ls.length ≤ maxLen ∧ ls.length ≤ pc) := hpl
  have HCl : Hid (Lg.chk l = 0) := (Lg.chk_ok l).2 (Lg.post_cases hA).1
  have HCA : Hid (Lg.chk l = 0) := (Lg.chk_ok _).2 (Lg.post_ok hA).1
  have HA2 : Hid (Lg.post l (id, ls) = (l, 0)) := Lg.post_again hA
  have hp1 := Lg.post_len l (id, ls)
  rw [hA] at hp1
  simp only at hp1
  have HA : Hid (Lg.post l (id, ls) = (l, 0)) := hA
  have HAL : Hid ((l).length ≤ maxLen) := Nat.le_trans hp1 mL
  have hbd := Lg.bal_bd l acc (Lg.post_cases hA).1.each
  have hl100 := (Lg.post_cases hA).1.len
  obtain ⟨v, hv⟩ : ∃ v, Lg.bal l acc = v := ⟨_, rfl⟩
  rw [hv] at hbd
  have HVl : Hid (Lg.balV l acc = v ∧ Lg.balC l acc = 0) := by have := Lg.balV_in (a := acc) HCl.out (by omega); rw [hv] at this; exact this
  have HVA := HVl
  have t1 : (-(9000000000000000 : Int)) ≤ v := by omega
  have t2 : v ≤ 9000000000000000 := by omega
  clear hv hbd hl100 ha
  obtain ⟨n, hn⟩ : ∃ n, l.length = n := ⟨_, rfl⟩
  obtain ⟨m, hm⟩ : ∃ m, ls.length = m := ⟨_, rfl⟩
  have HM : Hid (ls.length = m) := hm
  have HAN : Hid (l.length = n) := hn
  have hmx : n ≤ 100 := by rw [hn] at hp1; exact hp1
  rw [hn] at L
  rw [hn, hm]
  have B0 : Hid (Below w.heap.size w (w.alloc (.cells #[.int .i64 id, .slice pa m pc] 25))) := below_box w _
  have L : Hid (Ldg (w.alloc (.cells #[.int .i64 id, .slice pa m pc] 25)) a n cap l) := L.out.below B0.out
  have P : Hid (RowL (w.alloc (.cells #[.int .i64 id, .slice pa m pc] 25)) pa ls) := P.out.below B0.out
  have PB : Hid (Blk2 (w.alloc (.cells #[.int .i64 id, .slice pa m pc] 25)) w.heap.size (.int .i64 id) (.slice pa m pc)) := Blk2.new _ _ _ _
  clear hA hp1 hL hpl hpr hn hm
  go_enter Try.func5, Try.ntmps5
  go_wp2_with fail
  refine (lPost_at L.out id ls pa m pc l 0 HM.out HPL.out P.out HA.out HAL.out).mono ?_
  rintro e w1 ⟨Aa, Ac, rfl, hl, hb⟩
  have B1 : Hid (Below w.heap.size w w1) := below_on B0.out (Nat.le_refl _) hb
  have L : Hid (Ldg w1 a n cap l) := L.out.below hb
  have P : Hid (RowL w1 pa ls) := P.out.below hb
  have PB : Hid (Blk2 w1 w.heap.size (.int .i64 id) (.slice pa m pc)) := PB.out.below hb
  have LA : Hid (Ldg w1 Aa n Ac l) := by have := hl; rw [HAN.out] at this; exact this
  clear hb hl
  rw [HAN.out]
  go_wp2_with fail
  refine (lbegun_any _).mono ?_
  rintro e w2 ⟨rfl, hb⟩
  have B2 : Hid (Below w.heap.size w w2) := below_on B1.out (Nat.le_refl _) hb
  have L : Hid (Ldg w2 a n cap l) := L.out.below hb
  have P : Hid (RowL w2 pa ls) := P.out.below hb
  have PB : Hid (Blk2 w2 w.heap.size (.int .i64 id) (.slice pa m pc)) := PB.out.below hb
  have LA : Hid (Ldg w2 Aa n Ac l) := LA.out.below hb
  clear hb
  have k0 := PB.out.2.1
  have k1 := PB.out.2.2.1
  go_wp2_with fail
  refine (lPost_at LA.out id ls pa m pc l 0 HM.out HPL.out P.out HA2.out HAL.out).mono ?_
  rintro e w3 ⟨Ba, Bc, rfl, hl, hb⟩
  have B3 : Hid (Below w.heap.size w w3) := below_on B2.out (Nat.le_refl _) hb
  have L : Hid (Ldg w3 a n cap l) := L.out.below hb
  have P : Hid (RowL w3 pa ls) := P.out.below hb
  have PB : Hid (Blk2 w3 w.heap.size (.int .i64 id) (.slice pa m pc)) := PB.out.below hb
  have LA : Hid (Ldg w3 Aa n Ac l) := LA.out.below hb
  have LB : Hid (Ldg w3 Ba n Bc l) := by have := hl; rw [HAN.out] at this; exact this
  clear hb hl
  rw [HAN.out]
  clear k0 k1
  go_wp2_with fail
  refine (sameLedger_at LA.out LB.out true (by simp)).mono ?_
  rintro e w4 ⟨rfl, hb⟩
  have B4 : Hid (Below w.heap.size w w4) := below_on B3.out (Nat.le_refl _) hb
  have L : Hid (Ldg w4 a n cap l) := L.out.below hb
  have P : Hid (RowL w4 pa ls) := P.out.below hb
  have PB : Hid (Blk2 w4 w.heap.size (.int .i64 id) (.slice pa m pc)) := PB.out.below hb
  have LA : Hid (Ldg w4 Aa n Ac l) := LA.out.below hb
  have LB : Hid (Ldg w4 Ba n Bc l) := LB.out.below hb
  clear hb
  go_wp2_with fail
  refine (lCheck_at LA.out 0 HCA.out).mono ?_
  rintro e w5 ⟨rfl, hb⟩
  have B5 : Hid (Below w.heap.size w w5) := below_on B4.out (Nat.le_refl _) hb
  have L : Hid (Ldg w5 a n cap l) := L.out.below hb
  have P : Hid (RowL w5 pa ls) := P.out.below hb
  have PB : Hid (Blk2 w5 w.heap.size (.int .i64 id) (.slice pa m pc)) := PB.out.below hb
  have LA : Hid (Ldg w5 Aa n Ac l) := LA.out.below hb
  have LB : Hid (Ldg w5 Ba n Bc l) := LB.out.below hb
  clear hb
  go_wp2_with fail
  refine (lBalance_at L.out acc v 0 HVl.out.1 HVl.out.2).mono ?_
  rintro e w6 ⟨rfl, hb⟩
  have B6 : Hid (Below w.heap.size w w6) := below_on B5.out (Nat.le_refl _) hb
  have L : Hid (Ldg w6 a n cap l) := L.out.below hb
  have P : Hid (RowL w6 pa ls) := P.out.below hb
  have PB : Hid (Blk2 w6 w.heap.size (.int .i64 id) (.slice pa m pc)) := PB.out.below hb
  have LA : Hid (Ldg w6 Aa n Ac l) := LA.out.below hb
  have LB : Hid (Ldg w6 Ba n Bc l) := LB.out.below hb
  clear hb
  go_wp2_with fail
  refine (lBalance_at LA.out acc v 0 HVA.out.1 HVA.out.2).mono ?_
  rintro e w7 ⟨rfl, hb⟩
  have B7 : Hid (Below w.heap.size w w7) := below_on B6.out (Nat.le_refl _) hb
  have L : Hid (Ldg w7 a n cap l) := L.out.below hb
  have P : Hid (RowL w7 pa ls) := P.out.below hb
  have PB : Hid (Blk2 w7 w.heap.size (.int .i64 id) (.slice pa m pc)) := PB.out.below hb
  have LA : Hid (Ldg w7 Aa n Ac l) := LA.out.below hb
  have LB : Hid (Ldg w7 Ba n Bc l) := LB.out.below hb
  clear hb
  go_wp2
  go_ret
  exact ⟨rfl, B7.out⟩
set_option maxRecDepth 100000 in
set_option maxHeartbeats 4000000 in
theorem lo_new (l : List Lg.Ps) (a : Option Addr) (cap : Nat) (id : Int) (ls : List Lg.Ln) (pa : Option Addr) (pc : Nat) (acc : Int) (w : World) (hL : Ldg w a l.length cap l) (hpl : ls.length ≤ maxLen ∧ ls.length ≤ pc) (hpr : RowL w pa ls) (hA : Lg.post l (id, ls) = (l ++ [(id, ls)], 0)) (ha : 1 ≤ acc ∧ acc ≤ 5) :
    Calls Try.prog 5 #[.slice a l.length cap, .agg #[.int .i64 id, .slice pa ls.length pc], .int .i64 acc] w fun e w' => e = .returned (.bool true) ∧ Below w.heap.size w w' := by
  have L : Hid (Ldg w a l.length cap l) := hL
  have P : Hid (RowL w pa ls) := hpr
  have HPL : Hid (ls.length ≤ maxLen ∧ ls.length ≤ pc) := hpl
  have HCl : Hid (Lg.chk l = 0) := (Lg.chk_ok l).2 (Lg.post_cases hA).1
  have HCA : Hid (Lg.chk (l ++ [(id, ls)]) = 0) := (Lg.chk_ok _).2 (Lg.post_ok hA).1
  have HA2 : Hid (Lg.post (l ++ [(id, ls)]) (id, ls) = ((l ++ [(id, ls)]), 0)) := Lg.post_again hA
  have hp1 := Lg.post_len l (id, ls)
  rw [hA] at hp1
  simp only at hp1
  have HA : Hid (Lg.post l (id, ls) = ((l ++ [(id, ls)]), 0)) := hA
  have HAL : Hid (((l ++ [(id, ls)])).length ≤ maxLen) := Nat.le_trans hp1 mL
  have hbd := Lg.bal_bd l acc (Lg.post_cases hA).1.each
  have hl100 := (Lg.post_cases hA).1.len
  obtain ⟨v, hv⟩ : ∃ v, Lg.bal l acc = v := ⟨_, rfl⟩
  rw [hv] at hbd
  have HVl : Hid (Lg.balV l acc = v ∧ Lg.balC l acc = 0) := by have := Lg.balV_in (a := acc) HCl.out (by omega); rw [hv] at this; exact this
  have hpk := (Lg.post_cases hA).2.1
  have hbp := Lg.bal_bd [(id, ls)] acc (by intro p hp; rw [List.mem_singleton] at hp; subst hp; exact hpk)
  obtain ⟨u, hu⟩ : ∃ u, Lg.bal [(id, ls)] acc = u := ⟨_, rfl⟩
  rw [hu] at hbp
  simp only [List.length_singleton] at hbp
  have HU : Hid (Lg.bal [(id, ls)] acc = u) := hu
  have HPK : Hid (Lg.POk (id, ls)) := hpk
  have HVA : Hid (Lg.balV (l ++ [(id, ls)]) acc = v + u ∧ Lg.balC (l ++ [(id, ls)]) acc = 0) := by have := Lg.balV_in (a := acc) HCA.out (by omega); rw [Lg.bal_append, hv, hu] at this; exact this
  have t1 : (-(9000000000000000 : Int)) ≤ v + u := by omega
  have t2 : v + u ≤ 9000000000000000 := by omega
  clear hbp hu hpk
  clear hv hbd hl100 ha
  obtain ⟨n, hn⟩ : ∃ n, l.length = n := ⟨_, rfl⟩
  obtain ⟨m, hm⟩ : ∃ m, ls.length = m := ⟨_, rfl⟩
  have HM : Hid (ls.length = m) := hm
  have HAN : Hid ((l ++ [(id, ls)]).length = n + 1) := by show _ = _; rw [List.length_append, hn]; rfl
  have hmx : n ≤ 99 := by rw [List.length_append, hn] at hp1; simp at hp1; omega
  rw [hn] at L
  rw [hn, hm]
  have B0 : Hid (Below w.heap.size w (w.alloc (.cells #[.int .i64 id, .slice pa m pc] 25))) := below_box w _
  have L : Hid (Ldg (w.alloc (.cells #[.int .i64 id, .slice pa m pc] 25)) a n cap l) := L.out.below B0.out
  have P : Hid (RowL (w.alloc (.cells #[.int .i64 id, .slice pa m pc] 25)) pa ls) := P.out.below B0.out
  have PB : Hid (Blk2 (w.alloc (.cells #[.int .i64 id, .slice pa m pc] 25)) w.heap.size (.int .i64 id) (.slice pa m pc)) := Blk2.new _ _ _ _
  clear hA hp1 hL hpl hpr hn hm
  go_enter Try.func5, Try.ntmps5
  go_wp2_with fail
  refine (lPost_at L.out id ls pa m pc (l ++ [(id, ls)]) 0 HM.out HPL.out P.out HA.out HAL.out).mono ?_
  rintro e w1 ⟨Aa, Ac, rfl, hl, hb⟩
  have B1 : Hid (Below w.heap.size w w1) := below_on B0.out (Nat.le_refl _) hb
  have L : Hid (Ldg w1 a n cap l) := L.out.below hb
  have P : Hid (RowL w1 pa ls) := P.out.below hb
  have PB : Hid (Blk2 w1 w.heap.size (.int .i64 id) (.slice pa m pc)) := PB.out.below hb
  have LA : Hid (Ldg w1 Aa (n + 1) Ac (l ++ [(id, ls)])) := by have := hl; rw [HAN.out] at this; exact this
  clear hb hl
  rw [HAN.out]
  go_wp2_with fail
  refine (lbegun_any _).mono ?_
  rintro e w2 ⟨rfl, hb⟩
  have B2 : Hid (Below w.heap.size w w2) := below_on B1.out (Nat.le_refl _) hb
  have L : Hid (Ldg w2 a n cap l) := L.out.below hb
  have P : Hid (RowL w2 pa ls) := P.out.below hb
  have PB : Hid (Blk2 w2 w.heap.size (.int .i64 id) (.slice pa m pc)) := PB.out.below hb
  have LA : Hid (Ldg w2 Aa (n + 1) Ac (l ++ [(id, ls)])) := LA.out.below hb
  clear hb
  have k0 := PB.out.2.1
  have k1 := PB.out.2.2.1
  go_wp2_with fail
  refine (lPost_at LA.out id ls pa m pc (l ++ [(id, ls)]) 0 HM.out HPL.out P.out HA2.out HAL.out).mono ?_
  rintro e w3 ⟨Ba, Bc, rfl, hl, hb⟩
  have B3 : Hid (Below w.heap.size w w3) := below_on B2.out (Nat.le_refl _) hb
  have L : Hid (Ldg w3 a n cap l) := L.out.below hb
  have P : Hid (RowL w3 pa ls) := P.out.below hb
  have PB : Hid (Blk2 w3 w.heap.size (.int .i64 id) (.slice pa m pc)) := PB.out.below hb
  have LA : Hid (Ldg w3 Aa (n + 1) Ac (l ++ [(id, ls)])) := LA.out.below hb
  have LB : Hid (Ldg w3 Ba (n + 1) Bc (l ++ [(id, ls)])) := by have := hl; rw [HAN.out] at this; exact this
  clear hb hl
  rw [HAN.out]
  clear k0 k1
  go_wp2_with fail
  refine (sameLedger_at LA.out LB.out true (by simp)).mono ?_
  rintro e w4 ⟨rfl, hb⟩
  have B4 : Hid (Below w.heap.size w w4) := below_on B3.out (Nat.le_refl _) hb
  have L : Hid (Ldg w4 a n cap l) := L.out.below hb
  have P : Hid (RowL w4 pa ls) := P.out.below hb
  have PB : Hid (Blk2 w4 w.heap.size (.int .i64 id) (.slice pa m pc)) := PB.out.below hb
  have LA : Hid (Ldg w4 Aa (n + 1) Ac (l ++ [(id, ls)])) := LA.out.below hb
  have LB : Hid (Ldg w4 Ba (n + 1) Bc (l ++ [(id, ls)])) := LB.out.below hb
  clear hb
  go_wp2_with fail
  refine (lCheck_at LA.out 0 HCA.out).mono ?_
  rintro e w5 ⟨rfl, hb⟩
  have B5 : Hid (Below w.heap.size w w5) := below_on B4.out (Nat.le_refl _) hb
  have L : Hid (Ldg w5 a n cap l) := L.out.below hb
  have P : Hid (RowL w5 pa ls) := P.out.below hb
  have PB : Hid (Blk2 w5 w.heap.size (.int .i64 id) (.slice pa m pc)) := PB.out.below hb
  have LA : Hid (Ldg w5 Aa (n + 1) Ac (l ++ [(id, ls)])) := LA.out.below hb
  have LB : Hid (Ldg w5 Ba (n + 1) Bc (l ++ [(id, ls)])) := LB.out.below hb
  clear hb
  go_wp2_with fail
  refine (lBalance_at L.out acc v 0 HVl.out.1 HVl.out.2).mono ?_
  rintro e w6 ⟨rfl, hb⟩
  have B6 : Hid (Below w.heap.size w w6) := below_on B5.out (Nat.le_refl _) hb
  have L : Hid (Ldg w6 a n cap l) := L.out.below hb
  have P : Hid (RowL w6 pa ls) := P.out.below hb
  have PB : Hid (Blk2 w6 w.heap.size (.int .i64 id) (.slice pa m pc)) := PB.out.below hb
  have LA : Hid (Ldg w6 Aa (n + 1) Ac (l ++ [(id, ls)])) := LA.out.below hb
  have LB : Hid (Ldg w6 Ba (n + 1) Bc (l ++ [(id, ls)])) := LB.out.below hb
  clear hb
  go_wp2_with fail
  refine (lBalance_at LA.out acc (v + u) 0 HVA.out.1 HVA.out.2).mono ?_
  rintro e w7 ⟨rfl, hb⟩
  have B7 : Hid (Below w.heap.size w w7) := below_on B6.out (Nat.le_refl _) hb
  have L : Hid (Ldg w7 a n cap l) := L.out.below hb
  have P : Hid (RowL w7 pa ls) := P.out.below hb
  have PB : Hid (Blk2 w7 w.heap.size (.int .i64 id) (.slice pa m pc)) := PB.out.below hb
  have LA : Hid (Ldg w7 Aa (n + 1) Ac (l ++ [(id, ls)])) := LA.out.below hb
  have LB : Hid (Ldg w7 Ba (n + 1) Bc (l ++ [(id, ls)])) := LB.out.below hb
  clear hb
  have k0 := PB.out.2.1
  have k1 := PB.out.2.2.1
  have BX : Hid (Below w.heap.size w (w7.alloc (.cells #[.int .i64 id, .slice pa m pc] 25))) := below_on B7.out (Nat.le_refl _) (below_box w7 _)
  have LP : Hid (Ldg (w7.alloc (.cells #[.int .i64 id, .slice pa m pc] 25)) (some ⟨w7.heap.size, 0, none⟩) 1 1 [(id, ls)]) := Ldg.one w7 id ls pa m pc HM.out HPL.out P.out
  go_wp2_with fail
  refine (balanceOf_at LP.out acc u (by simp) (by intro p hp; rw [List.mem_singleton] at hp; subst hp; exact HPK.out) HU.out).mono ?_
  rintro e wz ⟨rfl, rfl⟩
  clear k0 k1
  go_wp2
  go_ret
  exact ⟨rfl, BX.out⟩
theorem ledgerOnce_any (l : List Lg.Ps) (a : Option Addr) (cap : Nat) (id : Int) (ls : List Lg.Ln) (pa : Option Addr) (pc : Nat) (acc : Int) (w : World) (hL : Ldg w a l.length cap l) (hpl : ls.length ≤ maxLen ∧ ls.length ≤ pc) (hpr : RowL w pa ls) :
    Calls Try.prog 5 #[.slice a l.length cap, .agg #[.int .i64 id, .slice pa ls.length pc], .int .i64 acc] w fun e w' => e = .returned (.bool true) ∧ Below w.heap.size w w' := by
  obtain ⟨⟨A, c⟩, hA⟩ : ∃ r, Lg.post l (id, ls) = r := ⟨_, rfl⟩
  by_cases h : c = 0
  · subst h
    by_cases ha : acc < 1 ∨ 5 < acc
    · exact lo_out l a cap id ls pa pc acc w hL hpl hpr A hA ha
    · obtain ⟨_, _, h | ⟨h, _, _⟩⟩ := Lg.post_cases hA
      · obtain ⟨rfl, _⟩ := h
        exact lo_same _ a cap id ls pa pc acc w hL hpl hpr hA (by omega)
      · subst h
        exact lo_new l a cap id ls pa pc acc w hL hpl hpr hA (by omega)
  · exact lo_bad l a cap id ls pa pc acc w hL hpl hpr c A hA h
end Go.Proofs.Ytdebhcdmbijanaa
