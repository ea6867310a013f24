/- The walks of the document's rings: a text opened. -/
import Derived.Test.YtcjpbmfdgheolaaROp
namespace Go.Proofs.Ytcjpbmfdgheolaa
open Go.RowKit

theorem keyVal_none {no : Int} {l : List Rg.Ep} (h : Rg.find no l = none) : keyVal no l = .tuple #[.agg #[.int .u64 0, .int .u64 0], .bool false] := by unfold keyVal; rw [h]
theorem keyVal_some {no : Int} {l : List Rg.Ep} {k : Nat} {A B : Tg.W} (h : Rg.find no l = some (k, A, B)) : keyVal no l = .tuple #[.agg #[.int .u64 (wd A), .int .u64 (wd B)], .bool true] := by unfold keyVal; rw [h]
set_option maxRecDepth 100000 in
set_option maxHeartbeats 2000000 in
theorem openOf_any (l : List Rg.Ep) (a : Option Addr) (cap : Nat) (t : List UInt8) (w : World) (hl : l.length ≤ maxLen) (ht : t.length ≤ 140737488351232) (hr : Row3 w a l) :
    Calls Try.prog 19 #[.slice a l.length cap, .string (bx t)] w fun e w' => e = .returned (Rg.opnV l t) ∧ Below w.heap.size w w' := by
  have hck := ringCheck_any l a cap w hl hr
  have hsz := bx_size t
  have hko := fun no => keyOf_any l a cap no w hl hr
  clear hr
  by_cases hc : Rg.chk l = 0
  · have HCZ : Hid (Rg.chk l = 0) := hc
    rw [hc] at hck
    clear hc hl
    by_cases h2 : t.length < 9 ∨ 120 < t.length
    · have HE : Hid (Rg.opn l t = ([], 0, 1)) := Rg.opn_form HCZ.out h2
      clear hko
      by_cases h3 : t.length < 9
      all_goals
        go_enter Try.func19, Try.ntmps19
        go_wp2_with fail
        refine hck.mono ?_; rintro e w1 ⟨rfl, rfl⟩
        clear hck
        have h4 : t.length < 9 ∨ (120 : Int) < (t.length : Int) := by omega
        clear h2
        go_wp2
        go_ret3
        exact ⟨Rg.opnV_of HE.out, Below.refl _ _⟩
    · have H2 : Hid (¬ (t.length < 9 ∨ 120 < t.length)) := h2
      have h9 : 9 ≤ t.length := by omega
      have h120 : t.length ≤ 120 := by omega
      clear h2
      have hfi := fun wx => first_ex t (by omega) wx
      have hmi := fun wx => mid_cut t h9 wx
      obtain ⟨c, hcc⟩ : ∃ c, (t.headD 0).toNat = c := ⟨_, rfl⟩
      have HC : Hid ((t.headD 0).toNat = c) := hcc
      rw [hcc] at hfi
      have hc256 : c < 256 := by rw [← hcc]; exact UInt8.toNat_lt _
      clear hcc
      have hk := hko c
      clear hko
      cases hf : Rg.find (c : Int) l with
      | none =>
        have HE : Hid (Rg.opn l t = ([], 0, 5)) := Rg.opn_none HCZ.out H2.out HC.out hf
        rw [keyVal_none hf] at hk
        clear hf
        go_enter Try.func19, Try.ntmps19
        go_wp2_with fail
        refine hck.mono ?_; rintro e w1 ⟨rfl, rfl⟩
        clear hck
        go_wp2_with fail
        refine hk.mono ?_; rintro e w2 ⟨rfl, hb2⟩
        have HB2 : Hid (Below w1.heap.size w1 (w2.alloc (.cells #[.int .u64 0, .int .u64 0] 25))) := below_on hb2 (Nat.le_refl _) (below_box w2 _)
        clear hb2 hk
        go_wp2
        go_ret3
        exact ⟨Rg.opnV_of HE.out, HB2.out⟩
      | some p =>
        obtain ⟨k, A, B⟩ := p
        have HO := Rg.opn_some (t := t) HCZ.out H2.out HC.out hf
        rw [keyVal_some hf] at hk
        clear hf
        have HM : Hid ((Rg.mid t).length ≤ 111) := Rg.mid_len t h120
        have hse := fun W => sealedBy_any c A B (Rg.mid t) W hc256 HM.out
        have HSE : Hid (_) := hse
        have heq := eq_bx (Rg.sl c A B (Rg.mid t)) t
        clear hse
        by_cases hq : Rg.sl c A B (Rg.mid t) = t
        · rw [if_pos hq] at HO
          have HE : Hid (Rg.opn l t = (Rg.mid t, (c : Int), 0)) := HO
          rw [show decide (Rg.sl c A B (Rg.mid t) = t) = true by simpa using hq] at heq
          clear HO hq
          generalize Rg.sl c A B (Rg.mid t) = X at *
          generalize Rg.mid t = M at *
          go_enter Try.func19, Try.ntmps19
          go_wp2_with fail
          refine hck.mono ?_; rintro e w1 ⟨rfl, rfl⟩
          clear hck
          go_wp2_with fail
          refine hk.mono ?_; rintro e w2 ⟨rfl, hb2⟩
          have HB2 : Hid (Below w1.heap.size w1 (w2.alloc (.cells #[.int .u64 (wd A), .int .u64 (wd B)] 25))) := below_on hb2 (Nat.le_refl _) (below_box w2 _)
          clear hb2 hk
          go_wp2_with fail
          refine (HSE.out _).mono ?_; rintro e w3 ⟨rfl, hb3⟩
          have HB3 : Hid (Below w1.heap.size w1 w3) := below_on HB2.out (Nat.le_refl _) hb3
          clear hb3 HSE HB2
          go_wp2
          go_ret3
          exact ⟨Rg.opnV_of HE.out, HB3.out⟩
        · rw [if_neg hq] at HO
          have HE : Hid (Rg.opn l t = ([], 0, 9)) := HO
          rw [show decide (Rg.sl c A B (Rg.mid t) = t) = false by simpa using hq] at heq
          clear HO hq
          generalize Rg.sl c A B (Rg.mid t) = X at *
          generalize Rg.mid t = M at *
          go_enter Try.func19, Try.ntmps19
          go_wp2_with fail
          refine hck.mono ?_; rintro e w1 ⟨rfl, rfl⟩
          clear hck
          go_wp2_with fail
          refine hk.mono ?_; rintro e w2 ⟨rfl, hb2⟩
          have HB2 : Hid (Below w1.heap.size w1 (w2.alloc (.cells #[.int .u64 (wd A), .int .u64 (wd B)] 25))) := below_on hb2 (Nat.le_refl _) (below_box w2 _)
          clear hb2 hk
          go_wp2_with fail
          refine (HSE.out _).mono ?_; rintro e w3 ⟨rfl, hb3⟩
          have HB3 : Hid (Below w1.heap.size w1 w3) := below_on HB2.out (Nat.le_refl _) hb3
          clear hb3 HSE HB2
          go_wp2
          go_ret3
          exact ⟨Rg.opnV_of HE.out, HB3.out⟩
  · have HE : Hid (Rg.opn l t = ([], 0, Rg.chk l)) := Rg.opn_chk hc
    clear hko
    generalize Rg.chk l = C at *
    have hc' : (C != 0) = true := by simpa using hc
    go_enter Try.func19, Try.ntmps19
    go_wp2_with fail
    refine hck.mono ?_; rintro e w1 ⟨rfl, rfl⟩
    clear hck
    go_wp2
    go_ret3
    exact ⟨Rg.opnV_of HE.out, Below.refl _ _⟩
end Go.Proofs.Ytcjpbmfdgheolaa
