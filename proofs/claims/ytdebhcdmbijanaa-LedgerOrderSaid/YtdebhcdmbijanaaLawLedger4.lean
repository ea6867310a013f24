/- The walk of LedgerOrder. -/
import Derived.Test.YtdebhcdmbijanaaLgAt
namespace Go.Proofs.Ytdebhcdmbijanaa
open Go.RowKit Go.BigFrame

set_option maxRecDepth 100000 in
set_option maxHeartbeats 4000000 in
theorem ledgerOrder_any (l : List Lg.Ps) (a : Option Addr) (cap : Nat) (acc : Int) (w : World) (hL : Ldg w a l.length cap l) :
    Calls Try.prog 6 #[.slice a l.length cap, .int .i64 acc] w fun e w' => e = .returned (.bool true) ∧ Below w.heap.size w w' := by
  have L : Hid (Ldg w a l.length cap l) := hL
  obtain ⟨n, hn⟩ : ∃ n, l.length = n := ⟨_, rfl⟩
  have HN : Hid (l.length = n) := hn
  rw [hn] at L ⊢
  clear hL hn
  obtain ⟨c, hc⟩ : ∃ c, Lg.balC l acc = c := ⟨_, rfl⟩
  have HC : Hid (Lg.balC l acc = c) := hc
  by_cases h : c = 0
  · subst h
    obtain ⟨k0, k1, k2, k3⟩ := Lg.balC_zero hc
    have HLO : Hid (Lg.LOk l) := (Lg.chk_ok l).1 k0
    obtain ⟨v, hv⟩ : ∃ v, Lg.bal l acc = v := ⟨_, rfl⟩
    have HB : Hid (Lg.bal l acc = v) := hv
    have HV : Hid (Lg.balV l acc = v) := by rw [hv] at k3; exact k3
    have hn100 : n ≤ 100 := by rw [← HN.out]; exact HLO.out.len
    clear hc k0 k3 hv
    go_enter Try.func6, Try.ntmps6
    go_wp2_with fail
    refine (lBalance_at L.out acc v 0 HV.out HC.out).mono ?_
    rintro e w1 ⟨rfl, hb⟩
    have B1 : Hid (Below w.heap.size w w1) := hb
    have L : Hid (Ldg w1 a n cap l) := L.out.below hb
    clear hb
    go_wp2_with fail
    refine (lbegun_any _).mono ?_
    rintro e w2 ⟨rfl, hb⟩
    have B2 : Hid (Below w.heap.size w w2) := below_on B1.out (Nat.le_refl _) hb
    have L : Hid (Ldg w2 a n cap l) := L.out.below hb
    clear hb
    go_wp2
    go_loopw [7, 8] (fun ov iv wr => ∃ k : Nat, k ≤ n ∧ iv = .int .i64 ((k : Int) - 1) ∧ (∃ Oa Oc, ov = .slice Oa (n - k) Oc ∧ Ldg wr Oa (n - k) Oc (l.drop k).reverse) ∧ Below w2.heap.size w2 wr) (fun _ iv _ => (intOf iv + 1).toNat)
    case atStart =>
      refine ⟨n, Nat.le_refl _, rfl, ⟨none, 0, by rw [Nat.sub_self], ?_⟩, Below.refl _ _⟩
      rw [Nat.sub_self, ← HN.out, List.drop_length]
      exact Ldg.empty _
    case round =>
      obtain ⟨k1, hk1, rfl, ⟨Oa, Oc, rfl, ho⟩, hb⟩ := hrel
      have HO : Hid (Ldg wr Oa (n - k1) Oc (l.drop k1).reverse) := ho
      have HB2 : Hid (Below w2.heap.size w2 wr) := hb
      have BW : Hid (Below w.heap.size w wr) := below_on B2.out (Nat.le_refl _) hb
      clear ho hb
      by_cases hk0 : k1 = 0
      · subst hk0
        have HO2 : Hid (Ldg wr Oa n Oc l.reverse) := by have := HO.out; rw [Nat.sub_zero, List.drop_zero] at this; exact this
        have HBC : Hid (Lg.balC l.reverse acc = 0 ∧ Lg.balV l.reverse acc = v) := by
          have h0 : Lg.chk l.reverse = 0 := (Lg.chk_ok _).2 (by have := HLO.out.back 0; rw [List.drop_zero] at this; exact this)
          obtain ⟨a1, a2⟩ := Lg.balV_in (a := acc) h0 (by omega)
          exact ⟨a2, by rw [a1, Lg.bal_reverse]; exact HB.out⟩
        have hnk : n - 0 = n := Nat.sub_zero n
        rw [hnk]
        clear hnk
        go_wp2_with fail
        refine (lBalance_at HO2.out acc v 0 HBC.out.2 HBC.out.1).mono ?_
        rintro e w3 ⟨rfl, hb⟩
        have B3 : Hid (Below w.heap.size w w3) := below_on BW.out (Nat.le_refl _) hb
        clear hb
        go_wp2
        go_ret
        exact ⟨rfl, B3.out⟩
      · obtain ⟨k, rfl⟩ : ∃ k, k1 = k + 1 := ⟨k1 - 1, by omega⟩
        have ecast : (((k + 1 : Nat) : Int) - 1) = (k : Int) := by omega
        rw [ecast]
        have hlt : k < n := by omega
        have hlt' : (k : Int) < (n : Int) := by omega
        have hge : (0 : Int) ≤ (k : Int) := by omega
        clear ecast hk0
        obtain ⟨b, off, id, ls, la, lc, rfl, -, hx, c1, c2, hlc, hrl⟩ := (L.out.row.below HB2.out).at (k := k) (by rw [HN.out]; exact hlt)
        have HX : Hid (l[k]? = some (id, ls)) := hx
        have HRL : Hid (RowL wr la ls) := hrl
        have HLC : Hid (ls.length ≤ maxLen ∧ ls.length ≤ lc) := ⟨L.out.fit.at hx, hlc⟩
        have HP : Hid (Lg.post (l.drop (k + 1)).reverse (id, ls) = ((l.drop k).reverse, 0)) := Lg.back_step HLO.out k (id, ls) hx
        have HDL : Hid ((l.drop k).reverse.length = n - k) := by show _ = _; rw [List.length_reverse, List.length_drop, HN.out]
        have HDM : Hid ((l.drop k).reverse.length ≤ maxLen) := by show _ ≤ _; rw [HDL.out]; exact Nat.le_trans (by omega) mL
        clear hx hrl hlc
        go_wp2_with fail
        refine (lPost_at HO.out id ls la ls.length lc (l.drop k).reverse 0 rfl HLC.out HRL.out HP.out HDM.out).mono ?_
        rintro e w3 ⟨Na, Nc, rfl, hl, hb⟩
        have B3 : Hid (Below w2.heap.size w2 w3) := below_on HB2.out (Nat.le_refl _) hb
        have LN : Hid (Ldg w3 Na (n - k) Nc (l.drop k).reverse) := by have := hl; rw [HDL.out] at this; exact this
        rw [HDL.out]
        clear hb hl c1 c2
        go_wp2
        go_round
        case rel => exact ⟨k, by omega, rfl, ⟨Na, Nc, rfl, LN.out⟩, B3.out⟩
        case measure => simp [intOf]
  · have HV : Hid (Lg.balV l acc = 0) := by
      show _ = _
      unfold Lg.balV
      rw [if_neg (by rw [hc]; exact h)]
    have hcn : (c != 0) = true := by simpa using h
    clear h hc
    go_enter Try.func6, Try.ntmps6
    go_wp2_with fail
    refine (lBalance_at L.out acc 0 c HV.out HC.out).mono ?_
    rintro e w1 ⟨rfl, hb⟩
    have B1 : Hid (Below w.heap.size w w1) := hb
    have L : Hid (Ldg w1 a n cap l) := L.out.below hb
    clear hb
    go_wp2_with fail
    refine (lbegun_any _).mono ?_
    rintro e w2 ⟨rfl, hb⟩
    have B2 : Hid (Below w.heap.size w w2) := below_on B1.out (Nat.le_refl _) hb
    clear hb
    go_wp2
    go_ret
    exact ⟨rfl, B2.out⟩
end Go.Proofs.Ytdebhcdmbijanaa
