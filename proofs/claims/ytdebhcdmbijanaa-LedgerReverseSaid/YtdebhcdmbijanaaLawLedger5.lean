/- The walk of LedgerReverse. -/
import Derived.Test.YtdebhcdmbijanaaLgAt
namespace Go.Proofs.Ytdebhcdmbijanaa
open Go.RowKit Go.BigFrame

theorem one_of (b off n cap k : Nat) (h : k + 1 ≤ cap) (wx : World) : (Instr.slice 22 (.slice (some ⟨b, off, none⟩) n cap) (some (.int .i64 (k : Int))) (some (.int .i64 ((k : Int) + 1))) none).run Try.prog wx = .ok (.slice (some ⟨b, off + k * 2, none⟩) 1 (cap - k)) wx := by
  have ht : Try.prog.underlying 22 = some (.slice (Try.prog.elem 22)) := by kernel_rfl
  have he : Try.prog.elem 22 = 25 := by kernel_rfl
  rw [run_slice_lh wx _ _ n cap ht .i64 .i64 _ _ (by omega) (by omega) (by omega), he, Try.sizeOf25]
  have e1 : ((k : Int)).toNat = k := Int.toNat_natCast k
  have e2 : ((k : Int) + 1).toNat = k + 1 := by omega
  have e3 : ¬ cap = k := by omega
  have e4 : (⟨b, off, none⟩ : Addr).add (k * 2) = ⟨b, off + k * 2, none⟩ := by
    cases k with
    | zero => rfl
    | succ k => simp [Addr.add]
  simp [sliced, Result.andThen, e1, e2, e3, e4]
theorem RowG.one {w : World} {b off k id lc : _} {la : Option Addr} {ls : List Lg.Ln} (hb : b < w.heap.size) (c1 : w.cell? ⟨b, off + k * 2, none⟩ = some (.int .i64 id)) (c2 : w.cell? ⟨b, off + k * 2 + 1, none⟩ = some (.slice la ls.length lc)) (hc : ls.length ≤ lc) (hr : RowL w la ls) :
    RowG w (some ⟨b, off + k * 2, none⟩) [(id, ls)] := by
  refine ⟨[(id, .slice la ls.length lc)], ⟨rfl, fun i u p hu hp => ?_⟩, .inr ⟨b, off + k * 2, rfl, hb, fun j u hj => ?_⟩⟩
  · cases i with
    | zero => simp at hu hp; subst hu hp; exact ⟨rfl, la, lc, rfl, hc, hr⟩
    | succ i => simp at hu
  · match j, hj with
    | 0, hj => simp [flatP] at hj; subst hj; exact c1
    | 1, hj => simp [flatP] at hj; subst hj; exact c2
    | j + 2, hj => simp [flatP] at hj
namespace Lg
/-- where the posting lies -/
theorem look_place {l : List Ps} (ok : LOk l) {i : Int} {p : Ps} (h : look l i = some p) : ∃ j, j < l.length ∧ l[j]? = some p ∧ ∀ (k : Nat) (q : Ps), l[k]? = some q → (q.1 = i ↔ k = j) := by
  obtain ⟨h1, h2⟩ := look_some h
  obtain ⟨j, hj, e⟩ := List.mem_iff_getElem.1 h1
  have ej : l[j]? = some p := by rw [List.getElem?_eq_getElem hj, e]
  refine ⟨j, hj, ej, fun k q hk => ⟨fun e => ok.once k j q p hk ej (e.trans h2.symm), fun e => ?_⟩⟩
  subst e
  rw [hk] at ej
  cases ej
  exact h2
end Lg
set_option maxRecDepth 100000 in
set_option maxHeartbeats 4000000 in
/-- It errs. -/
theorem lv_bad (l : List Lg.Ps) (a : Option Addr) (cap : Nat) (id as' other acc : Int) (w : World) (hL : Ldg w a l.length cap l) (c : Int) (A : List Lg.Ps) (hA : Lg.rev l id as' = (A, c)) (h0 : c ≠ 0) :
    Calls Try.prog 7 #[.slice a l.length cap, .int .i64 id, .int .i64 as', .int .i64 other, .int .i64 acc] w fun e w' => e = .returned (.bool true) ∧ Below w.heap.size w w' := by
  have L : Hid (Ldg w a l.length cap l) := hL
  obtain rfl : A = [] := by have := Lg.rev_err l id as' (by rw [hA]; exact h0); rw [hA] at this; exact this
  have hcn : (c != 0) = true := by simpa using h0
  have HA : Hid (Lg.rev l id as' = ([], c)) := hA
  obtain ⟨n, hn⟩ : ∃ n, l.length = n := ⟨_, rfl⟩
  rw [hn] at L ⊢
  clear hL hn hA h0
  go_enter Try.func7, Try.ntmps7
  go_wp2_with fail
  refine (lReverse_at L.out id as' [] c HA.out (Nat.zero_le _)).mono ?_
  rintro e w1 ⟨Aa, Ac, rfl, -, hb⟩
  have B1 : Hid (Below w.heap.size w w1) := hb
  clear hb
  go_wp2_with fail
  refine (lbegun_any _).mono ?_
  rintro e w2 ⟨rfl, hb⟩
  have B2 : Hid (Below w.heap.size w w2) := below_on B1.out (Nat.le_refl _) hb
  clear hb
  go_wp2
  go_ret
  exact ⟨rfl, B2.out⟩
set_option maxRecDepth 100000 in
set_option maxHeartbeats 4000000 in
/-- No such account. -/
theorem lv_out (l : List Lg.Ps) (a : Option Addr) (cap : Nat) (id as' other acc : Int) (w : World) (hL : Ldg w a l.length cap l) (A : List Lg.Ps) (hA : Lg.rev l id as' = (A, 0)) (ha : acc < 1 ∨ 5 < acc) :
    Calls Try.prog 7 #[.slice a l.length cap, .int .i64 id, .int .i64 as', .int .i64 other, .int .i64 acc] w fun e w' => e = .returned (.bool true) ∧ Below w.heap.size w w' := by
  have L : Hid (Ldg w a l.length cap l) := hL
  obtain ⟨ok, p, hp, hpo⟩ := Lg.rev_cases hA
  have HCl := Lg.balV_out ((Lg.chk_ok l).2 ok) ha
  have HCA := Lg.balV_out ((Lg.chk_ok A).2 (Lg.post_ok hpo).1) ha
  have HVl : Hid (Lg.balV l acc = 0 ∧ Lg.balC l acc = 7) := HCl
  have HVA : Hid (Lg.balV A acc = 0 ∧ Lg.balC A acc = 7) := HCA
  have HAL : Hid (A.length ≤ maxLen) := Nat.le_trans (Lg.post_ok hpo).1.len mL
  have HA : Hid (Lg.rev l id as' = (A, 0)) := hA
  obtain ⟨n, hn⟩ : ∃ n, l.length = n := ⟨_, rfl⟩
  rw [hn] at L ⊢
  clear hL hn hA ha HCl HCA ok hp hpo
  go_enter Try.func7, Try.ntmps7
  go_wp2_with fail
  refine (lReverse_at L.out id as' A 0 HA.out HAL.out).mono ?_
  rintro e w1 ⟨Aa, Ac, rfl, hl, hb⟩
  have B1 : Hid (Below w.heap.size w w1) := hb
  have L : Hid (Ldg w1 a n cap l) := L.out.below hb
  have LA : Hid (Ldg w1 Aa A.length Ac A) := hl
  clear hb hl
  go_wp2_with fail
  refine (lbegun_any _).mono ?_
  rintro e w2 ⟨rfl, hb⟩
  have B2 : Hid (Below w.heap.size w w2) := below_on B1.out (Nat.le_refl _) hb
  have L : Hid (Ldg w2 a n cap l) := L.out.below hb
  have LA : Hid (Ldg w2 Aa A.length Ac A) := LA.out.below hb
  clear hb
  go_wp2_with fail
  refine (lBalance_at L.out acc 0 7 HVl.out.1 HVl.out.2).mono ?_
  rintro e w3 ⟨rfl, hb⟩
  have B3 : Hid (Below w.heap.size w w3) := below_on B2.out (Nat.le_refl _) hb
  have LA : Hid (Ldg w3 Aa A.length Ac A) := LA.out.below hb
  clear hb
  go_wp2_with fail
  refine (lBalance_at LA.out acc 0 7 HVA.out.1 HVA.out.2).mono ?_
  rintro e w4 ⟨rfl, hb⟩
  have B4 : Hid (Below w.heap.size w w4) := below_on B3.out (Nat.le_refl _) hb
  clear hb
  go_wp2
  go_ret
  exact ⟨rfl, B4.out⟩
set_option maxRecDepth 100000 in
set_option maxHeartbeats 8000000 in
theorem lv_in (l : List Lg.Ps) (a : Option Addr) (cap : Nat) (id as' other acc : Int) (w : World) (hL : Ldg w a l.length cap l) (A : List Lg.Ps) (hA : Lg.rev l id as' = (A, 0)) (ha : 1 ≤ acc ∧ acc ≤ 5) :
    Calls Try.prog 7 #[.slice a l.length cap, .int .i64 id, .int .i64 as', .int .i64 other, .int .i64 acc] w fun e w' => e = .returned (.bool true) ∧ Below w.heap.size w w' := by
  have L : Hid (Ldg w a l.length cap l) := hL
  obtain ⟨ok, p, hp, hpo⟩ := Lg.rev_cases hA
  obtain ⟨j, hj, hjp, hjj⟩ := Lg.look_place ok hp
  have hbl := Lg.bal_bd l acc ok.each
  have hpk := ok.each p (Lg.look_some hp).1
  have hbp := Lg.bal_bd [p] acc (by intro q hq; rw [List.mem_singleton] at hq; subst hq; exact hpk)
  have hrb := Lg.rev_bal hA hp acc
  have htw := fun (b : List Lg.Ps) (h2 : Lg.rev A as' other = (b, 0)) (h3 : b.length = l.length + 2) => Lg.rev_twice hA hp h2 h3 acc
  have h100 := ok.len
  obtain ⟨v, hv⟩ : ∃ v, Lg.bal l acc = v := ⟨_, rfl⟩
  obtain ⟨u, hu⟩ : ∃ u, Lg.bal [p] acc = u := ⟨_, rfl⟩
  obtain ⟨m, hm⟩ : ∃ m, Lg.bal A acc = m := ⟨_, rfl⟩
  obtain ⟨n, hn⟩ : ∃ n, l.length = n := ⟨_, rfl⟩
  obtain ⟨N, hN⟩ : ∃ N, A.length = N := ⟨_, rfl⟩
  have HN : Hid (l.length = n) := hn
  have HNA : Hid (A.length = N) := hN
  have HVl : Hid (Lg.balV l acc = v ∧ Lg.balC l acc = 0) := by have := Lg.balV_in (a := acc) ((Lg.chk_ok l).2 ok) (by omega); rw [hv] at this; exact this
  have HVA : Hid (Lg.balV A acc = m ∧ Lg.balC A acc = 0) := by have := Lg.balV_in (a := acc) ((Lg.chk_ok A).2 (Lg.post_ok hpo).1) (by omega); rw [hm] at this; exact this
  have HAL : Hid (A.length ≤ maxLen) := Nat.le_trans (Lg.post_ok hpo).1.len mL
  have hN100 : N ≤ 100 := by rw [← hN]; exact (Lg.post_ok hpo).1.len
  have HA : Hid (Lg.rev l id as' = (A, 0)) := hA
  have HOK : Hid (∀ q ∈ l, Lg.POk q) := ok.each
  have HU : Hid (Lg.bal [p] acc = u) := hu
  have HJ : Hid (∀ (k : Nat) (q : Lg.Ps), l[k]? = some q → (q.1 = id ↔ k = j)) := hjj
  have HJP : Hid (l[j]? = some p) := hjp
  rw [hn] at h100 hj htw hbl
  have HT : Hid (∀ b, Lg.rev A as' other = (b, 0) → b.length = n + 2 → Lg.bal b acc = v) := by rw [hv] at htw; exact htw
  have HNM : Hid ((n = N ∧ v = m) ∨ (n + 1 = N ∧ v - u = m)) := by
    rcases hrb with ⟨h3, h4⟩ | ⟨h3, _, h5⟩
    · exact .inl ⟨by omega, by rw [← hm, h4, hv]⟩
    · exact .inr ⟨by omega, by rw [← hm, h5, hv, hu]⟩
  rw [hv] at hbl
  rw [hu] at hbp
  simp only [List.length_singleton] at hbp
  have t1 : -(9000000000000000 : Int) ≤ v - u := by omega
  have t2 : v - u ≤ 9000000000000000 := by omega
  have t3 : -(9000000000000000 : Int) ≤ v := by omega
  have t4 : v ≤ 9000000000000000 := by omega
  rw [hn] at L ⊢
  have HAC : Hid (1 ≤ acc ∧ acc ≤ 5) := ha
  have HCAP : Hid (n ≤ cap) := by have := L.out.fits.2; rw [HN.out] at this; exact this
  clear hL hA hp hpo hjp hjj hpk hrb htw hv hu hm hn hN ok hbl hbp ha
  go_enter Try.func7, Try.ntmps7
  go_wp2_with fail
  refine (lReverse_at L.out id as' A 0 HA.out HAL.out).mono ?_
  rintro e w1 ⟨Aa, Ac, rfl, hl, hb⟩
  have B1 : Hid (Below w.heap.size w w1) := hb
  have L : Hid (Ldg w1 a n cap l) := L.out.below hb
  have LA : Hid (Ldg w1 Aa N Ac A) := by have := hl; rw [HNA.out] at this; exact this
  rw [HNA.out]
  clear hb hl
  go_wp2_with fail
  refine (lbegun_any _).mono ?_
  rintro e w2 ⟨rfl, hb⟩
  have B2 : Hid (Below w.heap.size w w2) := below_on B1.out (Nat.le_refl _) hb
  have L : Hid (Ldg w2 a n cap l) := L.out.below hb
  have LA : Hid (Ldg w2 Aa N Ac A) := LA.out.below hb
  clear hb
  go_wp2_with fail
  refine (lBalance_at L.out acc v 0 HVl.out.1 HVl.out.2).mono ?_
  rintro e w3 ⟨rfl, hb⟩
  have B3 : Hid (Below w.heap.size w w3) := below_on B2.out (Nat.le_refl _) hb
  have L : Hid (Ldg w3 a n cap l) := L.out.below hb
  have LA : Hid (Ldg w3 Aa N Ac A) := LA.out.below hb
  clear hb
  go_wp2_with fail
  refine (lBalance_at LA.out acc m 0 HVA.out.1 HVA.out.2).mono ?_
  rintro e w4 ⟨rfl, hb⟩
  have B4 : Hid (Below w.heap.size w w4) := below_on B3.out (Nat.le_refl _) hb
  have L : Hid (Ldg w4 a n cap l) := L.out.below hb
  have LA : Hid (Ldg w4 Aa N Ac A) := LA.out.below hb
  clear hb
  go_wp2
  go_loop [17, 18] (fun sv iv => ∃ k : Nat, k ≤ n ∧ iv = .int .i64 k ∧ sv = .int .i64 (if j < k then u else 0)) (fun _ iv => n - (intOf iv).toNat)
  case atStart => exact ⟨0, Nat.zero_le _, rfl, by rw [if_neg (Nat.not_lt_zero j)]⟩
  case round =>
    obtain ⟨k, hk, rfl, rfl⟩ := hrel
    by_cases hlt : k < n
    · have hlt' : (k : Int) < (n : Int) := by omega
      obtain ⟨b, off, id2, ls2, la, lc, rfl, hbz, hx, c1, c2, hlc, hrl⟩ := L.out.row.at (k := k) (by rw [HN.out]; exact hlt)
      by_cases hid : id2 = id
      · have hidb : (id2 == id) = true := by simpa using hid
        have hkj : k = j := (HJ.out k _ hx).1 hid
        subst hkj
        have HPE : Hid (p = (id2, ls2)) := by have := HJP.out; rw [hx] at this; exact (Option.some.inj this).symm
        have HPK : Hid (Lg.POk (id2, ls2)) := HOK.out _ (List.mem_of_getElem? hx)
        have HRG : Hid (RowG w4 (some ⟨b, off + k * 2, none⟩) [(id2, ls2)]) := RowG.one hbz c1 c2 hlc hrl
        have hsl := one_of b off n cap k (Nat.le_trans hlt HCAP.out)
        have hw : IntKind.i64.wrap ((k : Int) + 1) = (k : Int) + 1 := by rw [IntKind.wrap_i64]; omega
        have HBO : Hid (Calls Try.prog 14 #[.slice (some ⟨b, off + k * 2, none⟩) 1 (cap - k), .int .i64 acc] w4 fun e w' => e = .returned (.int .i64 u) ∧ w' = w4) := by
          have := balanceOf_any [(id2, ls2)] (some ⟨b, off + k * 2, none⟩) (cap - k) acc w4 (by simp) (by intro q hq; rw [List.mem_singleton] at hq; subst hq; exact HPK.out) HRG.out
          rw [← HPE.out, HU.out] at this
          exact this
        have hkk : ¬ k < k := Nat.lt_irrefl k
        rw [if_neg hkk]
        clear hx hid hrl hlc hkk hbz
        go_wp2_with fail
        refine HBO.out.mono ?_
        rintro e w5 ⟨rfl, rfl⟩
        clear hsl c1 c2
        go_wp2
        go_round
        case rel => exact ⟨k + 1, by omega, by go_num, by rw [if_pos (Nat.lt_succ_self k)]⟩
        case measure => simp [intOf]; omega
      · have hidb : (id2 == id) = false := by simpa using hid
        have hkj : k ≠ j := fun e => hid ((HJ.out k _ hx).2 e)
        have HI : Hid ((if j < k + 1 then u else 0) = (if j < k then u else 0)) := by
          show _ = _
          by_cases hjk : j < k
          · rw [if_pos hjk, if_pos (by omega)]
          · rw [if_neg hjk, if_neg (by omega)]
        obtain ⟨sv, hsv⟩ : ∃ sv, (if j < k then u else 0) = sv := ⟨_, rfl⟩
        rw [hsv] at HI ⊢
        clear hx hid hrl hlc hbz hsv hkj
        go_wp2
        go_round
        case rel => exact ⟨k + 1, by omega, by go_num, by rw [HI.out]⟩
        case measure => simp [intOf]; omega
    · obtain rfl : k = n := by omega
      rw [if_pos hj]
      obtain ⟨⟨R, d⟩, hR⟩ : ∃ r, Lg.rev A as' other = r := ⟨_, rfl⟩
      have hR1 := Lg.rev_len A as' other
      rw [hR] at hR1
      simp only at hR1
      have HR : Hid (Lg.rev A as' other = (R, d)) := hR
      have HRL : Hid (R.length ≤ maxLen) := Nat.le_trans hR1 mL
      obtain ⟨M, hM⟩ : ∃ M, R.length = M := ⟨_, rfl⟩
      have HM : Hid (R.length = M) := hM
      rw [hM] at hR1
      clear hR hM
      have hwv : IntKind.i64.wrap (v - u) = v - u := by rw [IntKind.wrap_i64]; omega
      obtain ⟨rfl, rfl⟩ | ⟨rfl, rfl⟩ := HNM.out
      all_goals
        go_wp2_with fail
        refine (lReverse_at LA.out as' other R d HR.out HRL.out).mono ?_
        rintro e w5 ⟨Ra, Rc, rfl, hl, hb⟩
        have B5 : Hid (Below w.heap.size w w5) := below_on B4.out (Nat.le_refl _) hb
        have LR : Hid (Ldg w5 Ra M Rc R) := by have := hl; rw [HM.out] at this; exact this
        rw [HM.out]
        clear hb hl
        by_cases hd : d = 0
        · subst hd
          by_cases hM2 : M = k + 2
          · subst hM2
            have HVR : Hid (Lg.balV R acc = v ∧ Lg.balC R acc = 0) := by
              obtain ⟨_, q, hq, hqo⟩ := Lg.rev_cases HR.out
              have h1 := Lg.balV_in (a := acc) ((Lg.chk_ok R).2 (Lg.post_ok hqo).1) (by have := HAC.out; omega)
              rw [HT.out R HR.out HM.out] at h1
              exact h1
            go_wp2_with fail
            refine (lBalance_at LR.out acc v 0 HVR.out.1 HVR.out.2).mono ?_
            rintro e w6 ⟨rfl, hb⟩
            have B6 : Hid (Below w.heap.size w w6) := below_on B5.out (Nat.le_refl _) hb
            clear hb
            go_wp2
            go_ret
            exact ⟨rfl, B6.out⟩
          · have hM3 : ((M : Int) != (k : Int) + 2) = true := by simp; omega
            clear hM2
            go_wp2
            go_ret
            exact ⟨rfl, B5.out⟩
        · have hdn : (d != 0) = true := by simpa using hd
          clear hd
          go_wp2
          go_ret
          exact ⟨rfl, B5.out⟩
theorem ledgerReverse_any (l : List Lg.Ps) (a : Option Addr) (cap : Nat) (id as' other acc : Int) (w : World) (hL : Ldg w a l.length cap l) :
    Calls Try.prog 7 #[.slice a l.length cap, .int .i64 id, .int .i64 as', .int .i64 other, .int .i64 acc] w fun e w' => e = .returned (.bool true) ∧ Below w.heap.size w w' := by
  obtain ⟨⟨A, c⟩, hA⟩ : ∃ r, Lg.rev l id as' = r := ⟨_, rfl⟩
  by_cases h : c = 0
  · subst h
    by_cases ha : acc < 1 ∨ 5 < acc
    · exact lv_out l a cap id as' other acc w hL A hA ha
    · exact lv_in l a cap id as' other acc w hL A hA (by omega)
  · exact lv_bad l a cap id as' other acc w hL c A hA h
end Go.Proofs.Ytdebhcdmbijanaa
