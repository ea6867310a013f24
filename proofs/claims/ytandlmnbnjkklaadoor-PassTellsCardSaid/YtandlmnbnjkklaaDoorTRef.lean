/- The reference's terms: the look, the first day of a term, month by month. -/
import Derived.Test.YtandlmnbnjkklaaDoorTFindToRef
import Derived.Test.YtandlmnbnjkklaaDoorTFindToRef
namespace Go.Proofs.YtandlmnbnjkklaaDoor
open Go.RowKit

theorem refTCheck_any (u n : Int) (w : World) :
    Calls Tryd.prog 51 #[.agg #[.int .i64 u, .int .i64 n]] w fun e w' => e = .returned (.int .i64 (Trm.chk u n)) ∧ Below w.heap.size w w' := by
  by_cases u1 : u < 1
  · have e : Trm.chk u n = 7 := by unfold Trm.chk; rw [if_pos (by omega)]
    rw [e]; clear e
    go_enter Tryd.func51, Tryd.ntmps51
    go_wp2
    go_ret
    exact ⟨rfl, below_box _ _⟩
  by_cases u2 : 4 < u
  · have e : Trm.chk u n = 7 := by unfold Trm.chk; rw [if_pos (by omega)]
    rw [e]; clear e
    go_enter Tryd.func51, Tryd.ntmps51
    go_wp2
    go_ret
    exact ⟨rfl, below_box _ _⟩
  by_cases n1 : n < 1
  · have e : Trm.chk u n = 3 := by unfold Trm.chk; rw [if_neg (by omega), if_pos (by omega)]
    rw [e]; clear e
    go_enter Tryd.func51, Tryd.ntmps51
    go_wp2
    go_ret
    exact ⟨rfl, below_box _ _⟩
  by_cases n2 : 120 < n
  · have e : Trm.chk u n = 3 := by unfold Trm.chk; rw [if_neg (by omega), if_pos (by omega)]
    rw [e]; clear e
    go_enter Tryd.func51, Tryd.ntmps51
    go_wp2
    go_ret
    exact ⟨rfl, below_box _ _⟩
  · have e : Trm.chk u n = 0 := by unfold Trm.chk; rw [if_neg (by omega), if_neg (by omega)]
    rw [e]; clear e
    go_enter Tryd.func51, Tryd.ntmps51
    go_wp2
    go_ret
    exact ⟨rfl, below_box _ _⟩
theorem refTCheck_at (u n c : Int) (w : World) (h : Trm.chk u n = c) :
    Calls Tryd.prog 51 #[.agg #[.int .i64 u, .int .i64 n]] w fun e w' => e = .returned (.int .i64 c) ∧ Below w.heap.size w w' := by
  subst h; exact refTCheck_any u n w
theorem Has3.put {w : World} {b : Nat} {x y z : Int} (h : Has3 w b x y z) (t : Int) : Has3 (w.setCell ⟨b, 2, none⟩ (.int .i64 t)) b x y t :=
  ⟨by rw [World.size_setCell]; exact h.1, by rw [World.cell?_setCell_other _ _ _ _ (fun h => by cases h)]; exact h.2.1, by rw [World.cell?_setCell_other _ _ _ _ (fun h => by cases h)]; exact h.2.2.1, by rw [World.cell?_setCell_same' _ _ _ (by rw [h.2.2.2]; rfl)]⟩
theorem noDay_no (s : Int) (w : World) (h1 : 1 ≤ s) (h2 : s ≤ 3652059) :
    Calls Tryd.prog 33 #[.int .i64 s] w fun e w' => e = .returned (.bool false) ∧ w' = w := by
  have g1 : decide (s < 1) = false := by simp; omega
  have g2 : decide (3652059 < s) = false := by simp; omega
  go_enter Tryd.func33, Tryd.ntmps33
  go_wp2
  go_ret
  exact ⟨rfl, rfl⟩
theorem noDay_yes (s : Int) (w : World) (h : s < 1 ∨ 3652059 < s) :
    Calls Tryd.prog 33 #[.int .i64 s] w fun e w' => e = .returned (.bool true) ∧ w' = w := by
  by_cases h1 : s < 1
  · clear h
    go_enter Tryd.func33, Tryd.ntmps33
    go_wp2
    go_ret
    exact ⟨rfl, rfl⟩
  · have h2 : 3652059 < s := by omega
    clear h
    go_enter Tryd.func33, Tryd.ntmps33
    go_wp2
    go_ret
    exact ⟨rfl, rfl⟩
set_option maxHeartbeats 1000000 in
theorem refTermDay_days (s y m d u n k : Int) (w : World) (hv : Cal.vld y m d) (hs : Cal.num y m d = s) (hu : u = 1 ∨ u = 2) (hn1 : 1 ≤ n) (hn2 : n ≤ 120) (hk1 : 0 ≤ k) (hk2 : k ≤ 1001) :
    Calls Tryd.prog 52 #[.int .i64 s, .agg #[.int .i64 u, .int .i64 n], .int .i64 k] w fun e w' => e = .returned (.int .i64 (Trm.day y m d u n k)) ∧ Below w.heap.size w w' := by
  have hq := Trm.mul_in k n hk1 hk2 hn1 hn2
  rw [Int.mul_comm k n] at hq
  have hi := Cal.num_in y m d hv
  rw [hs] at hi
  rcases hu with rfl | rfl
  · by_cases ho : 3652059 < s + n * k
    · have e : Trm.day y m d 1 n k = 0 := by unfold Trm.day Trm.days; rw [if_pos rfl, hs, Int.mul_comm k n, if_pos ho]
      rw [e]; clear e hs hv
      go_enter Tryd.func52, Tryd.ntmps52
      go_wp2
      go_ret
      exact ⟨rfl, below_box _ _⟩
    · have e : Trm.day y m d 1 n k = s + n * k := by unfold Trm.day Trm.days; rw [if_pos rfl, hs, Int.mul_comm k n, if_neg ho]
      rw [e]; clear e hs hv
      go_enter Tryd.func52, Tryd.ntmps52
      go_wp2
      go_ret
      exact ⟨rfl, below_box _ _⟩
  · by_cases ho : 3652059 < s + 7 * (n * k)
    · have e : Trm.day y m d 2 n k = 0 := by unfold Trm.day Trm.days; rw [if_neg (by decide), if_pos rfl, hs, Int.mul_comm k n, Int.mul_comm _ 7, if_pos ho]
      rw [e]; clear e hs hv
      go_enter Tryd.func52, Tryd.ntmps52
      go_wp2
      go_ret
      exact ⟨rfl, below_box _ _⟩
    · have e : Trm.day y m d 2 n k = s + 7 * (n * k) := by unfold Trm.day Trm.days; rw [if_neg (by decide), if_pos rfl, hs, Int.mul_comm k n, Int.mul_comm _ 7, if_neg ho]
      rw [e]; clear e hs hv
      go_enter Tryd.func52, Tryd.ntmps52
      go_wp2
      go_ret
      exact ⟨rfl, below_box _ _⟩
set_option maxHeartbeats 2000000 in
theorem refTermDay_months (s y m d u n k q : Int) (w : World) (hv : Cal.vld y m d) (hs : Cal.num y m d = s) (hq : (u = 3 ∧ q = n * k) ∨ (u = 4 ∧ q = n * k * 12)) (hn1 : 1 ≤ n) (hn2 : n ≤ 120) (hk1 : 0 ≤ k) (hk2 : k ≤ 1001) :
    Calls Tryd.prog 52 #[.int .i64 s, .agg #[.int .i64 u, .int .i64 n], .int .i64 k] w fun e w' => e = .returned (.int .i64 (Trm.mon y m d q)) ∧ Below w.heap.size w w' := by
  have hb := Trm.mul_in k n hk1 hk2 hn1 hn2
  rw [Int.mul_comm k n] at hb
  have HV : Hid (Cal.vld y m d ∧ Cal.num y m d = s) := ⟨hv, hs⟩
  obtain ⟨v1, v2, v3, v4, v5, v6⟩ := hv
  have hml := Cal.mlen_bd y m
  have v7 : d ≤ 31 := by omega
  clear hs v6 hml
  obtain ⟨Y, hY⟩ : ∃ Y, Y = y + (m - 1 + q) / 12 := ⟨_, rfl⟩
  obtain ⟨N, hN⟩ : ∃ N, N = (m - 1 + q) % 12 + 1 := ⟨_, rfl⟩
  have hM : Trm.mon y m d q = if 9999 < Y then 0 else Cal.num Y N (min d (Cal.mlen Y N)) := by rw [hY, hN]; rfl
  have q0 : 0 ≤ q ∧ q ≤ 1441440 := by omega
  have HM : Hid (_) := hM
  have HY : Hid (Y = y + (m - 1 + q) / 12) := hY
  have HN : Hid (N = (m - 1 + q) % 12 + 1) := hN
  clear hM hY hN
  rcases hq with ⟨rfl, hq⟩ | ⟨rfl, hq⟩
  all_goals
    have HQ : Hid (_) := hq
    have hq2 := hq.symm
    clear hq
    go_enter Tryd.func52, Tryd.ntmps52
    go_wp2_with fail
    refine (dateOf_ok s y m d _ HV.out.1 HV.out.2).mono ?_; rintro e w1 ⟨rfl, b1⟩
    have B1 : Hid (Below w.heap.size w w1) := below_next (below_box _ _) (Nat.le_refl _) b1
    have Z1 : Hid (w.heap.size + 1 ≤ w1.heap.size) := by have := b1.size; unfold Hid; simpa using this
    clear b1
    go_wp2_with fail
    go_quiet (fail)
    go_wp2_with fail
    have H3 : Hid (Has3 ((w1.alloc (.cells #[.int .i64 y, .int .i64 m, .int .i64 d] 78)).drewN nq) w1.heap.size y m d) := (Has3.new w1 y m d 78).drewN nq
    have B2 : Hid (Below w.heap.size w ((w1.alloc (.cells #[.int .i64 y, .int .i64 m, .int .i64 d] 78)).drewN nq)) := below_drewN (below_next B1.out (Nat.le_refl _) (below_box _ _)) nq
    have F2 : Hid (∀ o, ((w1.alloc (.cells #[.int .i64 y, .int .i64 m, .int .i64 d] 78)).drewN nq).frozen? ⟨w1.heap.size, o, none⟩ = false) := fun o => by simp
    go_loop [11, 12, 13] (fun a b c => ∃ Y1 M1 I : Int, a = .int .i64 Y1 ∧ b = .int .i64 M1 ∧ c = .int .i64 I ∧ 0 ≤ I ∧ I ≤ q % 12 ∧ 1 ≤ M1 ∧ M1 ≤ 12 ∧ 12 * Y1 + M1 = 12 * (y + q / 12) + m + I ∧ 1 ≤ Y1 ∧ Y1 ≤ 200000) (fun _ _ c => (q % 12 - intOf c).toNat)
    case atStart => exact ⟨y + q / 12, m, 0, rfl, rfl, rfl, by omega, by omega, v3, v4, by omega, by omega, by omega⟩
    case round =>
      obtain ⟨Y1, M1, I, rfl, rfl, rfl, i1, i2, i3, i4, i5, i6, i7⟩ := hrel
      have I5 : Hid (_) := i5
      clear i5
      by_cases hlt : I < q % 12
      · by_cases h12 : M1 + 1 = 13
        · have h12' : (M1 + 1 == 13) = true := by simpa using h12
          have H12 : Hid (_) := h12
          clear h12
          go_wp2
          go_round
          case rel => exact ⟨Y1 + 1, 1, I + 1, rfl, rfl, rfl, by omega, by omega, by omega, by omega, by have := I5.out; have := H12.out; omega, by omega, by have := I5.out; have := H12.out; omega⟩
          case measure => simp [intOf]; omega
        · have h12' : (M1 + 1 == 13) = false := by simpa using h12
          go_wp2
          go_round
          case rel => exact ⟨Y1, M1 + 1, I + 1, rfl, rfl, rfl, by omega, by omega, by omega, by omega, by have := I5.out; omega, by omega, by omega⟩
          case measure => simp [intOf]; omega
      · obtain rfl : Y1 = Y := by have := I5.out; have := HY.out; omega
        obtain rfl : M1 = N := by have := I5.out; have := HN.out; have := HY.out; omega
        by_cases ho : 9999 < Y1
        · have HM0 : Hid (Trm.mon y m d q = 0) := by unfold Hid; rw [HM.out, if_pos ho]
          go_wp2
          go_ret
          exact ⟨ret_int HM0.out.symm, B2.out⟩
        · have HM1 : Hid (Trm.mon y m d q = Cal.num Y1 M1 (min d (Cal.mlen Y1 M1))) := by unfold Hid; rw [HM.out, if_neg ho]
          have hml := Cal.mlen_bd Y1 M1
          have yle : Y1 ≤ 9999 := by omega
          clear HM
          go_wp2_with fail
          go_loopg [] d.toNat (fun kx wr => ∃ t : Int, 1 ≤ t ∧ t ≤ d ∧ t ≤ kx ∧ min d (Cal.mlen Y1 M1) ≤ t ∧ Hid (Has3 wr w1.heap.size y m t ∧ (∀ o, wr.frozen? ⟨w1.heap.size, o, none⟩ = false) ∧ Below w.heap.size w wr))
          case atStart => exact ⟨d, v5, Int.le_refl _, by omega, by omega, ⟨H3.out, F2.out, B2.out⟩⟩
          case round =>
            obtain ⟨t, t1, t2, t3, t4, KI⟩ := hrel
            clear H3 F2 B2
            obtain ⟨⟨j0, j1, j2, j3⟩, f2, bb⟩ := KI.out
            have hf2 := f2 2
            clear f2 bb
            by_cases ht : Cal.mlen Y1 M1 < t
            · go_wp2_with fail
              go_quiet ((go_at_call 66; exact Calls.quiet_of_same (monthDays_ok _ _ _ (by omega) (by omega) (by omega) (by omega))))
              go_wp2_with fail
              have HR : Hid (Has3 ((wr.drewN nq).setCell ⟨w1.heap.size, 2, none⟩ (.int .i64 (t - 1))) w1.heap.size y m (t - 1) ∧ (∀ o, ((wr.drewN nq).setCell ⟨w1.heap.size, 2, none⟩ (.int .i64 (t - 1))).frozen? ⟨w1.heap.size, o, none⟩ = false) ∧ Below w.heap.size w ((wr.drewN nq).setCell ⟨w1.heap.size, 2, none⟩ (.int .i64 (t - 1)))) :=
                ⟨Has3.put (Has3.drewN KI.out.1 nq) _, fun o => by rw [World.frozen?_setCell]; exact KI.out.2.1 o, (below_drewN KI.out.2.2 nq).setCell B1.out.size _⟩
              go_roundg (t - 1).toNat
              case measure => omega
              case rel => exact ⟨t - 1, by omega, by omega, by omega, by omega, HR⟩
            · obtain rfl : min d (Cal.mlen Y1 M1) = t := by omega
              have l1 : 1 ≤ min d (Cal.mlen Y1 M1) := by omega
              have l2 : min d (Cal.mlen Y1 M1) ≤ 31 := by omega
              have ht' : min d (Cal.mlen Y1 M1) ≤ Cal.mlen Y1 M1 := by omega
              clear ht
              go_wp2_with fail
              go_quiet ((go_at_call 66; exact Calls.quiet_of_same (monthDays_ok _ _ _ (by omega) (by omega) (by omega) (by omega))))
              go_wp2_with (go_at_call 67; refine (dayOf_any _ _ _ _ (by omega) (by omega) (by omega) (by omega) l1 l2).mono ?_; rintro e w3 ⟨rfl, b3⟩)
              go_ret
              exact ⟨ret_int HM1.out.symm, below_next (below_drewN KI.out.2.2 nq) (Nat.le_refl _) b3⟩
theorem refTermDay_any (s y m d u n k : Int) (w : World) (hv : Cal.vld y m d) (hs : Cal.num y m d = s) (hu1 : 1 ≤ u) (hu2 : u ≤ 4) (hn1 : 1 ≤ n) (hn2 : n ≤ 120) (hk1 : 0 ≤ k) (hk2 : k ≤ 1001) :
    Calls Tryd.prog 52 #[.int .i64 s, .agg #[.int .i64 u, .int .i64 n], .int .i64 k] w fun e w' => e = .returned (.int .i64 (Trm.day y m d u n k)) ∧ Below w.heap.size w w' := by
  by_cases h : u = 1 ∨ u = 2
  · exact refTermDay_days s y m d u n k w hv hs h hn1 hn2 hk1 hk2
  · by_cases h3 : u = 3
    · have e : Trm.day y m d u n k = Trm.mon y m d (n * k) := by unfold Trm.day; rw [if_neg (by omega), if_neg (by omega), if_pos h3, Int.mul_comm]
      rw [e]; exact refTermDay_months s y m d u n k _ w hv hs (.inl ⟨h3, rfl⟩) hn1 hn2 hk1 hk2
    · have e : Trm.day y m d u n k = Trm.mon y m d (n * k * 12) := by unfold Trm.day; rw [if_neg (by omega), if_neg (by omega), if_neg h3, Int.mul_comm k n]
      rw [e]; exact refTermDay_months s y m d u n k _ w hv hs (.inr ⟨by omega, rfl⟩) hn1 hn2 hk1 hk2
theorem refTermDay_at (s y m d u n k x : Int) (w : World) (hv : Cal.vld y m d) (hs : Cal.num y m d = s) (hu1 : 1 ≤ u) (hu2 : u ≤ 4) (hn1 : 1 ≤ n) (hn2 : n ≤ 120) (hk1 : 0 ≤ k) (hk2 : k ≤ 1001) (hx : Trm.day y m d u n k = x) :
    Calls Tryd.prog 52 #[.int .i64 s, .agg #[.int .i64 u, .int .i64 n], .int .i64 k] w fun e w' => e = .returned (.int .i64 x) ∧ Below w.heap.size w w' := by
  subst hx; exact refTermDay_any s y m d u n k w hv hs hu1 hu2 hn1 hn2 hk1 hk2
end Go.Proofs.YtandlmnbnjkklaaDoor
