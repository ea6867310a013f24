/- The walks of package term's small functions: within, a day, Check, days behind, in a month. -/
import Derived.Test.YtandlmnbnjkklaaDoorBegun
import Derived.Test.YtandlmnbnjkklaaDoorTrm
import Derived.Deep.LoopGhost
namespace Go.Proofs.YtandlmnbnjkklaaDoor
open Go.RowKit

theorem twithin_yes (n a b : Int) (w : World) (h1 : a ≤ n) (h2 : n ≤ b) :
    Calls Tryd.prog 59 #[.int .i64 n, .int .i64 a, .int .i64 b] w fun e w' => e = .returned (.bool true) ∧ w' = w := by
  go_enter Tryd.func59, Tryd.ntmps59
  go_wp2
  go_ret
  exact ⟨rfl, rfl⟩
theorem twithin_no (n a b : Int) (w : World) (h : n < a ∨ b < n) :
    Calls Tryd.prog 59 #[.int .i64 n, .int .i64 a, .int .i64 b] w fun e w' => e = .returned (.bool false) ∧ w' = w := by
  by_cases h1 : a ≤ n
  · have h2 : ¬ n ≤ b := by omega
    clear h
    go_enter Tryd.func59, Tryd.ntmps59
    go_wp2
    go_ret
    exact ⟨rfl, rfl⟩
  · clear h
    go_enter Tryd.func59, Tryd.ntmps59
    go_wp2
    go_ret
    exact ⟨rfl, rfl⟩
theorem tday_yes (n : Int) (w : World) (h1 : 1 ≤ n) (h2 : n ≤ 3652059) :
    Calls Tryd.prog 58 #[.int .i64 n] w fun e w' => e = .returned (.bool true) ∧ w' = w := by
  go_enter Tryd.func58, Tryd.ntmps58
  go_wp2_with (go_at_call 59; refine (twithin_yes _ _ _ _ h1 h2).mono ?_; rintro e w' ⟨rfl, rfl⟩)
  go_ret
  exact ⟨rfl, rfl⟩
theorem tday_no (n : Int) (w : World) (h : n < 1 ∨ 3652059 < n) :
    Calls Tryd.prog 58 #[.int .i64 n] w fun e w' => e = .returned (.bool false) ∧ w' = w := by
  go_enter Tryd.func58, Tryd.ntmps58
  go_wp2_with (go_at_call 59; refine (twithin_no _ _ _ _ h).mono ?_; rintro e w' ⟨rfl, rfl⟩)
  go_ret
  exact ⟨rfl, rfl⟩
theorem tcheck_any (u n : Int) (w : World) :
    Calls Tryd.prog 57 #[.agg #[.int .i64 u, .int .i64 n]] w fun e w' => e = .returned (.int .i64 (Trm.chk u n)) ∧ Below w.heap.size w w' := by
  by_cases hu : u < 1 ∨ 4 < u
  · have e : Trm.chk u n = 7 := by unfold Trm.chk; rw [if_pos hu]
    rw [e]; clear e
    have HU : Hid (u < 1 ∨ 4 < u) := hu
    clear hu
    go_enter Tryd.func57, Tryd.ntmps57
    go_wp2_with (go_at_call 59; refine (twithin_no _ _ _ _ HU.out).mono ?_; rintro e w' ⟨rfl, rfl⟩)
    go_ret
    exact ⟨rfl, below_box _ _⟩
  · by_cases hn : n < 1 ∨ 120 < n
    · have e : Trm.chk u n = 3 := by unfold Trm.chk; rw [if_neg hu, if_pos hn]
      rw [e]; clear e
      have u1 : 1 ≤ u := by omega
      have u2 : u ≤ 4 := by omega
      have HN : Hid (n < 1 ∨ 120 < n) := hn
      clear hn hu
      go_enter Tryd.func57, Tryd.ntmps57
      go_wp2_with (first
        | (go_at_call 59; refine (twithin_yes _ _ _ _ (by omega) (by omega)).mono ?_; rintro e w' ⟨rfl, rfl⟩)
        | (go_at_call 59; refine (twithin_no _ _ _ _ HN.out).mono ?_; rintro e w' ⟨rfl, rfl⟩))
      go_ret
      exact ⟨rfl, below_box _ _⟩
    · have e : Trm.chk u n = 0 := by unfold Trm.chk; rw [if_neg hu, if_neg hn]
      rw [e]; clear e
      have u1 : 1 ≤ u := by omega
      have u2 : u ≤ 4 := by omega
      have n1 : 1 ≤ n := by omega
      have n2 : n ≤ 120 := by omega
      clear hn hu
      go_enter Tryd.func57, Tryd.ntmps57
      go_wp2_with (go_at_call 59; refine (twithin_yes _ _ _ _ (by omega) (by omega)).mono ?_; rintro e w' ⟨rfl, rfl⟩)
      go_ret
      exact ⟨rfl, below_box _ _⟩
theorem daysBehind_any (s q : Int) (w : World) (h1 : 1 ≤ s) (h2 : s ≤ 3652059) (h3 : 0 ≤ q) (h4 : q ≤ 2000000) :
    Calls Tryd.prog 70 #[.int .i64 s, .int .i64 q] w fun e w' => e = .returned (.tuple #[.int .i64 (Trm.days s q), .int .i64 (Trm.over (Trm.days s q))]) ∧ Below w.heap.size w w' := by
  by_cases h : 3652059 < s + q
  · have e : Trm.days s q = 0 := by unfold Trm.days; rw [if_pos h]
    have e2 : Trm.over 0 = 8 := rfl
    rw [e, e2]; clear e e2
    have h' : 3652059 - s < q := by omega
    go_enter Tryd.func70, Tryd.ntmps70
    go_wp2
    go_ret2
    exact ⟨rfl, Below.refl _ _⟩
  · have e : Trm.days s q = s + q := by unfold Trm.days; rw [if_neg h]
    have e2 : Trm.over (s + q) = 0 := by unfold Trm.over; rw [if_neg (by omega)]
    rw [e, e2]; clear e e2
    have h' : q ≤ 3652059 - s := by omega
    go_enter Tryd.func70, Tryd.ntmps70
    go_wp2
    go_ret2
    exact ⟨rfl, Below.refl _ _⟩
theorem day_all (y m d x c : Int) (w : World) (hw : Laid w) (h : (Cal.vld y m d ∧ Cal.num y m d = x ∧ c = 0) ∨ (¬ Cal.vld y m d ∧ x = 0 ∧ c = 3)) :
    Calls Tryd.prog 86 #[.agg #[.int .i64 y, .int .i64 m, .int .i64 d]] w fun e w' => e = .returned (.tuple #[.int .i64 x, .int .i64 c]) ∧ Below w.heap.size w w' := by
  rcases h with ⟨h1, h2, rfl⟩ | ⟨h1, rfl, rfl⟩
  · exact day_at y m d x w hw h1 h2
  · exact day_err y m d w hw h1
set_option maxHeartbeats 1000000 in
theorem inMonth_any (y m d : Int) (w : World) (hw : Laid w) (h1 : 1 ≤ y) (h2 : y ≤ 9999) (h3 : 1 ≤ m) (h4 : m ≤ 12) (h5 : 1 ≤ d) (h6 : d ≤ 31) :
    Calls Tryd.prog 79 #[.agg #[.int .i64 y, .int .i64 m, .int .i64 d]] w fun e w' => e = .returned (.tuple #[.int .i64 (Cal.num y m (min d (Cal.mlen y m))), .int .i64 0]) ∧ Below w.heap.size w w' := by
  have hml := Cal.mlen_bd y m
  have key : ∀ t : Int, 1 ≤ t → ∃ x c : Int, ((Cal.vld y m t ∧ Cal.num y m t = x ∧ c = 0) ∨ (¬ Cal.vld y m t ∧ x = 0 ∧ c = 3)) ∧ (t ≤ Cal.mlen y m → x = Cal.num y m t ∧ c = 0) ∧ (Cal.mlen y m < t → x = 0 ∧ c = 3) := fun t ht => by
    by_cases c : t ≤ Cal.mlen y m
    · exact ⟨Cal.num y m t, 0, .inl ⟨⟨h1, h2, h3, h4, ht, c⟩, rfl, rfl⟩, fun _ => ⟨rfl, rfl⟩, fun c' => by omega⟩
    · exact ⟨0, 3, .inr ⟨fun v => c v.2.2.2.2.2, rfl, rfl⟩, fun c' => by omega, fun _ => ⟨rfl, rfl⟩⟩
  have KEY : Hid (_) := key
  clear key
  obtain ⟨x0, c0, k1, k2, k3⟩ := KEY.out d h5
  have K1 : Hid (_) := k1
  clear k1
  have l0 := hw.alloc (.cells #[.int .i64 y, .int .i64 m, .int .i64 d] 78)
  have L0 : Hid (Laid (w.alloc (.cells #[.int .i64 y, .int .i64 m, .int .i64 d] 78))) := l0
  have HW : Hid (Laid w) := hw
  clear hw l0
  go_enter Tryd.func79, Tryd.ntmps79
  go_wp2_with fail
  refine (day_all _ _ _ x0 c0 _ L0.out K1.out).mono ?_; rintro e w1 ⟨rfl, b1⟩
  have l1 := L0.out.below b1
  have d1 := (Has3.new w y m d 78).below b1
  have f1 : ∀ o, w1.frozen? ⟨w.heap.size, o, none⟩ = false := fun o => by rw [(bcell b1).2 w.heap.size o (by simp)]; simp
  have B1 := below_next (below_box w _) (Nat.le_refl _) b1
  have HB : Hid (_) := B1
  have HD : Hid (_) := d1
  have HL : Hid (Laid w1) := l1
  have HF : Hid (_) := f1
  clear b1 B1 d1 l1 f1
  go_wp2_with fail
  go_loopg [4, 5] d.toNat (fun kx s4 s5 wr => ∃ t x c : Int, s4 = .int .i64 x ∧ s5 = .int .i64 c ∧ 1 ≤ t ∧ t ≤ d ∧ t ≤ kx ∧ min d (Cal.mlen y m) ≤ t ∧ Hid ((t ≤ Cal.mlen y m → x = Cal.num y m t ∧ c = 0) ∧ (Cal.mlen y m < t → x = 0 ∧ c = 3)) ∧
    Hid (Has3 wr w.heap.size y m t ∧ (∀ o, wr.frozen? ⟨w.heap.size, o, none⟩ = false) ∧ Below w.heap.size w wr ∧ Laid wr))
  case atStart => exact ⟨d, x0, c0, rfl, rfl, h5, Int.le_refl _, by omega, by omega, ⟨k2, k3⟩, ⟨HD.out, HF.out, HB.out, HL.out⟩⟩
  case round =>
    obtain ⟨t, x, c, rfl, rfl, t1, t2, t3, t4, kc, ki⟩ := hrel
    clear k2 k3 HB HD HL HF L0 K1
    obtain ⟨i1, i2, i3, i4⟩ := ki.out
    obtain ⟨j0, j1, j2, j3⟩ := i1
    by_cases ht : t ≤ Cal.mlen y m
    · obtain ⟨rfl, rfl⟩ := kc.out.1 ht
      obtain rfl : min d (Cal.mlen y m) = t := by omega
      clear i2 i4
      have HB : Hid (_) := i3
      clear i3
      go_wp2
      go_ret2
      exact ⟨rfl, HB.out⟩
    · obtain ⟨rfl, rfl⟩ := kc.out.2 (by omega)
      have t5 : 1 < t := by omega
      obtain ⟨x', c', k1, k2, k3⟩ := KEY.out (t - 1) (by omega)
      have K1 : Hid (_) := k1
      have K2 : Hid (_) := And.intro k2 k3
      clear k1 k2 k3
      have B2 := i3.setCell (p := ⟨w.heap.size, 2, none⟩) (Nat.le_refl _) (.int .i64 (t - 1))
      have HL : Hid (Laid (wr.setCell ⟨w.heap.size, 2, none⟩ (.int .i64 (t - 1)))) := HW.out.below B2
      have HB : Hid (_) := B2
      have h3' : Has3 (wr.setCell ⟨w.heap.size, 2, none⟩ (.int .i64 (t - 1))) w.heap.size y m (t - 1) := ⟨by rw [World.size_setCell]; exact j0, by rw [World.cell?_setCell_other _ _ _ _ (fun h => by cases h)]; exact j1, by rw [World.cell?_setCell_other _ _ _ _ (fun h => by cases h)]; exact j2, by rw [World.cell?_setCell_same' _ _ _ (by rw [j3]; rfl)]⟩
      have H3 : Hid (_) := h3'
      have HF : Hid (∀ o, (wr.setCell ⟨w.heap.size, 2, none⟩ (.int .i64 (t - 1))).frozen? ⟨w.heap.size, o, none⟩ = false) := fun o => by rw [World.frozen?_setCell]; exact i2 o
      have f2 := i2 2
      clear i2 i3 i4 B2 h3' kc ki
      go_wp2_with fail
      refine (day_all _ _ _ x' c' _ HL.out K1.out).mono ?_; rintro e w2 ⟨rfl, b2⟩
      have B3 := below_next HB.out (Nat.le_refl _) b2
      have H4 := Has3.below H3.out b2
      have F4 : ∀ o, w2.frozen? ⟨w.heap.size, o, none⟩ = false := fun o => by rw [(bcell b2).2 w.heap.size o H3.out.1]; exact HF.out o
      have HR : Hid (Has3 w2 w.heap.size y m (t - 1) ∧ (∀ o, w2.frozen? ⟨w.heap.size, o, none⟩ = false) ∧ Below w.heap.size w w2 ∧ Laid w2) := ⟨H4, F4, B3, HL.out.below b2⟩
      clear B3 H4 F4 b2 HB HL H3 HF
      go_wp2_with fail
      go_roundg (t - 1).toNat
      case measure => omega
      case rel => exact ⟨t - 1, x', c', rfl, rfl, by omega, by omega, by omega, by omega, K2.out, HR.out⟩
end Go.Proofs.YtandlmnbnjkklaaDoor
