/- The walks of the reference's weeks: they come to the same plain mathematics; nothing old in memory turns. -/
import Derived.Test.YtbolcbfbcjmpnaaDoorRef
import Derived.Test.YtbolcbfbcjmpnaaDoorBegun
namespace Go.Proofs.YtbolcbfbcjmpnaaDoor
open Go.RowKit Go.BigFrame Go.Sort

theorem dow_any (n : Int) (w : World) (h1 : 1 ≤ n) (h2 : n ≤ 4000000) :
    Calls Tryd.prog 32 #[.int .i64 n] w fun e w' => e = .returned (.int .i64 (Cal.wday n)) ∧ w' = w := by
  go_enter Tryd.func32, Tryd.ntmps32
  go_wp2
  go_loop [0] (fun v => ∃ c : Int, 1 ≤ c ∧ c ≤ n ∧ (n - c) % 7 = 0 ∧ v = .int .i64 c) (fun v => (intOf v).toNat)
  case atStart => exact ⟨n, by omega, by omega, by omega, rfl⟩
  case round =>
    obtain ⟨c, hc1, hc2, hc3, rfl⟩ := hrel
    have HC : Hid ((n - c) % 7 = 0) := hc3
    clear hc3
    by_cases hlt : 700000 < c
    · go_wp2
      go_round
      case rel => exact ⟨c - 700000, by omega, by omega, by have := HC.out; omega, rfl⟩
      case measure => simp [intOf]; omega
    · by_cases h7 : c % 7 = 0
      · go_wp2
        go_ret
        exact ⟨ret_int (by have := HC.out; unfold Cal.wday; omega), rfl⟩
      · go_wp2
        go_ret
        exact ⟨ret_int (by have := HC.out; unfold Cal.wday; omega), rfl⟩
set_option maxHeartbeats 400000 in
theorem weekOf_err (n : Int) (w : World) (h : n < 1 ∨ 3652059 < n) :
    Calls Tryd.prog 20 #[.int .i64 n] w fun e w' => e = .returned (.tuple #[.agg #[.int .i64 0, .int .i64 0, .int .i64 0], .int .i64 3]) ∧ Below w.heap.size w w' := by
  by_cases h1 : n < 1
  · clear h
    go_enter Tryd.func20, Tryd.ntmps20
    go_wp2
    exact bodyPost_ret (v := .tuple #[.agg #[.int .i64 0, .int .i64 0, .int .i64 0], .int .i64 3]) (by simp [results, Tryd.results20, go_sem]) rfl ⟨rfl, below_box _ _⟩
  · have h2 : 3652059 < n := by omega
    clear h
    go_enter Tryd.func20, Tryd.ntmps20
    go_wp2
    exact bodyPost_ret (v := .tuple #[.agg #[.int .i64 0, .int .i64 0, .int .i64 0], .int .i64 3]) (by simp [results, Tryd.results20, go_sem]) rfl ⟨rfl, below_box _ _⟩
theorem Cal.wyear_is (n y m d : Int) (hv : Cal.vld y m d) (hn : Cal.num y m d = Cal.mid n) : y = Cal.wyear n := by
  have a := Cal.num_bd y m d hv
  have b := Cal.wyear_spec n
  exact Cal.year_inj (Cal.mid n) _ _ (by omega) (by omega) b.1 b.2
/-- A block of three whole numbers that lies there and may be written. -/
def Own3 (w : World) (b : Nat) (x y z : Int) : Prop := Has3 w b x y z ∧ w.frozen? ⟨b, 0, none⟩ = false ∧ w.frozen? ⟨b, 1, none⟩ = false ∧ w.frozen? ⟨b, 2, none⟩ = false
theorem Own3.below {w w' : World} {b : Nat} {x y z : Int} (h : Own3 w b x y z) (hb : Below w.heap.size w w') : Own3 w' b x y z :=
  ⟨h.1.below hb, by rw [(bcell hb).2 b 0 h.1.1]; exact h.2.1, by rw [(bcell hb).2 b 1 h.1.1]; exact h.2.2.1, by rw [(bcell hb).2 b 2 h.1.1]; exact h.2.2.2⟩
theorem Own3.new (w : World) (x y z : Int) (t : Nat) : Own3 (w.alloc (.cells #[.int .i64 x, .int .i64 y, .int .i64 z] t)) w.heap.size x y z :=
  ⟨Has3.new w x y z t, by simp, by simp, by simp⟩
set_option maxHeartbeats 1000000 in
theorem weekOf_ok (n : Int) (w : World) (h1 : 1 ≤ n) (h2 : n ≤ 3652059) :
    Calls Tryd.prog 20 #[.int .i64 n] w fun e w' => e = .returned (.tuple #[.agg #[.int .i64 (Cal.wyear n), .int .i64 (Cal.wno n), .int .i64 (Cal.wday n)], .int .i64 0]) ∧ Below w.heap.size w w' := by
  have hm := Cal.mid_in n h1 h2
  obtain ⟨y, m, d, hv, hn⟩ := Cal.ex_date (Cal.mid n) (by omega) (by omega)
  obtain rfl := Cal.wyear_is n y m d hv hn
  have HN : Hid (Cal.num (Cal.wyear n) m d = Cal.mid n) := hn
  clear hn
  have hy := Cal.wyear_in n h1 h2
  have hwd := Cal.wday_in n
  have hs := Cal.wyear_spec n
  have ha := Cal.ahead_bd (Cal.wyear n) hy.1 (by omega)
  have HM : Hid (Cal.mid n = n + 4 - Cal.wday n) := by unfold Hid Cal.mid; omega
  have HNY : Hid (Cal.num (Cal.wyear n) 1 1 = Cal.ahead (Cal.wyear n) + 1) := by unfold Hid Cal.num; rw [Cal.cum_1]; omega
  have HW : Hid ((n + 4 - Cal.wday n - (Cal.ahead (Cal.wyear n) + 1)) / 7 + 1 = Cal.wno n) := by unfold Hid Cal.wno Cal.mid; omega
  have e9 : Cal.num 9999 1 1 = 3651695 := by decide
  rw [HM.out] at hs
  have ht : n + 4 - Cal.wday n ≤ 3652059 := by rw [HM.out] at hm; omega
  go_enter Tryd.func20, Tryd.ntmps20
  go_wp2_with (go_at_call 32; refine (dow_any _ _ (by omega) (by omega)).mono ?_; rintro e w1 ⟨rfl, rfl⟩)
  have o1 := Own3.new w 0 0 0 35
  have B1 := below_box w (.cells #[.int .i64 0, .int .i64 0, .int .i64 0] 35)
  refine (dayOf_any 9999 1 1 _ (by omega) (by omega) (by omega) (by omega) (by omega) (by omega)).mono ?_; rintro e w2 ⟨rfl, b2⟩
  have o2 := o1.below b2
  have B2 := below_next B1 (Nat.le_refl _) b2
  clear o1 B1 b2
  go_wp2_with fail
  refine (dateOf_ok (n + 4 - Cal.wday n) (Cal.wyear n) m d _ hv (HN.out.trans HM.out)).mono ?_; rintro e w3 ⟨rfl, b3⟩
  have o3 := (o2.below b3).below (below_box w3 (.cells #[.int .i64 (Cal.wyear n), .int .i64 m, .int .i64 d] 23))
  have B3 := below_next (below_next B2 (Nat.le_refl _) b3) (Nat.le_refl _) (below_box w3 (.cells #[.int .i64 (Cal.wyear n), .int .i64 m, .int .i64 d] 23))
  clear o2 B2 b3
  go_wp2_with fail
  refine (dayOf_any (Cal.wyear n) 1 1 _ (by omega) (by omega) (by omega) (by omega) (by omega) (by omega)).mono ?_; rintro e w4 ⟨rfl, b4⟩
  have o4 := o3.below b4
  have B4 := below_next B3 (Nat.le_refl _) b4
  clear o3 B3 b4
  rw [HNY.out]
  obtain ⟨⟨q0, q1, q2, q3⟩, f1, f2, f3⟩ := o4
  go_wp2_with (go_at_call 32; refine (dow_any _ _ (by omega) (by omega)).mono ?_; rintro e w1 ⟨rfl, rfl⟩)
  exact bodyPost_ret (v := .tuple #[.agg #[.int .i64 (Cal.wyear n), .int .i64 ((n + 4 - Cal.wday n - (Cal.ahead (Cal.wyear n) + 1)) / 7 + 1), .int .i64 (Cal.wday n)], .int .i64 0]) (by simp [results, Tryd.results20, go_sem, q1, q2, q3]) rfl ⟨by rw [HW.out], ((B4.setCell (Nat.le_refl _) _).setCell (Nat.le_refl _) _).setCell (Nat.le_refl _) _⟩
end Go.Proofs.YtbolcbfbcjmpnaaDoor
