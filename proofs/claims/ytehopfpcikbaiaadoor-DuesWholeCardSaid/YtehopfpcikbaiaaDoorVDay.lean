/- The reference's day of a rule in a year. -/
import Derived.Test.YtehopfpcikbaiaaDoorVCalToEBegun
import Derived.Test.YtehopfpcikbaiaaDoorWkToWDay
import Derived.Test.YtehopfpcikbaiaaDoorERef
namespace Go.Proofs.YtehopfpcikbaiaaDoor
open Go.RowKit

theorem two_boxes {w : World} {o1 o2 : Obj} {j : Nat} {v : Value} (h : (w.alloc o1).cell? ⟨w.heap.size, j, none⟩ = some v) : ((w.alloc o1).alloc o2).cell? ⟨w.heap.size, j, none⟩ = some v := by
  rw [World.cell?_alloc_past _ _ _ (by simp)]; exact h
set_option maxRecDepth 100000 in
set_option maxHeartbeats 800000 in
theorem vFixed (R : Wk.Rst) (a : Option Addr) (len cap : Nat) (m d wd y : Int) (w : World) (hR : R.all = false) (hv : Cal.vld y m d) (hy : y ≤ 9998) :
    Calls Tryd.prog 78 #[calV R a len cap, .agg #[.int .i64 1, .int .i64 m, .int .i64 d, .int .i64 wd], .int .i64 y] w fun e w' => e = .returned (.int .i64 (Wk.push R (Cal.num y m d))) ∧ Below w.heap.size w w' := by
  have b1 := below_box w (.cells #[.bool R.b0, .bool R.b1, .bool R.b2, .bool R.b3, .bool R.b4, .bool R.b5, .bool R.b6, .slice a len cap] 25)
  have b2 := b1.alloc (by simp) (.cells #[.int .i64 1, .int .i64 m, .int .i64 d, .int .i64 wd] 74)
  have HCC : Hid (∀ k : Nat, k < 7 → ((w.alloc (.cells #[.bool R.b0, .bool R.b1, .bool R.b2, .bool R.b3, .bool R.b4, .bool R.b5, .bool R.b6, .slice a len cap] 25)).alloc (.cells #[.int .i64 1, .int .i64 m, .int .i64 d, .int .i64 wd] 74)).cell? ⟨w.heap.size, k, none⟩ = some (.bool (R.at k))) := fun k hk => two_boxes (calCell R _ _ w k hk)
  have sA : w.heap.size < ((w.alloc (.cells #[.bool R.b0, .bool R.b1, .bool R.b2, .bool R.b3, .bool R.b4, .bool R.b5, .bool R.b6, .slice a len cap] 25)).alloc (.cells #[.int .i64 1, .int .i64 m, .int .i64 d, .int .i64 wd] 74)).heap.size := by simp; omega
  have hn := Cal.num_in y m d hv
  have hp := Wk.push_spec R hR (Cal.num y m d)
  have HP : Hid (∀ z, Cal.num y m d ≤ z → z < Wk.push R (Cal.num y m d) → R.rest z = true) := hp.2.2.2
  have hp1 := hp.1
  have hp2 := hp.2.1
  have HL : Hid (R.rest (Wk.push R (Cal.num y m d)) = false) := hp.2.2.1
  have hd := fun W => dayOf_any y m d W hv.1 (by omega) hv.2.2.1 hv.2.2.2.1 hv.2.2.2.2.1 (by have := Cal.mlen_bd y m; have := hv.2.2.2.2.2; omega)
  clear hp hv
  generalize Wk.push R (Cal.num y m d) = X at *
  generalize Cal.num y m d = N at *
  go_enter Tryd.func78, Tryd.ntmps78
  go_wp2_with fail
  refine (hd _).mono ?_
  rintro e w1 ⟨rfl, b3⟩
  have B := below_next b2 (Nat.le_refl _) b3
  have HC1 : Hid (∀ k : Nat, k < 7 → w1.cell? ⟨w.heap.size, k, none⟩ = some (.bool (R.at k))) := fun k hk => (b3.cell (p := ⟨w.heap.size, k, none⟩) sA).trans (HCC.out k hk)
  clear b1 b2 b3 hd HCC sA
  go_wp2
  go_loopw [7] (fun i wr => ∃ n : Int, N ≤ n ∧ n ≤ X ∧ i = .int .i64 n ∧ wr = w1) (fun i _ => (X - intOf i).toNat)
  case atStart => exact ⟨N, by omega, by omega, rfl, rfl⟩
  case round =>
    obtain ⟨n, h1, h2, rfl, rfl⟩ := hrel
    obtain ⟨k, hk⟩ : ∃ k : Nat, (n - 1) % 7 = (k : Int) := ⟨((n - 1) % 7).toNat, by omega⟩
    have hk7 : k < 7 := by omega
    have hwd : Cal.wday n = (k : Int) + 1 := by unfold Cal.wday; rw [hk]
    have hre : R.rest n = R.at k := by unfold Wk.Rst.rest; rw [hk]
    have ck := HC1.out k hk7
    have hk0 : (0 : Int) ≤ (k : Int) := by omega
    have hk7' : (k : Int) < 7 := by omega
    have hw1 : IntKind.i64.wrap ((k : Int) + 1 - 1) = k := by rw [IntKind.wrap_i64]; omega
    have hw2 : IntKind.i64.wrap (n + 1) = n + 1 := by rw [IntKind.wrap_i64]; omega
    clear hk
    go_wp2_with fail
    refine (dow_any n _ (by omega) (by omega)).mono ?_
    rintro e w2 ⟨rfl, rfl⟩
    rw [hwd]
    clear hwd
    by_cases hx : n = X
    · have e0 := HL.out
      rw [← hx, hre] at e0
      rw [e0] at ck
      have HX : Hid (n = X) := hx
      clear hre e0 hx
      go_wp2
      go_ret
      exact ⟨ret_int HX.out, B⟩
    · have e0 := HP.out n h1 (by omega)
      rw [hre] at e0
      rw [e0] at ck
      clear hre e0
      go_wp2
      go_roundw
      case rel => exact ⟨n + 1, by omega, by omega, by go_num, by first | rfl | trivial⟩
      case measure => simp [intOf]; omega
set_option maxRecDepth 100000 in
set_option maxHeartbeats 800000 in
theorem vMoving (R : Wk.Rst) (a : Option Addr) (len cap : Nat) (d y : Int) (w : World) (hy : y ≤ 9998) (hd1 : -100 ≤ d) (hd2 : d ≤ 100) :
    Calls Tryd.prog 78 #[calV R a len cap, .agg #[.int .i64 3, .int .i64 0, .int .i64 d, .int .i64 0], .int .i64 y] w fun e w' => e = .returned (.int .i64 (if 1583 ≤ y then Cal.easter y + d else 0)) ∧ Below w.heap.size w w' := by
  have b1 := below_box w (.cells #[.bool R.b0, .bool R.b1, .bool R.b2, .bool R.b3, .bool R.b4, .bool R.b5, .bool R.b6, .slice a len cap] 25)
  have b2 := b1.alloc (by simp) (.cells #[.int .i64 3, .int .i64 0, .int .i64 d, .int .i64 0] 74)
  have c2 : ((w.alloc (.cells #[.bool R.b0, .bool R.b1, .bool R.b2, .bool R.b3, .bool R.b4, .bool R.b5, .bool R.b6, .slice a len cap] 25)).alloc (.cells #[.int .i64 3, .int .i64 0, .int .i64 d, .int .i64 0] 74)).cell? ⟨w.heap.size + 1, 2, none⟩ = some (.int .i64 d) := by
    simp
  have sA : w.heap.size + 1 < ((w.alloc (.cells #[.bool R.b0, .bool R.b1, .bool R.b2, .bool R.b3, .bool R.b4, .bool R.b5, .bool R.b6, .slice a len cap] 25)).alloc (.cells #[.int .i64 3, .int .i64 0, .int .i64 d, .int .i64 0] 74)).heap.size := by simp
  have HC2 : Hid (_) := c2
  clear c2
  by_cases hy2 : 1583 ≤ y
  · rw [if_pos hy2]
    have eb := easter_bd y hy2 (by omega)
    have he := fun W => easterOf_ok y W hy2 (by omega)
    generalize Cal.easter y = E at *
    have hw : IntKind.i64.wrap (E + d) = E + d := by rw [IntKind.wrap_i64]; omega
    go_enter Tryd.func78, Tryd.ntmps78
    go_wp2_with fail
    refine (he _).mono ?_
    rintro e w1 ⟨rfl, b3⟩
    have B := below_next b2 (Nat.le_refl _) b3
    have c3 : w1.cell? ⟨w.heap.size + 1, 2, none⟩ = some (.int .i64 d) := (b3.cell (p := ⟨w.heap.size + 1, 2, none⟩) sA).trans HC2.out
    clear b1 b2 b3 he HC2 sA
    go_wp2
    go_ret
    exact ⟨rfl, B⟩
  · rw [if_neg hy2]
    go_enter Tryd.func78, Tryd.ntmps78
    go_wp2_with fail
    refine (easterOf_err y _ (.inl (by omega))).mono ?_
    rintro e w1 ⟨rfl, b3⟩
    have B := below_next b2 (Nat.le_refl _) b3
    clear b1 b2 b3 HC2 sA
    go_wp2
    go_ret
    exact ⟨rfl, B⟩
end Go.Proofs.YtehopfpcikbaiaaDoor
