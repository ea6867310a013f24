/- What must be in any case: the usual calendar's holidays of 2022, and days of work about its new year. -/
import Derived.Test.YtpjpmfcbddkjnaaDoorVHof
import Derived.Test.YtpjpmfcbddkjnaaDoorWTop2
import Derived.Lib.QuietBelow
namespace Go.Proofs.YtpjpmfcbddkjnaaDoor
open Go.RowKit

namespace Wk
def U : Rst := ⟨false, false, false, false, false, true, true⟩
def UL : List Rl := [(1, 1, 1, 0), (3, 0, 1, 0), (2, 5, 5, 1)]
theorem U_chk : cchk U UL = 0 := by decide +kernel
theorem U_days : days U UL 2022 = [738158, 738263, 738305] := by decide +kernel
theorem U_hol : hol U UL 2022 = [738158, 738263, 738305] := by
  unfold hol
  rw [U_days]
  exact Spn.once_unique _ _ (by simp) (fun _ => Iff.rfl)
theorem U_w5 : isW U UL 738155 = true := by decide +kernel
theorem U_w6 : isW U UL 738156 = false := by decide +kernel
theorem U_w7 : isW U UL 738157 = false := by decide +kernel
theorem U_w8 : isW U UL 738158 = false := by decide +kernel
theorem U_w9 : isW U UL 738159 = true := by decide +kernel
theorem U_told (f : Int × Int) : told U UL f = f := by unfold told; rw [if_pos U_chk]
theorem U_next : told U UL (next U UL 738156) = (738159, 0) := by
  rw [U_told, next_in U UL 738156 (by decide) (by decide), if_neg (by rw [U_w6]; decide), next_in U UL (738156 + 1) (by decide) (by decide), if_neg (by rw [show (738156 : Int) + 1 = 738157 from rfl, U_w7]; decide), next_in U UL (738156 + 1 + 1) (by decide) (by decide), if_neg (by rw [show (738156 : Int) + 1 + 1 = 738158 from rfl, U_w8]; decide), next_in U UL (738156 + 1 + 1 + 1) (by decide) (by decide), if_pos (by rw [show (738156 : Int) + 1 + 1 + 1 = 738159 from rfl, U_w9])]
  rfl
theorem U_add : told U UL (add U UL 738155 1) = (738159, 0) := by
  rw [U_told]
  unfold add
  rw [if_pos (by decide), if_neg (by decide), show (738155 : Int) + 1 = 738156 from rfl]
  rw [addS_in U UL 738156 1 (by decide) (by decide), if_neg (by rw [U_w6]; decide), addS_in U UL (738156 + 1) 1 (by decide) (by decide), if_neg (by rw [show (738156 : Int) + 1 = 738157 from rfl, U_w7]; decide), addS_in U UL (738156 + 1 + 1) 1 (by decide) (by decide), if_neg (by rw [show (738156 : Int) + 1 + 1 = 738158 from rfl, U_w8]; decide), addS_in U UL (738156 + 1 + 1 + 1) 1 (by decide) (by decide), if_pos (by rw [show (738156 : Int) + 1 + 1 + 1 = 738159 from rfl, U_w9]), if_pos rfl]
  rfl
theorem U_count : told U UL (count U UL 738155 738160) = (2, 0) := by
  rw [U_told]
  decide +kernel
theorem U_holC : holC U UL 2022 = 0 := by unfold holC; rw [if_pos U_chk]; rfl
theorem U_holV : holV U UL 2022 = [738158, 738263, 738305] := by unfold holV; rw [if_pos U_holC, U_hol]
def All : Rst := ⟨true, true, true, true, true, true, true⟩
theorem All_chk : cchk All [] = 1 := by decide
end Wk
set_option maxRecDepth 100000 in
set_option maxHeartbeats 1000000 in
theorem usual_any (w : World) :
    Calls Tryd.prog 30 #[] w fun e w' => ∃ a, e = .returned (calV Wk.U a 3 3) ∧ Row4 w' a Wk.UL ∧ Below w.heap.size w w' := by
  go_enter Tryd.func30, Tryd.ntmps30
  go_wp2
  exact bodyPost_ret (v := calV Wk.U (some ⟨w.heap.size + 1, 0, none⟩) 3 3) (by simp [results, Tryd.results30, go_sem, calV, Wk.U]) rfl ⟨_, rfl, .inr ⟨w.heap.size + 1, 0, rfl, by simp, fun i hi => by
    have hi' : i < 3 := hi
    rcases (by omega : i = 0 ∨ i = 1 ∨ i = 2) with rfl | rfl | rfl <;> simp [Wk.UL]⟩, ((Below.refl _ _).alloc (Nat.le_refl _) _).alloc (by simp) _⟩
theorem of_i (n y m d : Int) (w : World) (hw : Laid w) (h : Cal.vld y m d) (hn : Cal.num y m d = n) :
    Calls Tryd.prog 24 #[.int .i64 n] w fun e w' => e = .returned (.tuple #[.agg #[.int .i64 y, .int .i64 m, .int .i64 d], .int .i64 0]) ∧ Below w.heap.size w w' := of_at n y m d w hw h hn
theorem holidays_at (a : Option Addr) (w : World) (hw : Laid w) (hr : Row4 w a Wk.UL) :
    Calls Tryd.prog 9 #[calV Wk.U a 3 3, .int .i64 2022] w fun e w' => ∃ b c, e = .returned (.tuple #[.slice b 3 c, .int .i64 0]) ∧ Row1 w' b [738158, 738263, 738305] ∧ Below w.heap.size w w' := by
  refine (pHolidays Wk.U Wk.UL a 3 2022 w (by decide) hw hr).mono ?_
  rintro e w' ⟨v, rfl, ho, hb⟩
  rw [Wk.U_holV] at ho
  obtain ⟨b, c, rfl, h1⟩ := ho.row
  exact ⟨b, c, by rw [Wk.U_holC]; rfl, h1, hb⟩
theorem next_at (a : Option Addr) (w : World) (hw : Laid w) (hr : Row4 w a Wk.UL) :
    Calls Tryd.prog 16 #[calV Wk.U a 3 3, .int .i64 738156] w fun e w' => e = .returned (.tuple #[.int .i64 738159, .int .i64 0]) ∧ Below w.heap.size w w' := by
  refine (pNext Wk.U Wk.UL a 3 738156 w (by decide) hw hr).mono ?_
  rintro e w' ⟨rfl, hb⟩
  rw [Wk.U_next]; exact ⟨rfl, hb⟩
theorem add_at (a : Option Addr) (w : World) (hw : Laid w) (hr : Row4 w a Wk.UL) :
    Calls Tryd.prog 17 #[calV Wk.U a 3 3, .int .i64 738155, .int .i64 1] w fun e w' => e = .returned (.tuple #[.int .i64 738159, .int .i64 0]) ∧ Below w.heap.size w w' := by
  refine (pAdd Wk.U Wk.UL a 3 738155 1 w (by decide) hw hr).mono ?_
  rintro e w' ⟨rfl, hb⟩
  rw [Wk.U_add]; exact ⟨rfl, hb⟩
theorem count_at (a : Option Addr) (w : World) (hw : Laid w) (hr : Row4 w a Wk.UL) :
    Calls Tryd.prog 18 #[calV Wk.U a 3 3, .int .i64 738155, .int .i64 738160] w fun e w' => e = .returned (.tuple #[.int .i64 2, .int .i64 0]) ∧ Below w.heap.size w w' := by
  refine (pCount Wk.U Wk.UL a 3 738155 738160 w (by decide) hw hr).mono ?_
  rintro e w' ⟨rfl, hb⟩
  rw [Wk.U_count]; exact ⟨rfl, hb⟩
theorem check_all (w : World) (hw : Laid w) :
    Calls Tryd.prog 12 #[calV Wk.All none 0 0] w fun e w' => e = .returned (.int .i64 1) ∧ Below w.heap.size w w' := by
  have := wCheck Wk.All [] none 0 w (by decide) hw (.inl rfl)
  rw [Wk.All_chk] at this
  exact this
theorem row1_at {w : World} {a : Option Addr} {xs : List Int} (h : Row1 w a xs) (hx : xs ≠ []) : ∃ b off, a = some ⟨b, off, none⟩ ∧ b < w.heap.size ∧ ∀ i x, xs[i]? = some x → w.cell? ⟨b, off + i, none⟩ = some (.int .i64 x) := by
  rcases h with rfl | ⟨b, off, rfl, hb, hc⟩
  · exact absurd rfl hx
  · refine ⟨b, off, rfl, hb, fun i x hi => ?_⟩
    have hlt : i < xs.length := by
      by_cases c : i < xs.length
      · exact c
      · rw [List.getElem?_eq_none (by omega)] at hi; cases hi
    rw [hc i hlt]
    simp [List.getD, hi]
set_option maxHeartbeats 2000000 in
theorem wbegun_any (w : World) (hw : Laid w) :
    Calls Tryd.prog 11 #[] w fun e w' => e = .returned (.bool true) ∧ Below w.heap.size w w' := by
  go_enter Tryd.func11, Tryd.ntmps11
  go_wp2_with fail
  refine (usual_any _).mono ?_; rintro e w1 ⟨a1, rfl, r1, b1⟩
  have l1 := hw.below b1
  go_wp2_with fail
  refine (holidays_at _ _ l1 r1).mono ?_; rintro e w2 ⟨q, c, rfl, r2, b2⟩
  have l2 := l1.below b2
  have B2 := below_next b1 (Nat.le_refl _) b2
  obtain ⟨bq, oq, rfl, hbq, cq⟩ := row1_at r2 (by simp)
  have c0 : w2.cell? ⟨bq, oq, none⟩ = _ := cq 0 738158 rfl
  have c1 := cq 1 738263 rfl
  have c2 := cq 2 738305 rfl
  clear hw l1 b1 b2 r1 r2 cq
  go_wp2_with fail
  refine (of_at 738158 2022 1 3 _ l2 (by unfold Cal.vld; decide) (by decide)).mono ?_; rintro e w3 ⟨rfl, b3⟩
  have l3 := l2.below b3
  have B3 := below_next B2 (Nat.le_refl _) b3
  have h3 : bq < w3.heap.size := Nat.lt_of_lt_of_le hbq b3.size
  rw [← (bcell b3).1 _ _ hbq] at c1 c2
  clear l2 B2 b3 c0
  have x3 := Has3.new w3 2022 1 3 46
  have l3' := l3.alloc (.cells #[.int .i64 2022, .int .i64 1, .int .i64 3] 46)
  have B3' := below_next B3 (Nat.le_refl _) (below_box w3 (.cells #[.int .i64 2022, .int .i64 1, .int .i64 3] 46))
  rw [← (bcell (below_box w3 (.cells #[.int .i64 2022, .int .i64 1, .int .i64 3] 46))).1 _ _ h3] at c1 c2
  have h3' := Nat.lt_of_lt_of_le h3 (below_box w3 (.cells #[.int .i64 2022, .int .i64 1, .int .i64 3] 46)).size
  clear l3 B3 h3
  go_wp2_with fail
  refine (of_at 738263 2022 4 18 _ l3' (by unfold Cal.vld; decide) (by decide)).mono ?_; rintro e w4 ⟨rfl, b4⟩
  have l4 := l3'.below b4
  have B4 := below_next B3' (Nat.le_refl _) b4
  have h4 : bq < w4.heap.size := Nat.lt_of_lt_of_le h3' b4.size
  rw [← (bcell b4).1 _ _ h3'] at c2
  have x4 := x3.below b4
  clear l3' B3' b4 h3' c1 x3
  have y4 := Has3.new w4 2022 4 18 46
  have l4' := l4.alloc (.cells #[.int .i64 2022, .int .i64 4, .int .i64 18] 46)
  have B4' := below_next B4 (Nat.le_refl _) (below_box w4 (.cells #[.int .i64 2022, .int .i64 4, .int .i64 18] 46))
  rw [← (bcell (below_box w4 (.cells #[.int .i64 2022, .int .i64 4, .int .i64 18] 46))).1 _ _ h4] at c2
  have x4' := x4.alloc (.cells #[.int .i64 2022, .int .i64 4, .int .i64 18] 46)
  clear l4 B4 h4 x4
  go_wp2_with fail
  refine (of_at 738305 2022 5 30 _ l4' (by unfold Cal.vld; decide) (by decide)).mono ?_; rintro e w5 ⟨rfl, b5⟩
  have l5 := l4'.below b5
  have B5 := below_next B4' (Nat.le_refl _) b5
  have x5 := x4'.below b5
  have y5 := y4.below b5
  clear l4' B4' b5 c2 x4' y4
  have z5 := Has3.new w5 2022 5 30 46
  have l5' := l5.alloc (.cells #[.int .i64 2022, .int .i64 5, .int .i64 30] 46)
  have B5' := below_next B5 (Nat.le_refl _) (below_box w5 (.cells #[.int .i64 2022, .int .i64 5, .int .i64 30] 46))
  have x5' := x5.alloc (.cells #[.int .i64 2022, .int .i64 5, .int .i64 30] 46)
  have y5' := y5.alloc (.cells #[.int .i64 2022, .int .i64 5, .int .i64 30] 46)
  clear l5 B5 x5 y5
  go_wp2_with fail
  refine (mk_any _ _ _ _).mono ?_; rintro e w6 ⟨rfl, b6⟩
  have l6 := l5'.below b6
  have x6 := x5'.below b6
  have y6 := y5'.below b6
  have z6 := z5.below b6
  have B6 := below_next B5' (Nat.le_refl _) b6
  clear l5' x5' y5' z5 B5' b6
  go_wp2_with fail
  refine (day_at 2021 12 31 738155 _ l6 (by unfold Cal.vld; decide) (by decide)).mono ?_; rintro e w7 ⟨rfl, b7⟩
  have l7 := l6.below b7
  have x7 := x6.below b7
  have y7 := y6.below b7
  have z7 := z6.below b7
  have B7 := below_next B6 (Nat.le_refl _) b7
  clear l6 x6 y6 z6 B6 b7
  go_wp2_with fail
  refine (usual_any _).mono ?_; rintro e w8 ⟨a8, rfl, r8, b8⟩
  have l8 := l7.below b8
  have x8 := x7.below b8
  have y8 := y7.below b8
  have z8 := z7.below b8
  have B8 := below_next B7 (Nat.le_refl _) b8
  clear l7 x7 y7 z7 B7 b8
  go_wp2_with fail
  refine (next_at _ _ l8 r8).mono ?_; rintro e w9 ⟨rfl, b9⟩
  have l9 := l8.below b9
  have x9 := x8.below b9
  have y9 := y8.below b9
  have z9 := z8.below b9
  have B9 := below_next B8 (Nat.le_refl _) b9
  clear l8 x8 y8 z8 B8 b9 r8
  go_wp2_with fail
  refine (usual_any _).mono ?_; rintro e w10 ⟨a10, rfl, r10, b10⟩
  have l10 := l9.below b10
  have x10 := x9.below b10
  have y10 := y9.below b10
  have z10 := z9.below b10
  have B10 := below_next B9 (Nat.le_refl _) b10
  clear l9 x9 y9 z9 B9 b10
  go_wp2_with fail
  refine (add_at _ _ l10 r10).mono ?_; rintro e w11 ⟨rfl, b11⟩
  have l11 := l10.below b11
  have x11 := x10.below b11
  have y11 := y10.below b11
  have z11 := z10.below b11
  have B11 := below_next B10 (Nat.le_refl _) b11
  clear l10 x10 y10 z10 B10 b11 r10
  go_wp2_with fail
  refine (usual_any _).mono ?_; rintro e w12 ⟨a12, rfl, r12, b12⟩
  have l12 := l11.below b12
  have x12 := x11.below b12
  have y12 := y11.below b12
  have z12 := z11.below b12
  have B12 := below_next B11 (Nat.le_refl _) b12
  clear l11 x11 y11 z11 B11 b12
  go_wp2_with fail
  refine (count_at _ _ l12 r12).mono ?_; rintro e w13 ⟨rfl, b13⟩
  have l13 := l12.below b13
  have x13 := x12.below b13
  have y13 := y12.below b13
  have z13 := z12.below b13
  have B13 := below_next B12 (Nat.le_refl _) b13
  clear l12 x12 y12 z12 B12 b13 r12
  go_wp2_with fail
  have p0 := cell_regrown x13.2.1
  have p1 := cell_regrown x13.2.2.1
  have p2 := cell_regrown x13.2.2.2
  have p3 := cell_regrown y13.2.1
  have p4 := cell_regrown y13.2.2.1
  have p5 := cell_regrown y13.2.2.2
  have p6 := cell_regrown z13.2.1
  have p7 := cell_regrown z13.2.2.1
  have p8 := cell_regrown z13.2.2.2
  clear x13 y13 z13
  refine wp_region_quiet_below (by kernel_rfl) (by kernel_rfl) ?_
  repeat go_big_quiet_step (first
    | (go_at_call 32; exact Calls.regrown_of (mk_any _ _ _ _))
    | (go_at_call 12; exact Calls.regrown_of (check_all _ (l13.below (below_regrown _ _ _)))))
  refine wpQuiet_nil ?_
  intro _ hw'
  obtain ⟨⟨dq, osq⟩, hw''⟩ := hw'
  subst hw''
  go_wp2
  go_ret
  exact ⟨rfl, below_next B13 (Nat.le_refl _) (below_regrown w13 dq osq)⟩
end Go.Proofs.YtpjpmfcbddkjnaaDoor
