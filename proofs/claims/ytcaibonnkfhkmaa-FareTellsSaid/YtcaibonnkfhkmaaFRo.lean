/- The walk of the document's price of zones a to b with so many percent off. -/
import Derived.Test.YtcaibonnkfhkmaaFOf
namespace Go.Proofs.Ytcaibonnkfhkmaa
open Go.RowKit

set_option maxRecDepth 100000 in
set_option maxHeartbeats 800000 in
theorem refOf_bad {f : List (List Int)} (ad : Option Addr) (cap : Nat) (a b p way : Int) (w : World) (hl : f.length ≤ maxLen) (hm : Mat w ad f) (hc : Fr.chk f ≠ 0) :
    Calls Try.prog 12 #[.slice ad f.length cap, .int .i64 a, .int .i64 b, .int .i64 p, .int .i64 way] w fun e w' => e = .returned (.tuple #[.int .i64 (Fr.ofV f a b p way), .int .i64 (Fr.ofE f a b p way)]) ∧ ∃ q, w' = w.drewN q := by
  have C := faresCheck_any f ad cap w hl hm
  have HV : Hid (Fr.ofV f a b p way = 0) := by show _ = _; unfold Fr.ofV; rw [if_pos hc]
  have HE : Hid (Fr.ofE f a b p way = Fr.chk f) := by show _ = _; unfold Fr.ofE; rw [if_pos hc]
  have hc' : (Fr.chk f != 0) = true := by simpa using hc
  generalize Fr.chk f = c at *
  clear hm
  go_enter Try.func12, Try.ntmps12
  go_wp2_with fail
  refine C.mono ?_; rintro e w' ⟨rfl, rfl⟩
  go_wp2
  go_ret2
  exact ⟨by rw [HV.out, HE.out]; rfl, 0, rfl⟩
theorem good_iff (f : List (List Int)) (a b p : Int) : Fr.good f a b p = true ↔ ((0 ≤ a ∧ a ≤ b) ∧ b < f.length) ∧ 0 ≤ p ∧ p ≤ 100 := by
  unfold Fr.good Fr.g1 Fr.g2 Fr.g3
  simp
  omega
set_option maxRecDepth 100000 in
set_option maxHeartbeats 800000 in
theorem refOf_ok {f : List (List Int)} (ad : Option Addr) (cap : Nat) (a b p way : Int) (w : World) (hl : f.length ≤ maxLen) (hm : Mat w ad f) (hc : Fr.chk f = 0) :
    Calls Try.prog 12 #[.slice ad f.length cap, .int .i64 a, .int .i64 b, .int .i64 p, .int .i64 way] w fun e w' => e = .returned (.tuple #[.int .i64 (Fr.ofV f a b p way), .int .i64 (Fr.ofE f a b p way)]) ∧ ∃ q, w' = w.drewN q := by
  have C := faresCheck_any f ad cap w hl hm
  have HM : Hid (Mat w ad f) := hm
  obtain ⟨hn1, hn6, hs, hP⟩ := Fr.chk_zero hc
  have HS : Hid (Sq f) := hs
  have HV : Hid (Fr.ofV f a b p way = if Fr.good f a b p then Pen.part (Fr.pr f a.toNat b.toNat) (100 - p) 100 way else 0) := by show _ = _; unfold Fr.ofV; rw [if_neg (by omega)]
  have HE : Hid (Fr.ofE f a b p way = if Fr.good f a b p then Pen.partE (Fr.pr f a.toNat b.toNat) (100 - p) 100 way else 3) := by show _ = _; unfold Fr.ofE; rw [if_neg (by omega)]
  rw [hc] at C
  have hg := good_iff f a b p
  obtain ⟨n, hn⟩ : ∃ n, f.length = n := ⟨_, rfl⟩
  have HN : Hid (f.length = n) := hn
  rw [hn] at hn1 hn6 hg C ⊢
  clear hs hP hn hc hm hl
  by_cases h1 : a < 0
  · have d1 : decide (a < 0) = true := by simpa using h1
    have HGG : Hid (Fr.good f a b p = false) := by show _ = _; rw [Bool.eq_false_iff]; intro e; have := hg.1 e; omega
    clear hg
    go_enter Try.func12, Try.ntmps12
    go_wp2_with fail
    refine C.mono ?_; rintro e w' ⟨rfl, rfl⟩
    go_wp2
    try go_quiet (fail)
    try go_wp2
    go_ret2
    exact ⟨by rw [HV.out, HE.out, HGG.out]; rfl, 0, rfl⟩
  have d1 : decide (a < 0) = false := by simpa using h1
  by_cases h2 : b < a
  · have d2 : decide (b < a) = true := by simpa using h2
    have HGG : Hid (Fr.good f a b p = false) := by show _ = _; rw [Bool.eq_false_iff]; intro e; have := hg.1 e; omega
    clear hg
    go_enter Try.func12, Try.ntmps12
    go_wp2_with fail
    refine C.mono ?_; rintro e w' ⟨rfl, rfl⟩
    go_wp2
    try go_quiet (fail)
    try go_wp2
    go_ret2
    exact ⟨by rw [HV.out, HE.out, HGG.out]; rfl, 0, rfl⟩
  have d2 : decide (b < a) = false := by simpa using h2
  by_cases h3 : (n : Int) ≤ b
  · have d3 : decide ((n : Int) ≤ b) = true := by simpa using h3
    have HGG : Hid (Fr.good f a b p = false) := by show _ = _; rw [Bool.eq_false_iff]; intro e; have := hg.1 e; omega
    clear hg
    go_enter Try.func12, Try.ntmps12
    go_wp2_with fail
    refine C.mono ?_; rintro e w' ⟨rfl, rfl⟩
    go_wp2
    try go_quiet (fail)
    try go_wp2
    go_ret2
    exact ⟨by rw [HV.out, HE.out, HGG.out]; rfl, 0, rfl⟩
  have d3 : decide ((n : Int) ≤ b) = false := by simpa using h3
  by_cases h4 : p < 0
  · have d4 : decide (p < 0) = true := by simpa using h4
    have HGG : Hid (Fr.good f a b p = false) := by show _ = _; rw [Bool.eq_false_iff]; intro e; have := hg.1 e; omega
    clear hg
    go_enter Try.func12, Try.ntmps12
    go_wp2_with fail
    refine C.mono ?_; rintro e w' ⟨rfl, rfl⟩
    go_wp2
    try go_quiet (fail)
    try go_wp2
    go_ret2
    exact ⟨by rw [HV.out, HE.out, HGG.out]; rfl, 0, rfl⟩
  have d4 : decide (p < 0) = false := by simpa using h4
  by_cases h5 : 100 < p
  · have d5 : decide (100 < p) = true := by simpa using h5
    have HGG : Hid (Fr.good f a b p = false) := by show _ = _; rw [Bool.eq_false_iff]; intro e; have := hg.1 e; omega
    clear hg
    go_enter Try.func12, Try.ntmps12
    go_wp2_with fail
    refine C.mono ?_; rintro e w' ⟨rfl, rfl⟩
    go_wp2
    try go_quiet (fail)
    try go_wp2
    go_ret2
    exact ⟨by rw [HV.out, HE.out, HGG.out]; rfl, 0, rfl⟩
  have d5 : decide (100 < p) = false := by simpa using h5
  have HGG : Hid (Fr.good f a b p = true) := hg.2 ⟨⟨⟨by omega, by omega⟩, by omega⟩, by omega, by omega⟩
  obtain ⟨x, hx⟩ : ∃ x : Nat, a = x := ⟨a.toNat, by omega⟩
  obtain ⟨y, hy⟩ : ∃ y : Nat, b = y := ⟨b.toNat, by omega⟩
  subst hx hy
  obtain ⟨b1, o1, b2, o2, ci, hf, hb1, hb2, c1, c2⟩ := HM.out.price (x := x) (y := y) (by rw [HN.out]; omega) (by rw [HS.out x (by rw [HN.out]; omega), HN.out]; omega)
  rw [HS.out x (by rw [HN.out]; omega), HN.out] at c1
  subst hf
  obtain ⟨t, ht⟩ : ∃ t, y - x = t := ⟨_, rfl⟩
  obtain ⟨r, hr⟩ : ∃ r, n - x = r := ⟨_, rfl⟩
  rw [ht] at c2
  rw [hr] at c1
  have htr' : (t : Int) < (r : Int) := by omega
  have hxn' : (x : Int) < (n : Int) := by omega
  have et : (y : Int) - (x : Int) = (t : Int) := by omega
  have hwt : IntKind.i64.wrap (t : Int) = (t : Int) := by rw [IntKind.wrap_i64]; omega
  rw [Int.toNat_natCast, Int.toNat_natCast] at HV HE
  generalize Fr.pr f x y = pv at *
  have PP := fun W => refPart_any pv (100 - p) 100 way W
  clear hg
  go_enter Try.func12, Try.ntmps12
  go_wp2_with fail
  refine C.mono ?_; rintro e w' ⟨rfl, rfl⟩
  go_wp2_with fail
  refine (PP _).mono ?_; rintro e w' ⟨rfl, rfl⟩
  go_wp2
  go_ret2
  exact ⟨by rw [HV.out, HE.out, HGG.out]; rfl, 0, rfl⟩
theorem refOf_any {f : List (List Int)} (ad : Option Addr) (cap : Nat) (a b p way : Int) (w : World) (hl : f.length ≤ maxLen) (hm : Mat w ad f) :
    Calls Try.prog 12 #[.slice ad f.length cap, .int .i64 a, .int .i64 b, .int .i64 p, .int .i64 way] w fun e w' => e = .returned (.tuple #[.int .i64 (Fr.ofV f a b p way), .int .i64 (Fr.ofE f a b p way)]) ∧ ∃ q, w' = w.drewN q := by
  by_cases hc : Fr.chk f = 0
  · exact refOf_ok ad cap a b p way w hl hm hc
  · exact refOf_bad ad cap a b p way w hl hm hc
end Go.Proofs.Ytcaibonnkfhkmaa
