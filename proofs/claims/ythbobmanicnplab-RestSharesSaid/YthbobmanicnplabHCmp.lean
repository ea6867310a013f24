/- The walks of package share: the closures of Hamilton, which tell whose rest is greater. -/
import Derived.Test.YthbobmanicnplabHJef
import Derived.Test.YthbobmanicnplabHStab
namespace Go.Proofs.Ythbobmanicnplab
open Go.RowKit Go.BigFrame Go.Sort

def cmpv (x y : Int) : Int := if x < y then -1 else if y < x then 1 else 0
theorem isNaN_any (x : Int) (w : World) : Calls Try.prog 18 #[.int .i64 x] w fun e w' => e = .returned (.bool false) ∧ w' = w := by
  go_enter Try.func18, Try.ntmps18
  go_wp2
  go_ret
  exact ⟨rfl, rfl⟩
theorem compare_any (x y : Int) (w : World) : Calls Try.prog 13 #[.int .i64 x, .int .i64 y] w fun e w' => e = .returned (.int .i64 (cmpv x y)) ∧ w' = w := by
  by_cases h1 : x < y
  · have HV : Hid (cmpv x y = -1) := by show _ = _; unfold cmpv; rw [if_pos h1]
    go_enter Try.func13, Try.ntmps13
    go_wp2_with (go_at_call 18; refine (isNaN_any _ _).mono ?_; rintro e w' ⟨rfl, rfl⟩)
    go_ret
    exact ⟨ret_int HV.out.symm, rfl⟩
  by_cases h2 : y < x
  · have HV : Hid (cmpv x y = 1) := by show _ = _; unfold cmpv; rw [if_neg h1, if_pos h2]
    go_enter Try.func13, Try.ntmps13
    go_wp2_with (go_at_call 18; refine (isNaN_any _ _).mono ?_; rintro e w' ⟨rfl, rfl⟩)
    go_ret
    exact ⟨ret_int HV.out.symm, rfl⟩
  · have HV : Hid (cmpv x y = 0) := by show _ = _; unfold cmpv; rw [if_neg h1, if_neg h2]
    go_enter Try.func13, Try.ntmps13
    go_wp2_with (go_at_call 18; refine (isNaN_any _ _).mono ?_; rintro e w' ⟨rfl, rfl⟩)
    go_ret
    exact ⟨ret_int HV.out.symm, rfl⟩
theorem compare_below (x y : Int) (w : World) : Calls Try.prog 13 #[.int .i64 x, .int .i64 y] w fun e w' => e = .returned (.int .i64 (cmpv x y)) ∧ Below w.heap.size w w' :=
  (compare_any x y w).mono fun _ _ h => ⟨h.1, h.2 ▸ Below.refl _ _⟩
def ptr (b : Nat) : Value := .pointer (some ⟨b, 0, none⟩)
/-- the boxes that Hamilton's closures read, all of them ahead of B -/
structure HBx (W : World) (B b0 b1 b2 b3 : Nat) (T : Int) (l : List Int) (a : Option Addr) (cap : Nat) : Prop where
  hB : B ≤ W.heap.size
  h0 : b0 < B
  h1 : b1 < B
  h2 : b2 < B
  h3 : b3 < B
  ha : ∀ p, a = some p → p.block < B ∨ l = []
  c0 : W.cell? ⟨b0, 0, none⟩ = some (.int .i64 T)
  c1 : W.cell? ⟨b1, 0, none⟩ = some (.slice a l.length cap)
  c2 : W.cell? ⟨b2, 0, none⟩ = some (.int .i64 l.sum)
  c3 : W.cell? ⟨b3, 0, none⟩ = some (.func (.func 10) #[] #[.pointer (some ⟨b0, 0, none⟩), .pointer (some ⟨b1, 0, none⟩), .pointer (some ⟨b2, 0, none⟩)])
  row : Row1 W a l
theorem HBx.below {W W' : World} {B b0 b1 b2 b3 : Nat} {T : Int} {l : List Int} {a : Option Addr} {cap : Nat} (h : HBx W B b0 b1 b2 b3 T l a cap) (hb : Below B W W') : HBx W' B b0 b1 b2 b3 T l a cap := by
  have cl : ∀ b, b < B → W'.cell? ⟨b, 0, none⟩ = W.cell? ⟨b, 0, none⟩ := fun b hlt => hb.cell (p := ⟨b, 0, none⟩) hlt
  refine ⟨Nat.le_trans h.hB hb.size, h.h0, h.h1, h.h2, h.h3, h.ha, (cl _ h.h0).trans h.c0, (cl _ h.h1).trans h.c1, (cl _ h.h2).trans h.c2, (cl _ h.h3).trans h.c3, ?_⟩
  rcases h.row with hr | ⟨b, off, rfl, hlt, hc⟩
  · exact .inl hr
  · rcases h.ha _ rfl with hlb | hnil
    · exact .inr ⟨b, off, rfl, Nat.lt_of_lt_of_le hlt hb.size, fun i hi => (hb.cell (p := ⟨b, off + i, none⟩) hlb).trans (hc i hi)⟩
    · exact .inl hnil
set_option maxHeartbeats 1000000 in
theorem rest_any (W : World) (B b0 b1 b2 b3 : Nat) (T : Int) (l : List Int) (a : Option Addr) (cap : Nat) (ok : Shr.Ok T l) (h : HBx W B b0 b1 b2 b3 T l a cap) (i : Nat) (hi : i < l.length) :
    Calls Try.prog 10 #[.int .i64 i, .pointer (some ⟨b0, 0, none⟩), .pointer (some ⟨b1, 0, none⟩), .pointer (some ⟨b2, 0, none⟩)] W fun e w' => e = .returned (.int .i64 (Shr.rs T l i)) ∧ Below W.heap.size W w' := by
  obtain ⟨b, off, rfl, _, _, c4⟩ := h.row.get hi
  have c0 := h.c0
  have c1 := h.c1
  have c2 := h.c2
  have hp := ok.prod i
  have hs := ok.sum
  have hs1 := ok.sum1
  have hz : (i : Int) < (l.length : Int) := by omega
  have HV : Hid (Shr.rs T l i = T * Shr.at' l i % l.sum) := rfl
  clear h ok
  generalize Shr.at' l i = x at *
  generalize l.sum = S at *
  have hp0 := hp.1
  have hp1 := hp.2
  clear hp
  go_enter Try.func10, Try.ntmps10
  go_wp2_with fail
  go_big_region
  go_wp2
  go_ret
  exact ⟨ret_int HV.out.symm, below_drewN (Below.refl _ _) 1⟩
theorem rest_at (W : World) (B b0 b1 b2 b3 : Nat) (T : Int) (l : List Int) (a : Option Addr) (cap : Nat) (ok : Shr.Ok T l) (h : HBx W B b0 b1 b2 b3 T l a cap) (x : Int) (h0 : 0 ≤ x) (h1 : x < l.length) :
    Calls Try.prog 10 #[.int .i64 x, .pointer (some ⟨b0, 0, none⟩), .pointer (some ⟨b1, 0, none⟩), .pointer (some ⟨b2, 0, none⟩)] W fun e w' => e = .returned (.int .i64 (Shr.rs T l x.toNat)) ∧ Below W.heap.size W w' := by
  obtain ⟨i, rfl⟩ := Int.eq_ofNat_of_zero_le h0
  exact rest_any W B b0 b1 b2 b3 T l a cap ok h i (by omega)
theorem cmpv_bd (x y : Int) : -1 ≤ cmpv x y ∧ cmpv x y ≤ 1 := by
  unfold cmpv
  repeat' split
  all_goals omega
theorem cmpv_neg (x y : Int) : cmpv x y < 0 ↔ x < y := by
  unfold cmpv
  repeat' split
  all_goals omega
set_option maxHeartbeats 1000000 in
theorem cmp_any (W : World) (B b0 b1 b2 b3 : Nat) (T : Int) (l : List Int) (a : Option Addr) (cap : Nat) (ok : Shr.Ok T l) (h : HBx W B b0 b1 b2 b3 T l a cap) (x y : Int) (x0 : 0 ≤ x) (x1 : x < l.length) (y0 : 0 ≤ y) (y1 : y < l.length) :
    Calls Try.prog 12 #[.int .i64 x, .int .i64 y, .pointer (some ⟨b3, 0, none⟩)] W fun e w' => e = .returned (.int .i64 (cmpv (Shr.rs T l y.toNat) (Shr.rs T l x.toNat))) ∧ Below W.heap.size W w' := by
  have HH : Hid (∀ d os, HBx (grow (redrawn W d) os) B b0 b1 b2 b3 T l a cap) := fun d os => h.below ((below_regrown W d os).mono h.hB)
  have HOK : Hid (Shr.Ok T l) := ok
  have c3 := cell_regrown h.c3
  clear h ok
  go_enter Try.func12, Try.ntmps12
  go_wp2_with fail
  refine wp_region_quiet_below (by kernel_rfl) (by kernel_rfl) ?_
  repeat go_big_quiet_step (first
    | (go_at_call 10; exact Calls.regrown_of (rest_at _ B b0 b1 b2 b3 T l a cap HOK.out (HH.out _ _) _ (by assumption) (by assumption)))
    | (go_at_call 13; exact Calls.regrown_of (compare_below _ _ _)))
  refine wpQuiet_nil ?_
  intro _ hw'
  obtain ⟨⟨dq, osq⟩, hw''⟩ := hw'
  subst hw''
  go_wp2
  go_ret
  exact ⟨rfl, below_regrown _ _ _⟩
theorem ham_cmp (W : World) (B b0 b1 b2 b3 : Nat) (T : Int) (l : List Int) (a : Option Addr) (cap : Nat) (ok : Shr.Ok T l) (h : HBx W B b0 b1 b2 b3 T l a cap) :
    CmpOk 12 #[.pointer (some ⟨b3, 0, none⟩)] B W l.length (fun x y => Shr.ltb T l x y = true) := by
  refine ⟨enters_of Try.func12 (by kernel_rfl) rfl, h.hB, fun x y x0 x1 y0 yx => ?_⟩
  · refine ⟨cmpv (Shr.rs T l y.toNat) (Shr.rs T l x.toNat), ?_, (cmpv_bd _ _).1, (cmpv_bd _ _).2, fun W' hW => ?_⟩
    · rw [cmpv_neg, Shr.ltb_iff]
      constructor
      · intro h; exact .inl h
      · intro h; omega
    · exact cmp_any W' B b0 b1 b2 b3 T l a cap ok (h.below hW) x y x0 x1 y0 (by omega)
end Go.Proofs.Ythbobmanicnplab
