/- The walks of the library's exchange and rotation of stretches (slices, for a stable sort), at rows of at most 64. -/
import Derived.Test.YthbobmanicnplabHKit
namespace Go.Proofs.Ythbobmanicnplab
open Go.RowKit

set_option maxHeartbeats 1000000 in
theorem swapRange_any (b n cap x y k : Nat) (F : Nat → Int) (fv : Value) (w : World) (hn : n ≤ 64) (h1 : x + k ≤ y) (h2 : y + k ≤ n) (hr : RowI w b n F) :
    Calls Try.prog 22 #[.slice (some ⟨b, 0, none⟩) n cap, .int .i64 x, .int .i64 y, .int .i64 k, fv] w fun e w' => e = .returned (.tuple #[]) ∧ RowI w' b n (Srt.swr F x y k) ∧ w.grownBy w' (some b) := by
  go_enter Try.func22, Try.ntmps22
  go_wp2
  go_loopw [10] (fun i wr => ∃ j : Nat, j ≤ k ∧ i = .int .i64 j ∧ RowI wr b n (Srt.swr F x y j) ∧ w.grownBy wr (some b)) (fun i _ => k - (intOf i).toNat)
  case atStart => exact ⟨0, Nat.zero_le _, rfl, hr.congr (fun q _ => (Srt.swr_zero F x y q).symm), World.grownBy.refl _ _⟩
  case round =>
    clear hr
    obtain ⟨j, hj, rfl, R, G⟩ := hrel
    by_cases hlt : j < k
    · have cx := R.cell (i := x + j) (by omega)
      have cy := R.cell (i := y + j) (by omega)
      have fx := R.frozen (x + j)
      have fy := R.frozen (y + j)
      have HR : Hid (RowI wr b n (Srt.swr F x y j)) := R
      have HG : Hid (w.grownBy wr (some b)) := G
      have HS : Hid (∀ q, Srt.swp (Srt.swr F x y j) (x + j) (y + j) q = Srt.swr F x y (j + 1) q) := Srt.swr_succ F x y j (by omega)
      generalize hvx : Srt.swr F x y j (x + j) = vx at cx
      generalize hvy : Srt.swr F x y j (y + j) = vy at cy
      have HX : Hid (vx = Srt.swr F x y j (x + j)) := hvx.symm
      have HY : Hid (vy = Srt.swr F x y j (y + j)) := hvy.symm
      obtain ⟨p, hp⟩ : ∃ p : Nat, p = x + j := ⟨_, rfl⟩
      obtain ⟨q, hq⟩ : ∃ q : Nat, q = y + j := ⟨_, rfl⟩
      have HP : Hid (p = x + j ∧ q = y + j) := ⟨hp, hq⟩
      rw [← hp] at cx fx
      rw [← hq] at cy fy
      have pz : (x : Int) + (j : Int) = (p : Int) := by omega
      have qz : (y : Int) + (j : Int) = (q : Int) := by omega
      have pn : (p : Int) < (n : Int) := by omega
      have qn : (q : Int) < (n : Int) := by omega
      have pq : p ≠ q := by omega
      clear R G hvx hvy hp hq
      go_wp2_with fail
      go_big_region
      go_wp2
      go_roundw
      case rel =>
        refine ⟨j + 1, by omega, by go_num, ?_, grown_swap HG.out _ _ _ _⟩
        have R1 := HR.out
        rw [HP.out.1, HP.out.2]
        exact R1.swapped HY.out HX.out HS.out
      case measure => simp [intOf]; omega
    · obtain rfl : j = k := by omega
      go_wp2
      go_end0
      exact ⟨rfl, R, G⟩
theorem swapRange_at (b n cap : Nat) (x y k : Int) (x' y' k' : Nat) (F : Nat → Int) (fv : Value) (w : World) (hx : x = x') (hy : y = y') (hk : k = k') (hn : n ≤ 64) (h1 : x' + k' ≤ y') (h2 : y' + k' ≤ n) (hr : RowI w b n F) :
    Calls Try.prog 22 #[.slice (some ⟨b, 0, none⟩) n cap, .int .i64 x, .int .i64 y, .int .i64 k, fv] w fun e w' => e = .returned (.tuple #[]) ∧ RowI w' b n (Srt.swr F x' y' k') ∧ w.grownBy w' (some b) := by
  subst hx hy hk; exact swapRange_any b n cap x' y' k' F fv w hn h1 h2 hr
set_option maxHeartbeats 1000000 in
theorem rotate_any (b n cap x m y : Nat) (F : Nat → Int) (fv : Value) (w : World) (hn : n ≤ 64) (h1 : x < m) (h2 : m < y) (h3 : y ≤ n) (hr : RowI w b n F) :
    Calls Try.prog 21 #[.slice (some ⟨b, 0, none⟩) n cap, .int .i64 x, .int .i64 m, .int .i64 y, fv] w fun e w' => e = .returned (.tuple #[]) ∧ RowI w' b n (Srt.rot F x m y) ∧ w.grownBy w' (some b) := by
  go_enter Try.func21, Try.ntmps21
  go_wp2
  go_loopw [10, 11] (fun iv jv wr => ∃ (i j : Nat) (G : Nat → Int), iv = .int .i64 i ∧ jv = .int .i64 j ∧ 0 < i ∧ 0 < j ∧ i ≤ m - x ∧ j ≤ y - m ∧ RowI wr b n G ∧ w.grownBy wr (some b) ∧ ∀ q, Srt.rot G (m - i) m (m + j) q = Srt.rot F x m y q) (fun iv jv _ => (intOf iv).toNat + (intOf jv).toNat)
  case atStart =>
    refine ⟨m - x, y - m, F, by congr 1; omega, by congr 1; omega, by omega, by omega, Nat.le_refl _, Nat.le_refl _, hr, World.grownBy.refl _ _, fun q => ?_⟩
    have e1 : m - (m - x) = x := by omega
    have e2 : m + (y - m) = y := by omega
    rw [e1, e2]
  case round =>
    clear hr
    obtain ⟨i, j, G, rfl, rfl, hi, hj, him, hjy, R, K, E⟩ := hrel
    have HG : Hid (w.grownBy wr (some b)) := K
    clear K
    rcases Nat.lt_trichotomy i j with c | c | c
    · have HE : Hid (∀ q, Srt.rot (Srt.swr G (m - i) (m + j - i) i) (m - i) m (m + (j - i)) q = Srt.rot F x m y q) := fun q => (Srt.rot_less G m i j (by omega) hi c q).trans (E q)
      have HS : Hid (RowI wr b n G) := R
      clear E R
      have c' : (i : Int) < (j : Int) := by omega
      go_wp2_with (go_at_call 22; refine (swapRange_at b n cap _ _ _ (m - i) (m + j - i) i G _ _ (by omega) (by omega) rfl hn (by omega) (by omega) HS.out).mono ?_; rintro e w2 ⟨rfl, R2, G2⟩)
      all_goals first | omega | skip
      go_roundw
      case rel => exact ⟨i, j - i, _, rfl, by congr 1; omega, hi, by omega, him, by omega, R2, HG.out.trans G2, HE.out⟩
      case measure => simp [intOf]; omega
    · subst c
      have HE : Hid (∀ q, Srt.swr G (m - i) m i q = Srt.rot F x m y q) := fun q => (Srt.rot_even G m i (by omega) q).trans (E q)
      have HS : Hid (RowI wr b n G) := R
      clear E R
      go_wp2_with (go_at_call 22; refine (swapRange_at b n cap _ _ _ (m - i) m i G _ _ (by omega) rfl rfl hn (by omega) (by omega) HS.out).mono ?_; rintro e w2 ⟨rfl, R2, G2⟩)
      go_end0
      exact ⟨rfl, R2.congr (fun q _ => HE.out q), HG.out.trans G2⟩
    · have HE : Hid (∀ q, Srt.rot (Srt.swr G (m - i) m j) (m - (i - j)) m (m + j) q = Srt.rot F x m y q) := fun q => (Srt.rot_more G m i j (by omega) hj c q).trans (E q)
      have HS : Hid (RowI wr b n G) := R
      clear E R
      have c' : (j : Int) < (i : Int) := by omega
      go_wp2_with (go_at_call 22; refine (swapRange_at b n cap _ _ _ (m - i) m j G _ _ (by omega) rfl rfl hn (by omega) (by omega) HS.out).mono ?_; rintro e w2 ⟨rfl, R2, G2⟩)
      all_goals first | omega | skip
      go_roundw
      case rel => exact ⟨i - j, j, _, by congr 1; omega, rfl, by omega, hj, by omega, hjy, R2, HG.out.trans G2, HE.out⟩
      case measure => simp [intOf]; omega
end Go.Proofs.Ythbobmanicnplab
