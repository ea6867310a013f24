/- The program's day of a rule in a year: the so manyth weekday of a month; and of whatever kind. -/
import Derived.Test.YtehopfpcikbaiaaDoorWkToWDay
namespace Go.Proofs.YtehopfpcikbaiaaDoor
open Go.RowKit

namespace Wk
theorem nth_facts (y m d w : Int) (h1 : 1 ≤ y) (h2 : y ≤ 9998) (h3 : 1 ≤ m) (h4 : m ≤ 12) (h5 : 1 ≤ d) (h6 : d ≤ 5) :
    Cal.num y m 1 ≤ nth0 y m d w ∧ nth0 y m d w ≤ Cal.num y m 1 + 34 ∧ 1 ≤ nth0 y m d w ∧ nth0 y m d w ≤ 3652059 := by
  have hb := Cal.cum_bd y m h3 (by omega)
  have ha := Cal.ahead_bd y h1 (by omega)
  have hm := Cal.ahead_mono y 9998 h2
  have e : Cal.ahead 9998 = 3651329 := by decide
  unfold nth0 Cal.num
  omega
/-- in which month the day lies -/
theorem nth_month (y m d w y' m' d' : Int) (h1 : 1 ≤ y) (h2 : y ≤ 9998) (h3 : 1 ≤ m) (h4 : m ≤ 12) (h5 : 1 ≤ d) (h6 : d ≤ 5) (hv : Cal.vld y' m' d') (hn : Cal.num y' m' d' = nth0 y m d w) :
    (m' = m ↔ nth0 y m d w < Cal.num y m 1 + Cal.mlen y m) := by
  obtain ⟨g1, g2, _, _⟩ := nth_facts y m d w h1 h2 h3 h4 h5 h6
  have ml := Cal.mlen_bd y m
  constructor
  · rintro rfl
    have hy : y' = y := by
      have b' := Cal.num_bd y' m' d' hv
      rw [hn] at b'
      have hcu := Cal.cum_bd y m' h3 (by omega)
      have hs := Cal.ahead_succ y
      have hl := Cal.lp_bd y
      rcases Int.lt_trichotomy y' y with c | c | c
      · have := Cal.ahead_mono (y' + 1) y (by omega)
        unfold Cal.num at g1; omega
      · exact c
      · exfalso
        have hs' := Cal.ahead_succ y'
        have hm := Cal.ahead_mono (y + 1) y' (by omega)
        have hcu' := Cal.cum_bd y' m' h3 (by omega)
        have hd := hv.2.2.2.2.1
        have e2 : Cal.num y' m' d' = Cal.ahead y' + Cal.cum y' m' + d' := rfl
        have e3 : Cal.num y m' 1 = Cal.ahead y + Cal.cum y m' + 1 := rfl
        have hc2 : Cal.cum y m' ≤ Cal.cum y' m' + 1 ∧ Cal.cum y' m' ≤ Cal.cum y m' + 1 := by
          unfold Cal.cum
          have := Cal.lp_bd y
          have := Cal.lp_bd y'
          by_cases q : m' ≤ 2 <;> simp [q] <;> omega
        omega
    subst hy
    have hd := hv.2.2.2.2.2
    rw [← hn]
    unfold Cal.num
    omega
  · intro hlt
    have hv2 : Cal.vld y m (nth0 y m d w - Cal.num y m 1 + 1) := ⟨h1, by omega, h3, h4, by omega, by omega⟩
    have e : Cal.num y m (nth0 y m d w - Cal.num y m 1 + 1) = nth0 y m d w := by unfold Cal.num; unfold Cal.num at *; omega
    exact (Cal.num_inj y' m' d' y m _ hv hv2 (hn.trans e.symm)).2.1
end Wk
set_option maxRecDepth 100000 in
set_option maxHeartbeats 2000000 in
theorem wNth_err (k m d wd y : Int) (w : World) (hw : Laid w) (hv : ¬ Cal.vld y m 1) :
    Calls Tryd.prog 80 #[.agg #[.int .i64 k, .int .i64 m, .int .i64 d, .int .i64 wd], .int .i64 y] w fun e w' => e = .returned (.tuple #[.int .i64 0, .int .i64 3]) ∧ Below w.heap.size w w' := by
  have b1 := below_box w (.cells #[.int .i64 k, .int .i64 m, .int .i64 d, .int .i64 wd] 74)
  have hw2 := hw.below b1
  go_enter Tryd.func80, Tryd.ntmps80
  go_wp2_with fail
  refine (day_err y m 1 _ hw2 hv).mono ?_
  rintro e w1 ⟨rfl, b3⟩
  have B := below_next b1 (Nat.le_refl _) b3
  clear b3
  go_wp2
  go_ret2
  exact ⟨rfl, B⟩
set_option maxRecDepth 100000 in
set_option maxHeartbeats 4000000 in
theorem wNth_ok (k m d wd y : Int) (w : World) (hw : Laid w) (h1 : 1 ≤ y) (h2 : y ≤ 9998) (h3 : 1 ≤ m) (h4 : m ≤ 12) (h5 : 1 ≤ d) (h6 : d ≤ 5) (h7 : 1 ≤ wd) (h8 : wd ≤ 7) :
    Calls Tryd.prog 80 #[.agg #[.int .i64 k, .int .i64 m, .int .i64 d, .int .i64 wd], .int .i64 y] w fun e w' => e = .returned (.tuple #[.int .i64 (Wk.nth y m d wd), .int .i64 0]) ∧ Below w.heap.size w w' := by
  have b1 := below_box w (.cells #[.int .i64 k, .int .i64 m, .int .i64 d, .int .i64 wd] 74)
  have hw2 := hw.below b1
  have hv : Cal.vld y m 1 := ⟨h1, by omega, h3, h4, by omega, by have := Cal.mlen_bd y m; omega⟩
  have hd := day_ok y m 1 _ hw2 hv
  have hn := Cal.num_in y m 1 hv
  have HF : Hid (_) := Wk.nth_facts y m d wd h1 h2 h3 h4 h5 h6
  have HM : Hid (∀ y' m' d', Cal.vld y' m' d' → Cal.num y' m' d' = Wk.nth0 y m d wd → (m' = m ↔ Wk.nth0 y m d wd < Cal.num y m 1 + Cal.mlen y m)) := fun y' m' d' hv hn => Wk.nth_month y m d wd y' m' d' h1 h2 h3 h4 h5 h6 hv hn
  have HE : Hid (Wk.nth y m d wd = if Cal.num y m 1 + Cal.mlen y m ≤ Wk.nth0 y m d wd then Wk.nth0 y m d wd - 7 else Wk.nth0 y m d wd) := rfl
  have H0 : Hid (Wk.nth0 y m d wd = Cal.num y m 1 + (wd - Cal.num y m 1 % 7 + 7) % 7 + (d - 1) * 7) := rfl
  generalize Wk.nth y m d wd = X at *
  generalize Wk.nth0 y m d wd = Z at *
  generalize Cal.mlen y m = ML at *
  generalize Cal.num y m 1 = N at *
  clear hv h1 h2
  go_enter Tryd.func80, Tryd.ntmps80
  go_wp2_with fail
  refine hd.mono ?_
  rintro e w1 ⟨rfl, b3⟩
  have B := below_next b1 (Nat.le_refl _) b3
  have hw3 := hw2.below b3
  have hs : w.heap.size < w1.heap.size := by have := b3.size; simp at this; omega
  have c1 : w1.cell? ⟨w.heap.size, 1, none⟩ = some (.int .i64 m) := (b3.cell (p := ⟨w.heap.size, 1, none⟩) (by simp)).trans (by simp)
  have c2 : w1.cell? ⟨w.heap.size, 2, none⟩ = some (.int .i64 d) := (b3.cell (p := ⟨w.heap.size, 2, none⟩) (by simp)).trans (by simp)
  have c3 : w1.cell? ⟨w.heap.size, 3, none⟩ = some (.int .i64 wd) := (b3.cell (p := ⟨w.heap.size, 3, none⟩) (by simp)).trans (by simp)
  clear b1 b3 hw2 hd hw
  have eZ : N + (wd - N) % 7 + (d - 1) * 7 = Z := by have := H0.out; omega
  go_wp2_with fail
  clear eZ
  have z1 := HF.out.2.2.1
  have z2 := HF.out.2.2.2
  refine (of_ok Z w1 hw3 z1 z2).mono ?_
  rintro e w2 ⟨y', m', d', rfl, hv', hn', b4⟩
  have B2 := below_next B (Nat.le_refl _) b4
  have B3 := B2.alloc B2.size (.cells #[.int .i64 y', .int .i64 m', .int .i64 d'] 57)
  have e1 : w2.cell? ⟨w.heap.size, 1, none⟩ = some (.int .i64 m) := (b4.cell (p := ⟨w.heap.size, 1, none⟩) hs).trans c1
  have hs2 : w.heap.size < w2.heap.size := Nat.lt_of_lt_of_le hs b4.size
  have hne : w.heap.size ≠ w2.heap.size := by omega
  have hiff := HM.out y' m' d' hv' hn'
  clear b4 c1 c2 c3 hv' hn' HM H0 HF
  by_cases hlt : Z < N + ML
  · obtain rfl : m' = m := hiff.2 hlt
    have eX : X = Z := by rw [HE.out, if_neg (by omega)]
    subst eX
    clear hiff hlt HE
    go_wp2
    go_ret2
    exact ⟨rfl, B3⟩
  · have hmm : (m' != m) = true := by
      simp; intro h; exact hlt (hiff.1 h)
    have eX : X = Z - 7 := by rw [HE.out, if_pos (by omega)]
    subst eX
    clear hiff hlt HE
    go_wp2
    go_ret2
    exact ⟨rfl, B3⟩
/-- the program's day of a rule that is right, in a year -/
def rdV (o : Option Int) : Value := match o with | some n => .tuple #[.int .i64 n, .int .i64 0] | none => .tuple #[.int .i64 0, .int .i64 3]
set_option maxRecDepth 100000 in
set_option maxHeartbeats 4000000 in
theorem wHoliday (R : Wk.Rst) (a : Option Addr) (len cap bm : Nat) (k m d wd y : Int) (w : World) (hw : Laid w) (hR : R.all = false) (hr : Wk.rchk (k, m, d, wd) = 0) (h1 : 0 ≤ y) (h2 : y ≤ 9998) :
    Calls Tryd.prog 74 #[almV R a len cap bm, .agg #[.int .i64 k, .int .i64 m, .int .i64 d, .int .i64 wd], .int .i64 y] w fun e w' => e = .returned (rdV (Wk.rday R y (k, m, d, wd))) ∧ Below w.heap.size w w' := by
  have b1 := below_box w (.cells #[.bool R.b0, .bool R.b1, .bool R.b2, .bool R.b3, .bool R.b4, .bool R.b5, .bool R.b6, .slice a len cap, .map (some bm)] 65)
  have b2 := b1.alloc (by simp) (.cells #[.int .i64 k, .int .i64 m, .int .i64 d, .int .i64 wd] 74)
  have hw2 := hw.below b2
  have hz := Wk.rchk_zero _ hr
  dsimp only at hz
  clear hr
  rcases hz with ⟨rfl, m1, m2, d1, d2, rfl⟩ | ⟨rfl, m1, m2, d1, d2, w1, w2⟩ | ⟨rfl, rfl, rfl, d1, d2⟩
  · by_cases hy : y < 1
    · have e : Wk.rday R y (1, m, d, 0) = none := by unfold Wk.rday; rw [if_pos hy]
      rw [e]; clear e
      have hv : ¬ Cal.vld y m d := fun v => by have := v.1; omega
      clear d2
      go_enter Tryd.func74, Tryd.ntmps74
      go_wp2_with fail
      refine (wFixed_err R a len cap bm 1 m d 0 y _ hw2 hv).mono ?_
      rintro e w3 ⟨rfl, b3⟩
      have B := below_next b2 (Nat.le_refl _) b3
      clear b3
      go_wp2
      go_ret2
      exact ⟨rfl, B⟩
    · have e : Wk.rday R y (1, m, d, 0) = some (Wk.push R (Cal.num y m d)) := by unfold Wk.rday; rw [if_neg hy]; rfl
      rw [e]; clear e
      have hv : Cal.vld y m d := ⟨by omega, by omega, m1, m2, d1, Wk.mlen_each y m d d2⟩
      clear d2
      have hc := wFixed_ok R a len cap bm 1 m d 0 y _ hw2 hv hR
      generalize Wk.push R (Cal.num y m d) = X at *
      go_enter Tryd.func74, Tryd.ntmps74
      go_wp2_with fail
      refine hc.mono ?_
      rintro e w3 ⟨rfl, b3⟩
      have B := below_next b2 (Nat.le_refl _) b3
      clear b3 hc
      go_wp2
      go_ret2
      exact ⟨rfl, B⟩
  · by_cases hy : y < 1
    · have e : Wk.rday R y (2, m, d, wd) = none := by unfold Wk.rday; rw [if_pos hy]
      rw [e]; clear e
      have hv : ¬ Cal.vld y m 1 := fun v => by have := v.1; omega
      go_enter Tryd.func74, Tryd.ntmps74
      go_wp2_with fail
      refine (wNth_err 2 m d wd y _ hw2 hv).mono ?_
      rintro e w3 ⟨rfl, b3⟩
      have B := below_next b2 (Nat.le_refl _) b3
      clear b3
      go_wp2
      go_ret2
      exact ⟨rfl, B⟩
    · have e : Wk.rday R y (2, m, d, wd) = some (Wk.nth y m d wd) := by unfold Wk.rday; rw [if_neg hy]; rfl
      rw [e]; clear e
      have hc := wNth_ok 2 m d wd y _ hw2 (by omega) h2 m1 m2 d1 d2 w1 w2
      generalize Wk.nth y m d wd = X at *
      go_enter Tryd.func74, Tryd.ntmps74
      go_wp2_with fail
      refine hc.mono ?_
      rintro e w3 ⟨rfl, b3⟩
      have B := below_next b2 (Nat.le_refl _) b3
      clear b3 hc
      go_wp2
      go_ret2
      exact ⟨rfl, B⟩
  · by_cases hy : y < 1583
    · have e : Wk.rday R y (3, 0, d, 0) = none := by
        unfold Wk.rday
        by_cases h0 : y < 1
        · rw [if_pos h0]
        · rw [if_neg h0, if_neg (by simp), if_neg (by simp), if_neg (by omega)]
      rw [e]; clear e
      go_enter Tryd.func74, Tryd.ntmps74
      go_wp2_with fail
      refine (feast_err y d _ (.inl hy)).mono ?_
      rintro e w3 ⟨rfl, b3⟩
      have B := below_next b2 (Nat.le_refl _) b3
      clear b3
      go_wp2
      go_ret2
      exact ⟨rfl, B⟩
    · have e : Wk.rday R y (3, 0, d, 0) = some (Cal.easter y + d) := by
        unfold Wk.rday
        rw [if_neg (by omega), if_neg (by simp), if_neg (by simp), if_pos (by omega)]
      rw [e]; clear e
      have hc := feast_ok y d _ hw2 (by omega) (by omega) d1 d2
      generalize Cal.easter y + d = X at *
      go_enter Tryd.func74, Tryd.ntmps74
      go_wp2_with fail
      refine hc.mono ?_
      rintro e w3 ⟨rfl, b3⟩
      have B := below_next b2 (Nat.le_refl _) b3
      clear b3 hc
      go_wp2
      go_ret2
      exact ⟨rfl, B⟩
end Go.Proofs.YtehopfpcikbaiaaDoor
