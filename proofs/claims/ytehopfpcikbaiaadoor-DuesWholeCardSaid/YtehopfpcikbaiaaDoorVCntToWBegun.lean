/- The reference's count of days of work, its holidays of a year, and two lists held against each other. The reference's holidays of a year, day by day. What must be in any case: the usual calendar's holidays of 2022, and days of work about its new year. -/
import Derived.Test.YtehopfpcikbaiaaDoorVSea
import Derived.Test.YtehopfpcikbaiaaDoorWHolToShV
import Derived.Test.YtehopfpcikbaiaaDoorWTop2ToVRule
import Derived.Lib.QuietBelow
namespace Go.Proofs.YtehopfpcikbaiaaDoor
open Go.RowKit

end Go.Proofs.YtehopfpcikbaiaaDoor
namespace Go.Proofs.YtehopfpcikbaiaaDoor
open Go.RowKit

namespace Wk
variable (R : Rst) (L : List Rl) (y : Int)
/-- the holidays among k days from lo on -/
def scan (lo : Int) : Nat → List Int
  | 0 => []
  | k + 1 => scan lo k ++ (if lo + k ≠ 0 ∧ lo + k ∈ days R L y then [lo + (k : Int)] else [])
theorem scan_len (lo : Int) : ∀ k, (scan R L y lo k).length ≤ k
  | 0 => by simp [scan]
  | k + 1 => by
    have := scan_len lo k
    unfold scan
    split <;> simp <;> omega
theorem scan_mem (lo : Int) : ∀ (k : Nat) (n : Int), n ∈ scan R L y lo k ↔ lo ≤ n ∧ n < lo + k ∧ n ≠ 0 ∧ n ∈ days R L y
  | 0, n => by simp [scan]; omega
  | k + 1, n => by
    have ih := scan_mem lo k n
    unfold scan
    rw [List.mem_append, ih]
    by_cases c : lo + (k : Int) ≠ 0 ∧ lo + (k : Int) ∈ days R L y
    · rw [if_pos c, List.mem_singleton]
      constructor
      · rintro (h | rfl)
        · exact ⟨h.1, by omega, h.2.2⟩
        · exact ⟨by omega, by omega, c.1, c.2⟩
      · rintro ⟨h1, h2, h3, h4⟩
        by_cases e : n = lo + k
        · exact .inr e
        · exact .inl ⟨h1, by omega, h3, h4⟩
    · rw [if_neg c]
      constructor
      · rintro (h | h)
        · exact ⟨h.1, by omega, h.2.2⟩
        · cases h
      · rintro ⟨h1, h2, h3, h4⟩
        by_cases e : n = lo + k
        · subst e; exact absurd ⟨h3, h4⟩ c
        · exact .inl ⟨h1, by omega, h3, h4⟩
theorem scan_rises (lo : Int) : ∀ k : Nat, (scan R L y lo k).Pairwise (· < ·)
  | 0 => by simp [scan]
  | k + 1 => by
    have ih := scan_rises lo k
    unfold scan
    rw [List.pairwise_append]
    refine ⟨ih, ?_, ?_⟩
    · split <;> simp
    · intro a ha b hb
      have h := (scan_mem R L y lo k a).1 ha
      split at hb
      · have : b = lo + k := by simpa using hb
        omega
      · cases hb
theorem num_year (m d : Int) (hv : Cal.vld y m d) : Cal.num y 1 1 ≤ Cal.num y m d ∧ Cal.num y m d ≤ Cal.num y 12 31 := by
  have h := Cal.num_bd y m d hv
  have e1 : Cal.num y 1 1 = Cal.ahead y + 1 := by unfold Cal.num; rw [Cal.cum_1]; omega
  have e2 : Cal.num y 12 31 = Cal.ahead (y + 1) := by
    rw [Cal.ahead_succ]
    unfold Cal.num Cal.cum; simp; omega
  omega
/-- where a year's holidays may lie -/
theorem days_range (h1 : 1 ≤ y) (h2 : y ≤ 9998) (hR : R.all = false) (hc : ∀ r ∈ L, rchk r = 0) (n : Int) (hn : n ∈ days R L y) : Cal.num y 1 1 - 40 ≤ n ∧ n < Cal.num y 12 31 + 10 ∧ n ≠ 0 := by
  unfold days at hn
  rw [List.mem_filterMap] at hn
  obtain ⟨⟨k, m, d, wd⟩, hr, hd⟩ := hn
  have hz := rchk_zero _ (hc _ hr)
  dsimp only at hz
  have e1 : Cal.num y 1 1 = Cal.ahead y + 1 := by unfold Cal.num; rw [Cal.cum_1]; omega
  have ha := Cal.ahead_bd y h1 (by omega)
  rcases hz with ⟨rfl, m1, m2, d1, d2, rfl⟩ | ⟨rfl, m1, m2, d1, d2, w1, w2⟩ | ⟨rfl, rfl, rfl, d1, d2⟩
  · have e : rday R y (1, m, d, 0) = some (push R (Cal.num y m d)) := by unfold rday; rw [if_neg (by omega), if_pos rfl]
    rw [e] at hd
    obtain rfl := Option.some.inj hd
    have hv : Cal.vld y m d := ⟨h1, by omega, m1, m2, d1, mlen_each y m d d2⟩
    have p := push_spec R hR (Cal.num y m d)
    have q := num_year y m d hv
    omega
  · have e : rday R y (2, m, d, wd) = some (nth y m d wd) := by unfold rday; rw [if_neg (by omega), if_neg (by simp), if_pos rfl]
    rw [e] at hd
    obtain rfl := Option.some.inj hd
    have ml := Cal.mlen_bd y m
    have f := nth_facts y m d wd h1 h2 m1 m2 d1 d2
    have q1 := num_year y m 1 ⟨h1, by omega, m1, m2, by omega, by omega⟩
    have q2 := num_year y m (Cal.mlen y m) ⟨h1, by omega, m1, m2, by omega, by omega⟩
    have e3 : Cal.num y m (Cal.mlen y m) = Cal.num y m 1 + Cal.mlen y m - 1 := by unfold Cal.num; omega
    unfold nth
    split <;> omega
  · by_cases hy : 1583 ≤ y
    · have e : rday R y (3, 0, d, 0) = some (Cal.easter y + d) := by unfold rday; rw [if_neg (by omega), if_neg (by simp), if_neg (by simp), if_pos hy]
      rw [e] at hd
      obtain rfl := Option.some.inj hd
      have g := Cal.goodE_of y hy (by omega)
      have g1 := g.2.2.1
      have g2 := g.2.2.2.1
      have e3 : Cal.num y 3 22 = Cal.ahead y + 59 + Cal.lp y + 22 := by unfold Cal.num Cal.cum; simp; omega
      have e4 : Cal.num y 4 25 = Cal.ahead y + 90 + Cal.lp y + 25 := by unfold Cal.num Cal.cum; simp; omega
      have e5 : Cal.num y 12 31 = Cal.ahead y + 334 + Cal.lp y + 31 := by unfold Cal.num Cal.cum; simp; omega
      have l := Cal.lp_bd y
      have am := Cal.ahead_mono 1583 y hy
      have ea : 1000 ≤ Cal.ahead 1583 := by decide
      omega
    · have e : rday R y (3, 0, d, 0) = none := by unfold rday; rw [if_neg (by omega), if_neg (by simp), if_neg (by simp), if_neg hy]
      rw [e] at hd; cases hd
theorem scan_hol (h1 : 1 ≤ y) (h2 : y ≤ 9998) (hR : R.all = false) (hc : ∀ r ∈ L, rchk r = 0) (k : Nat) (hk : Cal.num y 1 1 - 40 + k = Cal.num y 12 31 + 10) : scan R L y (Cal.num y 1 1 - 40) k = hol R L y := by
  refine (Spn.once_unique _ _ (scan_rises R L y _ k) fun n => ?_).symm
  rw [scan_mem]
  constructor
  · exact fun h => h.2.2.2
  · intro h
    have r := days_range R L y h1 h2 hR hc n h
    exact ⟨r.1, by omega, r.2.2, h⟩
end Wk
end Go.Proofs.YtehopfpcikbaiaaDoor
namespace Go.Proofs.YtehopfpcikbaiaaDoor
open Go.RowKit

namespace Wk
def U : Rst := ⟨false, false, false, false, false, true, true⟩
def UL : List Rl := [(1, 1, 1, 0), (3, 0, 1, 0), (2, 5, 5, 1)]
theorem U_chk : cchk U UL = 0 := by decide +kernel
theorem U_days : days U UL 2022 = [738158, 738263, 738305] := by decide +kernel
theorem U_hol : hol U UL 2022 = [738158, 738263, 738305] := by
  unfold hol
  rw [U_days]
  exact Spn.once_unique _ _ (by simp) (fun _ => Iff.rfl)
theorem U_w5 : isW U UL 738155 = true := by decide +kernel
theorem U_w6 : isW U UL 738156 = false := by decide +kernel
theorem U_w7 : isW U UL 738157 = false := by decide +kernel
theorem U_w8 : isW U UL 738158 = false := by decide +kernel
theorem U_w9 : isW U UL 738159 = true := by decide +kernel
theorem U_told (f : Int × Int) : told U UL f = f := by unfold told; rw [if_pos U_chk]
theorem U_next : told U UL (next U UL 738156) = (738159, 0) := by
  rw [U_told, next_in U UL 738156 (by decide) (by decide), if_neg (by rw [U_w6]; decide), next_in U UL (738156 + 1) (by decide) (by decide), if_neg (by rw [show (738156 : Int) + 1 = 738157 from rfl, U_w7]; decide), next_in U UL (738156 + 1 + 1) (by decide) (by decide), if_neg (by rw [show (738156 : Int) + 1 + 1 = 738158 from rfl, U_w8]; decide), next_in U UL (738156 + 1 + 1 + 1) (by decide) (by decide), if_pos (by rw [show (738156 : Int) + 1 + 1 + 1 = 738159 from rfl, U_w9])]
  rfl
theorem U_add : told U UL (add U UL 738155 1) = (738159, 0) := by
  rw [U_told]
  unfold add
  rw [if_pos (by decide), if_neg (by decide), show (738155 : Int) + 1 = 738156 from rfl]
  rw [addS_in U UL 738156 1 (by decide) (by decide), if_neg (by rw [U_w6]; decide), addS_in U UL (738156 + 1) 1 (by decide) (by decide), if_neg (by rw [show (738156 : Int) + 1 = 738157 from rfl, U_w7]; decide), addS_in U UL (738156 + 1 + 1) 1 (by decide) (by decide), if_neg (by rw [show (738156 : Int) + 1 + 1 = 738158 from rfl, U_w8]; decide), addS_in U UL (738156 + 1 + 1 + 1) 1 (by decide) (by decide), if_pos (by rw [show (738156 : Int) + 1 + 1 + 1 = 738159 from rfl, U_w9]), if_pos rfl]
  rfl
theorem U_count : told U UL (count U UL 738155 738160) = (2, 0) := by
  rw [U_told]
  decide +kernel
theorem U_holC : holC U UL 2022 = 0 := by unfold holC; rw [if_pos U_chk]; rfl
theorem U_holV : holV U UL 2022 = [738158, 738263, 738305] := by unfold holV; rw [if_pos U_holC, U_hol]
def All : Rst := ⟨true, true, true, true, true, true, true⟩
theorem All_chk : cchk All [] = 1 := by decide
end Wk
set_option maxRecDepth 100000 in
set_option maxHeartbeats 1000000 in
theorem usual_any (w : World) :
    Calls Tryd.prog 23 #[] w fun e w' => ∃ a, e = .returned (calV Wk.U a 3 3) ∧ Row4 w' a Wk.UL ∧ Below w.heap.size w w' := by
  go_enter Tryd.func23, Tryd.ntmps23
  go_wp2
  exact bodyPost_ret (v := calV Wk.U (some ⟨w.heap.size + 1, 0, none⟩) 3 3) (by simp [results, Tryd.results23, go_sem, calV, Wk.U]) rfl ⟨_, rfl, .inr ⟨w.heap.size + 1, 0, rfl, by simp, fun i hi => by
    have hi' : i < 3 := hi
    rcases (by omega : i = 0 ∨ i = 1 ∨ i = 2) with rfl | rfl | rfl <;> simp [Wk.UL]⟩, ((Below.refl _ _).alloc (Nat.le_refl _) _).alloc (by simp) _⟩
theorem of_i (n y m d : Int) (w : World) (hw : Laid w) (h : Cal.vld y m d) (hn : Cal.num y m d = n) :
    Calls Tryd.prog 41 #[.int .i64 n] w fun e w' => e = .returned (.tuple #[.agg #[.int .i64 y, .int .i64 m, .int .i64 d], .int .i64 0]) ∧ Below w.heap.size w w' := of_at n y m d w hw h hn
theorem next_at (a : Option Addr) (w : World) (hw : Laid w) (hr : Row4 w a Wk.UL) :
    Calls Tryd.prog 32 #[calV Wk.U a 3 3, .int .i64 738156] w fun e w' => e = .returned (.tuple #[.int .i64 738159, .int .i64 0]) ∧ Below w.heap.size w w' := by
  refine (pNext Wk.U Wk.UL a 3 738156 w (by decide) hw hr).mono ?_
  rintro e w' ⟨rfl, hb⟩
  rw [Wk.U_next]; exact ⟨rfl, hb⟩
theorem check_all (w : World) (hw : Laid w) :
    Calls Tryd.prog 25 #[calV Wk.All none 0 0] w fun e w' => e = .returned (.int .i64 1) ∧ Below w.heap.size w w' := by
  have := wCheck Wk.All [] none 0 w (by decide) hw (.inl rfl)
  rw [Wk.All_chk] at this
  exact this
theorem row1_at {w : World} {a : Option Addr} {xs : List Int} (h : Row1 w a xs) (hx : xs ≠ []) : ∃ b off, a = some ⟨b, off, none⟩ ∧ b < w.heap.size ∧ ∀ i x, xs[i]? = some x → w.cell? ⟨b, off + i, none⟩ = some (.int .i64 x) := by
  rcases h with rfl | ⟨b, off, rfl, hb, hc⟩
  · exact absurd rfl hx
  · refine ⟨b, off, rfl, hb, fun i x hi => ?_⟩
    have hlt : i < xs.length := by
      by_cases c : i < xs.length
      · exact c
      · rw [List.getElem?_eq_none (by omega)] at hi; cases hi
    rw [hc i hlt]
    simp [List.getD, hi]
end Go.Proofs.YtehopfpcikbaiaaDoor
