/- The walk of CoverLeast. -/
import Derived.Test.YthokgbbolijgiaaLawCover2
namespace Go.Proofs.Ythokgbbolijgiaa
open Go.RowKit Go.BigFrame

/-- a choice that covers the days is no cheaper -/
theorem bo_least {l : List Cv.Off} {at' often : List Int} {D P : Int} {b : Bool} {k : Nat} (h : BoAns l at' often D P b) (ok : Cv.Ok l) : b = false ∨ D < k ∨ Cv.best l k ≤ P := by
  rcases h with ⟨_, h1, h2, h3⟩ | ⟨h1, _⟩
  · by_cases c : D < (k : Int)
    · exact .inr (.inl c)
    · refine .inr (.inr ?_)
      rw [h3]
      exact Cv.buy_cheap l ok at' often k _ h1 (by omega)
  · exact .inl h1
set_option maxRecDepth 100000 in
set_option maxHeartbeats 2000000 in
theorem coverLeast_any (l : List Cv.Off) (a : Option Addr) (cap : Nat) (d : Int) (at' : List Int) (a1 : Option Addr) (cap1 : Nat) (often : List Int) (a2 : Option Addr) (cap2 : Nat) (w : World) (hm : l.length ≤ maxLen ∧ l.length ≤ cap) (hr : RowO w a l) (_hm1 : at'.length ≤ maxLen) (hr1 : Row1 w a1 at') (_hm2 : often.length ≤ maxLen) (hr2 : Row1 w a2 often) :
    Calls Try.prog 5 #[.slice a l.length cap, .int .i64 d, .slice a1 at'.length cap1, .slice a2 often.length cap2] w fun e w' => e = .returned (.bool true) ∧ Below w.heap.size w w' := by
  have R : Hid (RowO w a l) := hr
  have R1 : Hid (Row1 w a1 at') := hr1
  have R2 : Hid (Row1 w a2 often) := hr2
  have HM : Hid (l.length ≤ maxLen ∧ l.length ≤ cap) := hm
  obtain ⟨n, hn⟩ : ∃ n, at'.length = n := ⟨_, rfl⟩
  have HN : Hid (at'.length = n) := hn
  have HBO : Hid (∀ W, Cv.Ok l → n ≤ 1000 → Below w.heap.size w W → Calls Try.prog 17 #[.slice a l.length cap, .slice a1 n cap1, .slice a2 often.length cap2] W (boPost l at' often W)) := by
    intro W ok h hb
    have := bought_any l at' often a a1 a2 cap cap1 cap2 W ok (by omega) (R.out.below hb) (R1.out.below hb) (R2.out.below hb)
    rw [hn] at this
    exact this
  have hnm := _hm1
  rw [hn] at hnm ⊢
  unfold maxLen at hnm
  clear hm hr hr1 hr2 hn _hm1 _hm2
  by_cases h : Cv.code l d = 0
  · obtain ⟨ok, d0, d1⟩ := (Cv.code_ok l d).1 h
    obtain ⟨k, rfl⟩ := Int.eq_ofNat_of_zero_le d0
    have hv : Cv.val l k = Cv.best l k := by unfold Cv.val; rw [if_pos h]; rfl
    obtain ⟨v, hbv⟩ : ∃ v, Cv.best l k = v := ⟨_, rfl⟩
    rw [hbv] at hv
    have HV : Hid (Cv.val l k = v ∧ Cv.code l k = 0) := ⟨hv, h⟩
    have HBV : Hid (Cv.best l k = v) := hbv
    have HOK : Hid (Cv.Ok l) := ok
    clear h ok hv hbv d0 d1
    by_cases hn1 : 1000 < n
    · have hn2 : (1000 : Int) < (n : Int) := by omega
      go_enter Try.func5, Try.ntmps5
      go_wp2_with fail
      refine (best_at l a _ cap k v 0 _ rfl HM.out.1 HM.out.2 HV.out.1 HV.out.2 R.out).mono ?_
      rintro e w1 ⟨rfl, hb⟩
      have B1 : Hid (Below w.heap.size w w1) := hb
      clear hb
      go_wp2_with fail
      refine (cbegun_any _).mono ?_
      rintro e w3 ⟨rfl, hb⟩
      have B3 : Hid (Below w.heap.size w w3) := below_on B1.out (Nat.le_refl _) hb
      clear hb
      go_wp2
      go_ret
      exact ⟨rfl, B3.out⟩
    · have hn2 : ¬ (1000 : Int) < (n : Int) := by omega
      have hn3 : decide ((1000 : Int) < (n : Int)) = false := decide_eq_false hn2
      go_enter Try.func5, Try.ntmps5
      go_wp2_with fail
      refine (best_at l a _ cap k v 0 _ rfl HM.out.1 HM.out.2 HV.out.1 HV.out.2 R.out).mono ?_
      rintro e w1 ⟨rfl, hb⟩
      have B1 : Hid (Below w.heap.size w w1) := hb
      clear hb
      go_wp2_with fail
      refine (cbegun_any _).mono ?_
      rintro e w3 ⟨rfl, hb⟩
      have B3 : Hid (Below w.heap.size w w3) := below_on B1.out (Nat.le_refl _) hb
      clear hb
      go_wp2_with fail
      refine (HBO.out w3 HOK.out (by omega) B3.out).mono ?_
      rintro e w4 ⟨D, P, b, rfl, hba, rfl⟩
      have hq := bo_least (k := k) hba HOK.out
      rw [HBV.out] at hq
      clear hba
      cases b with
      | false =>
        clear hq
        go_wp2
        go_ret
        exact ⟨rfl, B3.out⟩
      | true =>
        by_cases c1 : D < (k : Int)
        · clear hq
          go_wp2
          go_ret
          exact ⟨rfl, B3.out⟩
        · have c2 : v ≤ P := by rcases hq with q | q | q; cases q; exact absurd q c1; exact q
          have c3 : decide (D < (k : Int)) = false := decide_eq_false c1
          clear hq
          go_wp2
          go_ret
          exact ⟨by first | rfl | exact ret_bool (by simp [c2]), B3.out⟩
  · have hv : Cv.val l d = 0 := by unfold Cv.val; rw [if_neg h]
    obtain ⟨c, hc⟩ : ∃ c, Cv.code l d = c := ⟨_, rfl⟩
    have HV : Hid (Cv.val l d = 0 ∧ Cv.code l d = c) := ⟨hv, hc⟩
    have hcn : (c != 0) = true := by rw [← hc]; simpa using h
    have hcn2 : (c == 0) = false := by rw [← hc]; simpa using h
    clear hv hc h
    go_enter Try.func5, Try.ntmps5
    go_wp2_with fail
    refine (best_at l a _ cap d 0 c _ rfl HM.out.1 HM.out.2 HV.out.1 HV.out.2 R.out).mono ?_
    rintro e w1 ⟨rfl, hb⟩
    have B1 : Hid (Below w.heap.size w w1) := hb
    clear hb
    go_wp2_with fail
    refine (cbegun_any _).mono ?_
    rintro e w3 ⟨rfl, hb⟩
    have B3 : Hid (Below w.heap.size w w3) := below_on B1.out (Nat.le_refl _) hb
    clear hb
    go_wp2
    go_ret
    exact ⟨rfl, B3.out⟩
end Go.Proofs.Ythokgbbolijgiaa
