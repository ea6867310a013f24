/- The walk of CoverPlan. -/
import Derived.Test.YthokgbbolijgiaaLawCover1
import Derived.Test.YthokgbbolijgiaaCBo
namespace Go.Proofs.Ythokgbbolijgiaa
open Go.RowKit Go.BigFrame

theorem upto_int (b off n cap k : Nat) (h : k ≤ cap) (wx : World) : (Instr.slice 26 (.slice (some ⟨b, off, none⟩) n cap) none (some (.int .i64 (k : Int))) none).run Try.prog wx = .ok (.slice (some ⟨b, off, none⟩) k cap) wx := by
  have ht : Try.prog.underlying 26 = some (.slice (Try.prog.elem 26)) := by kernel_rfl
  have he : Try.prog.elem 26 = 3 := by kernel_rfl
  rw [run_slice_h wx _ _ n cap ht .i64 _ (by omega) (by omega), he, Try.sizeOf3]
  simp [sliced, Result.andThen, Addr.add]
theorem Row1.take {w : World} {a : Option Addr} {l : List Int} (h : Row1 w a l) (m : Nat) : Row1 w a (l.take m) := by
  rcases h with rfl | ⟨b, off, rfl, hb, hc⟩
  · exact .inl (by simp)
  · refine .inr ⟨b, off, rfl, hb, fun i hi => ?_⟩
    have hi2 : i < m ∧ i < l.length := by rw [List.length_take] at hi; omega
    rw [hc i hi2.2, List.getD_eq_getElem?_getD, List.getD_eq_getElem?_getD, List.getElem?_take_of_lt hi2.1]
/-- what is bought of a plan -/
theorem bo_plan {l : List Cv.Off} {xs : List Int} {D P : Int} {b : Bool} (h : BoAns l xs [] D P b) (hin : Cv.In l xs) : b = true ∧ D = Cv.sumD l xs ∧ P = Cv.sumP l xs := by
  rcases h with ⟨h1, _, h2, h3⟩ | ⟨_, h2⟩
  · have hb := Cv.buy_once l xs xs.length (Nat.le_refl _)
    rw [List.take_length] at hb
    exact ⟨h1, h2.trans hb.1, h3.trans hb.2⟩
  · exact absurd (fun j hj => Cv.once_may l xs hin j hj) h2
set_option maxRecDepth 100000 in
set_option maxHeartbeats 2000000 in
theorem coverPlan_any (l : List Cv.Off) (a : Option Addr) (cap : Nat) (d : Int) (w : World) (hm : l.length ≤ maxLen ∧ l.length ≤ cap) (hr : RowO w a l) :
    Calls Try.prog 4 #[.slice a l.length cap, .int .i64 d] w fun e w' => e = .returned (.bool true) ∧ Below w.heap.size w w' := by
  have R : Hid (RowO w a l) := hr
  have HM : Hid (l.length ≤ maxLen ∧ l.length ≤ cap) := hm
  have hxl := xs_len l d
  by_cases h : Cv.code l d = 0
  · obtain ⟨ok, d0, d1⟩ := (Cv.code_ok l d).1 h
    obtain ⟨k, rfl⟩ := Int.eq_ofNat_of_zero_le d0
    have hx : Cv.planOf l k = Cv.plan l k k := by unfold Cv.planOf; rw [if_pos h]; rfl
    have hv : Cv.val l k = Cv.best l k := by unfold Cv.val; rw [if_pos h]; rfl
    have hin := Cv.plan_in l ok k k
    have hsum := Cv.plan_sum l ok k k (Nat.le_refl _)
    have hless := Cv.plan_less l ok k k (Nat.le_refl _)
    have hnil := Cv.plan_nil l k k (Nat.le_refl _)
    rw [hx] at hxl
    obtain ⟨v, hbv⟩ : ∃ v, Cv.best l k = v := ⟨_, rfl⟩
    obtain ⟨xs, hxs⟩ : ∃ xs, Cv.plan l k k = xs := ⟨_, rfl⟩
    rw [hxs] at hin hsum hless hnil hxl hx
    rw [hbv] at hsum hv
    have HV : Hid (Cv.val l k = v ∧ Cv.code l k = 0 ∧ Cv.planOf l k = xs) := ⟨hv, h, hx⟩
    have HOK : Hid (Cv.Ok l) := ok
    have HIN : Hid (Cv.In l xs) := hin
    have HSD : Hid ((k : Int) ≤ Cv.sumD l xs) := hsum.2
    have HSP : Hid (Cv.sumP l xs = v) := hsum.1
    have HLS : Hid (0 < k → Cv.sumD l xs.dropLast < k) := hless
    have HNL : Hid (xs = [] → k = 0) := hnil
    have HXL : Hid (xs.length ≤ 400) := hxl
    clear hm hr h ok d0 d1 hx hv hin hsum hless hnil hbv hxs hxl
    obtain ⟨n, hn⟩ : ∃ n, xs.length = n := ⟨_, rfl⟩
    have HN : Hid (xs.length = n) := hn
    clear hn
    go_enter Try.func4, Try.ntmps4
    go_wp2_with fail
    refine (best_at l a _ cap k v 0 _ rfl HM.out.1 HM.out.2 HV.out.1 HV.out.2.1 R.out).mono ?_
    rintro e w1 ⟨rfl, hb⟩
    have B1 : Hid (Below w.heap.size w w1) := hb
    clear hb
    go_wp2_with fail
    refine (plan_at l a cap k 0 xs _ HM.out HV.out.2.1 HV.out.2.2 (R.out.below B1.out)).mono ?_
    rintro e w2 ⟨a1, k1, rfl, hcap, hr1, hb⟩
    have B2 : Hid (Below w.heap.size w w2) := below_on B1.out (Nat.le_refl _) hb
    have P2 : Hid (Row1 w2 a1 xs) := hr1
    rw [HN.out] at hcap
    rw [HN.out]
    clear hb hr1
    go_wp2_with fail
    refine (cbegun_any _).mono ?_
    rintro e w3 ⟨rfl, hb⟩
    have B3 : Hid (Below w.heap.size w w3) := below_on B2.out (Nat.le_refl _) hb
    have P3 : Hid (Row1 w3 a1 xs) := P2.out.below hb
    clear hb
    go_wp2_with fail
    have HB1 : Hid (Calls Try.prog 17 #[.slice a l.length cap, .slice a1 n k1, .slice none 0 0] w3 (boPost l xs [] w3)) := by
      have := bought_any l xs [] a a1 none cap k1 0 w3 HOK.out (by have := HXL.out; omega) (R.out.below B3.out) P3.out (.inl rfl)
      rw [HN.out] at this
      exact this
    refine HB1.out.mono ?_
    rintro e w4 ⟨D, P, b, rfl, hba, rfl⟩
    obtain ⟨rfl, hD, rfl⟩ := bo_plan hba HIN.out
    rw [HSP.out]
    have hDk : ¬ D < (k : Int) := by have := HSD.out; omega
    have hDk2 : decide (D < (k : Int)) = false := decide_eq_false hDk
    have hvv : (v != v) = false := by simp
    clear hba hD
    by_cases hn0 : n = 0
    · have hk0 : k = 0 := HNL.out (List.eq_nil_of_length_eq_zero (by rw [HN.out]; exact hn0))
      subst hn0 hk0
      go_wp2
      go_ret
      exact ⟨rfl, B3.out⟩
    · obtain ⟨m, rfl⟩ : ∃ m, n = m + 1 := ⟨n - 1, by omega⟩
      have hkp : 0 < k := by
        rcases Nat.eq_zero_or_pos k with c | c
        · exfalso
          have : xs = [] := by
            subst c
            have := HV.out.2.2
            unfold Cv.planOf at this
            rw [if_pos HV.out.2.1] at this
            exact this.symm
          have := HN.out
          simp_all
        · exact c
      have HLT : Hid (Cv.sumD l (xs.take m) < k) := by
        have := HLS.out hkp
        rw [List.dropLast_eq_take, HN.out, Nat.add_sub_cancel] at this
        exact this
      have HTL : Hid ((xs.take m).length = m) := by show _ = _; rw [List.length_take, HN.out]; omega
      obtain ⟨b1, o1, x, rfl, -, -, -⟩ := P3.out.at (k := 0) (by rw [HN.out]; omega)
      have hsl := upto_int b1 o1 (m + 1) k1 m (by omega)
      have HIT : Hid (Cv.In l (xs.take m)) := fun i hi => HIN.out i (List.mem_of_mem_take hi)
      have hm0 : ((m : Int) + 1 == 0) = false := by simp; omega
      have hmb : m ≤ 399 := by have := HXL.out; have := HN.out; omega
      have hmz : (m : Int) ≤ 399 := by omega
      have hw : IntKind.i64.wrap ((m : Int) + 1 - 1) = (m : Int) := by rw [IntKind.wrap_i64]; omega
      clear hn0 hkp
      go_wp2_with fail
      have HB2 : Hid (Calls Try.prog 17 #[.slice a l.length cap, .slice (some ⟨b1, o1, none⟩) m k1, .slice none 0 0] w4 (boPost l (xs.take m) [] w4)) := by
        have := bought_any l (xs.take m) [] a (some ⟨b1, o1, none⟩) none cap k1 0 w4 HOK.out (by have := HXL.out; rw [List.length_take]; omega) (R.out.below B3.out) (P3.out.take m) (.inl rfl)
        rw [HTL.out] at this
        exact this
      refine HB2.out.mono ?_
      rintro e w5 ⟨D2, P2', b2, rfl, hba, rfl⟩
      obtain ⟨rfl, hD2, -⟩ := bo_plan hba HIT.out
      have hlt : D2 < (k : Int) := by rw [hD2]; exact HLT.out
      clear hba hD2 hsl
      go_wp2
      go_ret
      exact ⟨rfl, B3.out⟩
  · have hx : Cv.planOf l d = [] := by unfold Cv.planOf; rw [if_neg h]
    have hv : Cv.val l d = 0 := by unfold Cv.val; rw [if_neg h]
    obtain ⟨c, hc⟩ : ∃ c, Cv.code l d = c := ⟨_, rfl⟩
    have HV : Hid (Cv.val l d = 0 ∧ Cv.code l d = c ∧ Cv.planOf l d = []) := ⟨hv, hc, hx⟩
    have hcn : (c != 0) = true := by rw [← hc]; simpa using h
    have hcc : (c != c) = false := by simp
    clear hm hr hx hv hc h hxl
    go_enter Try.func4, Try.ntmps4
    go_wp2_with fail
    refine (best_at l a _ cap d 0 c _ rfl HM.out.1 HM.out.2 HV.out.1 HV.out.2.1 R.out).mono ?_
    rintro e w1 ⟨rfl, hb⟩
    have B1 : Hid (Below w.heap.size w w1) := hb
    clear hb
    go_wp2_with fail
    refine (plan_at l a cap d c [] _ HM.out HV.out.2.1 HV.out.2.2 (R.out.below B1.out)).mono ?_
    rintro e w2 ⟨a1, k1, rfl, -, -, hb⟩
    have B2 : Hid (Below w.heap.size w w2) := below_on B1.out (Nat.le_refl _) hb
    clear hb
    go_wp2_with fail
    refine (cbegun_any _).mono ?_
    rintro e w3 ⟨rfl, hb⟩
    have B3 : Hid (Below w.heap.size w w3) := below_on B2.out (Nat.le_refl _) hb
    clear hb
    go_wp2
    go_ret
    exact ⟨rfl, B3.out⟩
end Go.Proofs.Ythokgbbolijgiaa
