/- The walk of the document's fares: the least sum of ranges that have all zones. -/
import Derived.Test.YtcaibonnkfhkmaaFWk
namespace Go.Proofs.Ytcaibonnkfhkmaa
open Go.RowKit

namespace Fr
/-- a way to begin: a range that has the first zone, and what is left -/
def vl (P : Pr) (n b x y : Nat) : Int := P x y + cv P n (y + 1) b
def vrow (P : Pr) (n a b x i : Nat) : List Int := (List.range i).map fun j => vl P n b x (a + j)
def vls (P : Pr) (n a b k : Nat) : List Int := (List.range k).flatMap fun x => vrow P n a b x (n - a)
theorem vrow_succ (P : Pr) (n a b x i : Nat) : vrow P n a b x (i + 1) = vrow P n a b x i ++ [vl P n b x (a + i)] := by unfold vrow; rw [List.range_succ, List.map_append]; rfl
theorem vls_succ (P : Pr) (n a b k : Nat) : vls P n a b (k + 1) = vls P n a b k ++ vrow P n a b k (n - a) := by unfold vls; rw [List.range_succ, List.flatMap_append]; simp
theorem cv_vls (P : Pr) (n a b : Nat) (h : a ≤ b) : cv P n a b = mb (vls P n a b (a + 1)) := by
  rw [cv_eq P n a b h]
  unfold ar vls vrow vl
  rw [List.map_flatMap]
  congr 2
  funext x
  rw [List.map_map]
  rfl
theorem cv_hi {P : Pr} {n : Nat} (hP : Ok P n) {a b : Nat} (hb : b < n) : 0 ≤ cv P n a b ∧ cv P n a b ≤ 1000000 := by
  refine ⟨cv_lo hP hb, ?_⟩
  by_cases c : a ≤ b
  · exact Int.le_trans (cv_in hP c hb (Nat.le_refl a) (Nat.le_refl b) hb) (hP a b c hb).2
  · rw [cv_over P n a b (by omega)]; decide
theorem vl_bd {P : Pr} {n : Nat} (hP : Ok P n) {b x y : Nat} (hb : b < n) (hxy : x ≤ y) (hy : y < n) : 0 ≤ vl P n b x y ∧ vl P n b x y ≤ 2000000 := by
  have h1 := hP x y hxy hy
  have h2 := cv_hi hP (a := y + 1) hb
  unfold vl; omega
theorem vrow_pos {P : Pr} {n : Nat} (hP : Ok P n) {a b x i : Nat} (hb : b < n) (hx : x ≤ a) (hi : a + i ≤ n) : ∀ v ∈ vrow P n a b x i, 0 ≤ v ∧ v ≤ 2000000 := by
  intro v hv
  unfold vrow at hv
  obtain ⟨j, hj, rfl⟩ := List.mem_map.1 hv
  have := List.mem_range.1 hj
  exact vl_bd hP hb (by omega) (by omega)
theorem vls_pos {P : Pr} {n : Nat} (hP : Ok P n) {a b k : Nat} (hb : b < n) (hk : k ≤ a + 1) (ha : a ≤ n) : ∀ v ∈ vls P n a b k, 0 ≤ v ∧ v ≤ 2000000 := by
  intro v hv
  unfold vls at hv
  obtain ⟨x, hx, hv⟩ := List.mem_flatMap.1 hv
  have := List.mem_range.1 hx
  exact vrow_pos hP hb (by omega) (by omega) v hv
theorem mb_bd (l : List Int) (h : ∀ v ∈ l, 0 ≤ v ∧ v ≤ 2000000) : -1 ≤ mb l ∧ mb l ≤ 2000000 := by
  refine ⟨mb_lo l fun x hx => (h x hx).1, ?_⟩
  cases l with
  | nil => decide
  | cons y l => exact (h _ (mb_is (y :: l) (by simp) fun x hx => (h x hx).1).1).2
end Fr
theorem Mat.drewN {w : World} {a : Option Addr} {f : List (List Int)} (h : Mat w a f) (m : Nat) : Mat (w.drewN m) a f := h.below (below_drewN (Below.refl _ _) _)
set_option maxRecDepth 100000 in
set_option maxHeartbeats 800000 in
theorem cover_any {f : List (List Int)} (hs : Sq f) (hP : Fr.Ok (Fr.pr f) f.length) (hn6 : f.length ≤ 6) (ad : Option Addr) (cap b : Nat) (hb : b < f.length) : ∀ (K a : Nat) (A : Int) (w : World), b + 1 - a ≤ K → a ≤ f.length → A = (a : Int) → Mat w ad f →
    Calls Try.prog 28 #[.slice ad f.length cap, .int .i64 A, .int .i64 (b : Int)] w fun e w' => e = .returned (.int .i64 (Fr.cv (Fr.pr f) f.length a b)) ∧ ∃ q, w' = w.drewN q
  | K, a, A, w, hK, ha, hA, hm => by
    subst hA
    by_cases hab : b < a
    · have HE : Hid (Fr.cv (Fr.pr f) f.length a b = 0) := Fr.cv_over _ _ _ _ hab
      have hab' : (b : Int) < (a : Int) := by omega
      clear hm
      go_enter Try.func28, Try.ntmps28
      go_wp2
      go_ret
      exact ⟨ret_int HE.out.symm, 0, rfl⟩
    · cases K with
      | zero => omega
      | succ K =>
        have ih := fun a' A' W h1 h2 h3 h4 => cover_any hs hP hn6 ad cap b hb K a' A' W h1 h2 h3 h4
        have HE : Hid (Fr.cv (Fr.pr f) f.length a b = Fr.mb (Fr.vls (Fr.pr f) f.length a b (a + 1))) := Fr.cv_vls _ _ _ _ (by omega)
        have HS : Hid (Sq f) := hs
        have HP : Hid (Fr.Ok (Fr.pr f) f.length) := hP
        have HM : Hid (Mat w ad f) := hm
        obtain ⟨n, hn⟩ : ∃ n, f.length = n := ⟨_, rfl⟩
        have HN : Hid (f.length = n) := hn
        rw [hn] at hb hn6 HP ha HE ih ⊢
        have IH : Hid (_) := ih
        clear hs hP hm hn ih
        go_enter Try.func28, Try.ntmps28
        go_wp2
        go_loopw [7, 8, 9, 10] (fun bv xv _ _ wr => ∃ k : Nat, k ≤ a + 1 ∧ xv = .int .i64 k ∧ bv = .int .i64 (Fr.mb (Fr.vls (Fr.pr f) n a b k)) ∧ ∃ m, wr = w.drewN m) (fun _ xv _ _ _ => a + 1 - (intOf xv).toNat)
        case atStart => exact ⟨0, Nat.zero_le _, rfl, rfl, 0, rfl⟩
        case round =>
          obtain ⟨k, hk, rfl, rfl, m, rfl⟩ := hrel
          by_cases hlt : k < a + 1
          · have hlt' : (k : Int) ≤ (a : Int) := by omega
            have HLS : Hid (Fr.vls (Fr.pr f) n a b (k + 1) = Fr.vls (Fr.pr f) n a b k ++ Fr.vrow (Fr.pr f) n a b k (n - a)) := Fr.vls_succ _ _ _ _ _
            have HPOS : Hid (∀ v ∈ Fr.vls (Fr.pr f) n a b k, 0 ≤ v ∧ v ≤ 2000000) := Fr.vls_pos HP.out hb (by omega) (by omega)
            generalize Fr.vls (Fr.pr f) n a b k = LS at *
            go_wp2
            go_loopw [7, 9, 10] (fun bv yv _ wr => ∃ i : Nat, i ≤ n - a ∧ yv = .int .i64 ((a + i : Nat) : Int) ∧ bv = .int .i64 (Fr.mb (LS ++ Fr.vrow (Fr.pr f) n a b k i)) ∧ ∃ m, wr = w.drewN m) (fun _ yv _ _ => n - (intOf yv).toNat)
            case atStart => exact ⟨0, Nat.zero_le _, rfl, by rw [show Fr.vrow (Fr.pr f) n a b k 0 = [] from rfl, List.append_nil], m, rfl⟩
            case round =>
              obtain ⟨i, hi, rfl, rfl, hwr⟩ := hrel
              have HWR : Hid (∃ m, wr = w.drewN m) := hwr
              have HMR : Hid (Mat wr ad f) := by obtain ⟨m2, h⟩ := hwr; show Mat _ _ _; rw [h]; exact HM.out.drewN _
              clear hwr
              by_cases hli : a + i < n
              · have hli' : ((a + i : Nat) : Int) < (n : Int) := by omega
                have HRW : Hid (Fr.vrow (Fr.pr f) n a b k (i + 1) = Fr.vrow (Fr.pr f) n a b k i ++ [Fr.vl (Fr.pr f) n b k (a + i)]) := Fr.vrow_succ _ _ _ _ _ _
                have hbd := Fr.mb_bd (LS ++ Fr.vrow (Fr.pr f) n a b k i) (fun v hv => by
                  rcases List.mem_append.1 hv with h | h
                  · exact HPOS.out v h
                  · exact Fr.vrow_pos HP.out hb (by omega) (by omega) v h)
                have HBS : Hid (Fr.mb (LS ++ Fr.vrow (Fr.pr f) n a b k (i + 1)) = Fr.bs (Fr.mb (LS ++ Fr.vrow (Fr.pr f) n a b k i)) (Fr.vl (Fr.pr f) n b k (a + i))) := by show _ = _; rw [HRW.out, ← List.append_assoc, Fr.mb_snoc]
                generalize Fr.mb (LS ++ Fr.vrow (Fr.pr f) n a b k i) = B at *
                obtain ⟨y, hy⟩ : ∃ y, a + i = y := ⟨_, rfl⟩
                rw [hy] at hli hli' HRW HBS ⊢
                have hky : k ≤ y := by omega
                obtain ⟨t, ht⟩ : ∃ t, y - k = t := ⟨_, rfl⟩
                obtain ⟨b1, o1, b2, o2, ci, hf, hb1, hb2, c1, c2⟩ := HMR.out.price (x := k) (y := y) (by rw [HN.out]; omega) (by rw [HS.out k (by rw [HN.out]; omega), HN.out]; omega)
                rw [HS.out k (by rw [HN.out]; omega), HN.out] at c1
                rw [ht] at c2
                have htn : t < n - k := by omega
                obtain ⟨r, hr⟩ : ∃ r, n - k = r := ⟨_, rfl⟩
                rw [hr] at c1 htn
                have htn' : (t : Int) < (r : Int) := by omega
                have hwt : IntKind.i64.wrap (t : Int) = (t : Int) := by rw [IntKind.wrap_i64]; omega
                have hwy : IntKind.i64.wrap ((y : Int) + 1) = (y : Int) + 1 := by rw [IntKind.wrap_i64]; omega
                have et : (y : Int) - (k : Int) = (t : Int) := by omega
                have hkn' : (k : Int) < (n : Int) := by omega
                have hvb := Fr.vl_bd HP.out hb (x := k) (y := y) hky hli
                have HVL : Hid (Fr.vl (Fr.pr f) n b k y = Fr.pr f k y + Fr.cv (Fr.pr f) n (y + 1) b) := rfl
                have hpb := HP.out k y hky hli
                have hcb := Fr.cv_hi HP.out (a := y + 1) hb
                have IC : Hid (∀ W : World, Mat W (some ⟨b1, o1, none⟩) f → Calls Try.prog 28 #[.slice (some ⟨b1, o1, none⟩) n cap, .int .i64 ((y : Int) + 1), .int .i64 (b : Int)] W fun e w' => e = .returned (.int .i64 (Fr.cv (Fr.pr f) n (y + 1) b)) ∧ ∃ q, w' = W.drewN q) :=
                  fun W hW => hf ▸ IH.out (y + 1) _ W (by omega) (by omega) (by omega) (hf ▸ hW)
                clear IH
                subst hf
                rw [HVL.out] at HBS hvb
                generalize Fr.pr f k y = p at *
                generalize Fr.cv (Fr.pr f) n (y + 1) b = V at *
                have hwv : IntKind.i64.wrap (p + V) = p + V := by rw [IntKind.wrap_i64]; omega
                by_cases hB : B < 0
                · have hB' : decide (B < 0) = true := by simpa using hB
                  have HNB : Hid (Fr.bs B (p + V) = p + V) := by show _ = _; unfold Fr.bs; rw [if_pos (.inl hB)]
                  go_wp2
                  go_quiet ((go_at_call 28; exact Calls.quiet_of (IC.out _ (HMR.out.drewN _))))
                  go_wp2
                  refine ⟨⟨i + 1, by omega, by congr 1; omega, by rw [HBS.out, HNB.out], ?_⟩, by simp [intOf]; omega⟩
                  obtain ⟨m2, h⟩ := HWR.out
                  exact ⟨m2 + nq, by rw [h, World.drewN_drewN]⟩
                · have hB' : decide (B < 0) = false := by simpa using hB
                  by_cases hB2 : p + V < B
                  · have HNB : Hid (Fr.bs B (p + V) = p + V) := by show _ = _; unfold Fr.bs; rw [if_pos (.inr hB2)]
                    go_wp2
                    go_quiet ((go_at_call 28; exact Calls.quiet_of (IC.out _ (HMR.out.drewN _))))
                    go_wp2
                    refine ⟨⟨i + 1, by omega, by congr 1; omega, by rw [HBS.out, HNB.out], ?_⟩, by simp [intOf]; omega⟩
                    obtain ⟨m2, h⟩ := HWR.out
                    exact ⟨m2 + nq, by rw [h, World.drewN_drewN]⟩
                  · have HNB : Hid (Fr.bs B (p + V) = B) := by show _ = _; unfold Fr.bs; rw [if_neg (by omega)]
                    go_wp2
                    go_quiet ((go_at_call 28; exact Calls.quiet_of (IC.out _ (HMR.out.drewN _))))
                    go_wp2
                    refine ⟨⟨i + 1, by omega, by congr 1; omega, by rw [HBS.out, HNB.out], ?_⟩, by simp [intOf]; omega⟩
                    obtain ⟨m2, h⟩ := HWR.out
                    exact ⟨m2 + nq, by rw [h, World.drewN_drewN]⟩
              · have hli' : ¬ ((a + i : Nat) : Int) < (n : Int) := by omega
                obtain rfl : i = n - a := by omega
                rw [← HLS.out]
                clear IH
                go_wp2
                refine ⟨⟨k + 1, by omega, by go_num, rfl, HWR.out⟩, by simp [intOf]; omega⟩
          · obtain rfl : k = a + 1 := by omega
            have hlt' : ¬ ((a + 1 : Nat) : Int) ≤ (a : Int) := by omega
            go_wp2
            go_ret
            exact ⟨ret_int HE.out.symm, m, rfl⟩
end Go.Proofs.Ytcaibonnkfhkmaa
