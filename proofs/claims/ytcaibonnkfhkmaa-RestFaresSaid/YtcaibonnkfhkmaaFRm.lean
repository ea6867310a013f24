/- The walk of the document's words: mended fares. -/
import Derived.Test.YtcaibonnkfhkmaaFRm0
namespace Go.Proofs.Ytcaibonnkfhkmaa
open Go.RowKit

theorem info_parts' {t : TypeId} {z : Value} {s b : Nat} (h : (Try.prog.info? t).map (fun i => (i.zero, i.size, i.bytes)) = some (some z, s, b)) : ∃ i, Try.prog.info? t = some i ∧ i.zero = some z ∧ i.size = s ∧ i.bytes = b := by
  cases e : Try.prog.info? t with
  | none => rw [e] at h; cases h
  | some i =>
    rw [e] at h
    simp only [Option.map_some, Option.some.injEq, Prod.mk.injEq] at h
    exact ⟨i, rfl, h.1, h.2.1, h.2.2⟩
def Fr.mrow (P : Fr.Pr) (n k i : Nat) : List Int := (List.range i).map fun i => Fr.cv P n k (k + i)
def Fr.mrows (P : Fr.Pr) (n k : Nat) : List (List Int) := (List.range k).map fun a => Fr.mrow P n a (n - a)
theorem Fr.mrow_succ (P : Fr.Pr) (n k i : Nat) : Fr.mrow P n k (i + 1) = Fr.mrow P n k i ++ [Fr.cv P n k (k + i)] := by unfold Fr.mrow; rw [List.range_succ, List.map_append]; rfl
theorem Fr.mrows_succ (P : Fr.Pr) (n k : Nat) : Fr.mrows P n (k + 1) = Fr.mrows P n k ++ [Fr.mrow P n k (n - k)] := by unfold Fr.mrows; rw [List.range_succ, List.map_append]; rfl
theorem Fr.mrow_len (P : Fr.Pr) (n k i : Nat) : (Fr.mrow P n k i).length = i := by simp [Fr.mrow]
theorem Fr.mrows_len (P : Fr.Pr) (n k : Nat) : (Fr.mrows P n k).length = k := by simp [Fr.mrows]
theorem oneR {W : World} {B : Nat} {u : Value} {xs : List Int} (h : OwnI W B u xs) : ∀ x ∈ [u], x.oneCell' = true := by
  intro x hx
  obtain ⟨a, c, rfl, _⟩ := h.row
  simp at hx; subst hx; rfl
set_option maxRecDepth 100000 in
set_option maxHeartbeats 800000 in
theorem refMend_ok {f : List (List Int)} (ad : Option Addr) (cap : Nat) (w : World) (hl : f.length ≤ maxLen) (hm : Mat w ad f) (hc : Fr.chk f = 0) :
    Calls Try.prog 17 #[.slice ad f.length cap] w fun e w' => ∃ v, e = .returned (.tuple #[v, .int .i64 0]) ∧ OwnM w' w.heap.size v (Fr.mend f) ∧ Below w.heap.size w w' := by
  have C := faresCheck_any f ad cap w hl hm
  rw [hc] at C
  obtain ⟨hn1, hn6, hs, hP⟩ := Fr.chk_zero hc
  obtain ⟨i0, hi, hz0, hz1, hz2⟩ := info_parts' info_int
  have HI : Hid (Try.prog.info? 3 = some i0 ∧ i0.zero = some (.int .i64 0) ∧ i0.size = 1 ∧ i0.bytes = 8) := ⟨hi, hz0, hz1, hz2⟩
  clear hi hz0 hz1 hz2
  obtain ⟨j0, hi, hz0, hz1, hz2⟩ := info_parts' info_row
  have HJ : Hid (Try.prog.info? 37 = some j0 ∧ j0.zero = some (.slice none 0 0) ∧ j0.size = 1 ∧ j0.bytes = 24) := ⟨hi, hz0, hz1, hz2⟩
  clear hi hz0 hz1 hz2
  have HCV : Hid (∀ (a b : Nat) (W : World), a ≤ b → b < f.length → Mat W ad f → Calls Try.prog 28 #[.slice ad f.length cap, .int .i64 (a : Int), .int .i64 (b : Int)] W fun e w' => e = .returned (.int .i64 (Fr.cv (Fr.pr f) f.length a b)) ∧ ∃ q, w' = W.drewN q) :=
    fun a b W h1 h2 h3 => cover_any hs hP hn6 ad cap b h2 (b + 1) a _ W (by omega) (by omega) rfl h3
  have HM : Hid (Mat w ad f) := hm
  have HME : Hid (Fr.mend f = Fr.mrows (Fr.pr f) f.length f.length) := rfl
  obtain ⟨n, hn⟩ : ∃ n, f.length = n := ⟨_, rfl⟩
  rw [hn] at hn1 hn6 HCV HME C ⊢
  generalize Fr.pr f = P at *
  clear hs hP hm hn hc hl
  go_enter Try.func17, Try.ntmps17
  go_wp2_with fail
  refine C.mono ?_; rintro e w' ⟨rfl, rfl⟩
  go_wp2
  go_loopw [5, 6, 7, 8] (fun v av _ _ wr => ∃ k : Nat, k ≤ n ∧ av = .int .i64 k ∧ OwnM wr w'.heap.size v (Fr.mrows P n k) ∧ Below w'.heap.size w' wr) (fun _ av _ _ _ => n - (intOf av).toNat)
  case atStart => exact ⟨0, Nat.zero_le _, rfl, OwnM.nil _ _, Below.refl _ _⟩
  case round =>
    obtain ⟨k, hk, rfl, hown, hB⟩ := hrel
    have HO : Hid (OwnM wr w'.heap.size u5 (Fr.mrows P n k)) := hown
    have HB : Hid (Below w'.heap.size w' wr) := hB
    clear hown hB
    obtain ⟨W1, hW1⟩ : ∃ W1, W1 = wr := ⟨_, rfl⟩
    subst hW1
    by_cases hlt : k < n
    · have hlt' : (k : Int) < (n : Int) := by omega
      go_wp2
      go_loopw [7, 8] (fun u bv wq => ∃ i : Nat, i ≤ n - k ∧ bv = .int .i64 ((k + i : Nat) : Int) ∧ OwnI wq W1.heap.size u (Fr.mrow P n k i) ∧ Below W1.heap.size W1 wq) (fun _ bv _ => n - (intOf bv).toNat)
      case atStart => exact ⟨0, Nat.zero_le _, rfl, OwnI.nil _ _, Below.refl _ _⟩
      case round =>
        obtain ⟨i, hi, rfl, hown, hB2⟩ := hrel
        have HU : Hid (OwnI wr W1.heap.size u7 (Fr.mrow P n k i)) := hown
        have HB2 : Hid (Below W1.heap.size W1 wr) := hB2
        clear hown hB2
        obtain ⟨W2, hW2⟩ : ∃ W2, W2 = wr := ⟨_, rfl⟩
        subst hW2
        by_cases hli : i < n - k
        · obtain ⟨b, hb⟩ : ∃ b, k + i = b := ⟨_, rfl⟩
          have HS : Hid (Fr.mrow P n k (i + 1) = Fr.mrow P n k i ++ [Fr.cv P n k b]) := by show _ = _; rw [Fr.mrow_succ, hb]
          have HLn : Hid ((Fr.mrow P n k i).length = i) := Fr.mrow_len _ _ _ _
          rw [hb]
          have hbn' : (b : Int) < (n : Int) := by omega
          have HC : Hid (Calls Try.prog 28 #[.slice ad n cap, .int .i64 (k : Int), .int .i64 (b : Int)] W2 fun e w' => e = .returned (.int .i64 (Fr.cv P n k b)) ∧ ∃ q, w' = W2.drewN q) := HCV.out k b W2 (by omega) (by omega) ((HM.out.below HB.out).below HB2.out)
          generalize Fr.cv P n k b = V at *
          generalize Fr.mrow P n k i = xs at *
          go_wp2_with fail
          refine HC.out.mono ?_; rintro e W3 ⟨rfl, q, hq⟩
          have HU3 : Hid (OwnI W3 W1.heap.size u7 xs) := by show OwnI _ _ _ _; rw [hq]; exact HU.out.still (below_drewN (Below.refl _ _) q)
          have HB3 : Hid (Below W1.heap.size W1 W3) := by show Below _ _ _; rw [hq]; exact below_drewN HB2.out q
          have hsz : W1.heap.size ≤ W3.heap.size := HB3.out.size
          clear hq
          go_wp2_with (at_builtin; refine wpList_append_own _ rfl (.tmp 27) (.tmp 32) 37 rfl W1.heap.size 3 i0 (.int .i64 0) 1 8 (by rfl) HI.out.1 HI.out.2.1 HI.out.2.2.1 HI.out.2.2.2 rfl (by decide) _ _ _ rfl (World.ownsRow.alloc HU3.out _) ⟨W3.heap.size, 0, none⟩ 1 1 [.int .i64 V] rfl rfl (cell1_new _ _ _) (one1 _) (by unfold maxLen; have := HLn.out; omega) (by have := HLn.out; omega) (by first | omega | (simp; omega)) ?_; intro v1 w1 own1 grow1 _)
          have R := OwnI.keep hsz HU3.out HB3.out own1 grow1
          clear own1 grow1
          go_wp2
          refine ⟨⟨i + 1, by omega, by congr 1; omega, by rw [HS.out]; exact R.1, R.2⟩, by simp [intOf]; omega⟩
        · obtain rfl : i = n - k := by omega
          have hli' : ¬ ((k + (n - k) : Nat) : Int) < (n : Int) := by omega
          have HS : Hid (Fr.mrows P n (k + 1) = Fr.mrows P n k ++ [Fr.mrow P n k (n - k)]) := Fr.mrows_succ _ _ _
          have HLn : Hid ((Fr.mrows P n k).length = k) := Fr.mrows_len _ _ _
          generalize Fr.mrow P n k (n - k) = xs at *
          generalize Fr.mrows P n k = g at *
          obtain ⟨vs, hvs, hR, hrows⟩ := HO.out.still HB2.out
          have HU3 : Hid (OwnI W2 w'.heap.size u7 xs) := HU.out.weak HB.out.size
          have HB3 : Hid (Below w'.heap.size w' W2) := below_on HB.out (Nat.le_refl _) HB2.out
          have HVS : Hid (vs.length = g.length) := hvs
          have HR : Hid (OwnR W2 w'.heap.size u5 vs) := hR
          have HRO : Hid (∀ (j : Nat) (r : List Int), g[j]? = some r → ∃ u, vs[j]? = some u ∧ OwnI W2 w'.heap.size u r) := hrows
          have hsz : w'.heap.size ≤ W2.heap.size := HB3.out.size
          clear hR hrows hvs
          obtain ⟨ua, uc, hu7, _⟩ := HU3.out.row
          subst hu7
          go_wp2_with (at_builtin; (refine wpList_append_own _ rfl (.tmp 34) (.tmp 36) 23 rfl w'.heap.size 37 j0 (.slice none 0 0) 1 24 (by rfl) HJ.out.1 HJ.out.2.1 HJ.out.2.2.1 HJ.out.2.2.2 rfl (by decide) _ _ _ rfl (World.ownsRow.alloc HR.out _) ⟨W2.heap.size, 0, none⟩ 1 1 [.slice ua xs.length uc] rfl rfl (cell1_new _ _ _) (oneR HU3.out) (by unfold maxLen; have := HLn.out; have := HVS.out; omega) (by have := HLn.out; have := HVS.out; omega) (by first | omega | (simp; omega)) ?_; intro v1 w1 own1 grow1 _))
          have R := OwnM.keep hsz HVS.out HR.out HRO.out HU3.out HB3.out own1 grow1
          clear own1 grow1
          go_wp2
          refine ⟨⟨k + 1, by omega, by go_num, by rw [HS.out]; exact R.1, R.2⟩, by simp [intOf]; omega⟩
    · obtain rfl : n = k := by omega
      go_wp2
      go_ret2
      exact ⟨_, rfl, by rw [HME.out]; exact HO.out, HB.out⟩
end Go.Proofs.Ytcaibonnkfhkmaa
