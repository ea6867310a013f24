/- The walk of RefundFalls. -/
import Derived.Test.YthokgbbolijgiaaCRf
namespace Go.Proofs.Ythokgbbolijgiaa
open Go.RowKit Go.BigFrame

namespace Cv
/-- what RefundFalls says, of the values -/
theorem falls (l : List Off) (paid d fee more other : Int) (h : rc l paid d fee = 0) :
    code l d = 0 ∧ 0 ≤ rv l paid d fee ∧ rv l paid d fee ≤ paid ∧ (0 < rv l paid d fee → rv l paid d fee + val l d + fee = paid) ∧ (rc l paid more fee = 0 → d ≤ more → rv l paid more fee ≤ rv l paid d fee) ∧ (rc l other d fee = 0 → paid ≤ other → rv l paid d fee ≤ rv l other d fee) := by
  obtain ⟨hp, hf, hc⟩ := rc_ok l paid d fee h
  have hv := val_bd l d
  have e1 : rv l paid d fee = if 0 < paid - val l d - fee then paid - val l d - fee else 0 := by unfold rv; rw [if_pos h]
  refine ⟨hc, by rw [e1]; split <;> omega, by rw [e1]; split <;> omega, fun hh => ?_, fun h2 hd => ?_, fun h2 ho => ?_⟩
  · rw [e1] at hh ⊢
    split at hh
    · rw [if_pos (by assumption)]; omega
    · omega
  · have hc2 := (rc_ok l paid more fee h2).2.2
    have hm := val_mono l d more hc hc2 hd
    have e2 : rv l paid more fee = if 0 < paid - val l more - fee then paid - val l more - fee else 0 := by unfold rv; rw [if_pos h2]
    rw [e1, e2]
    split <;> split <;> omega
  · have e2 : rv l other d fee = if 0 < other - val l d - fee then other - val l d - fee else 0 := by unfold rv; rw [if_pos h2]
    rw [e1, e2]
    split <;> split <;> omega
end Cv
set_option maxRecDepth 100000 in
set_option maxHeartbeats 4000000 in
theorem refundFalls_any (paid : Int) (l : List Cv.Off) (a : Option Addr) (cap : Nat) (d fee more other : Int) (w : World) (hm : l.length ≤ maxLen ∧ l.length ≤ cap) (hr : RowO w a l) :
    Calls Try.prog 8 #[.int .i64 paid, .slice a l.length cap, .int .i64 d, .int .i64 fee, .int .i64 more, .int .i64 other] w fun e w' => e = .returned (.bool true) ∧ Below w.heap.size w w' := by
  have R : Hid (RowO w a l) := hr
  have HM : Hid (l.length ≤ maxLen ∧ l.length ≤ cap) := hm
  obtain ⟨n, hn⟩ : ∃ n, Cv.rv l paid d fee = n := ⟨_, rfl⟩
  by_cases h : Cv.rc l paid d fee = 0
  · obtain ⟨k1, k2, k3, k4, k5, k6⟩ := Cv.falls l paid d fee more other h
    have hpf := Cv.rc_ok l paid d fee h
    have hvb := Cv.val_bd l d
    obtain ⟨v, hv⟩ : ∃ v, Cv.val l d = v := ⟨_, rfl⟩
    obtain ⟨m, hmm⟩ : ∃ m, Cv.rv l paid more fee = m := ⟨_, rfl⟩
    obtain ⟨g, hg⟩ : ∃ g, Cv.rc l paid more fee = g := ⟨_, rfl⟩
    obtain ⟨k, hk⟩ : ∃ k, Cv.rv l other d fee = k := ⟨_, rfl⟩
    obtain ⟨q, hq⟩ : ∃ q, Cv.rc l other d fee = q := ⟨_, rfl⟩
    rw [hn] at k2 k3 k4 k5 k6
    rw [hv] at k4 hvb
    rw [hg, hmm] at k5
    rw [hq, hk] at k6
    have HV : Hid (Cv.val l d = v ∧ Cv.code l d = 0) := ⟨hv, k1⟩
    have HN : Hid (Cv.rv l paid d fee = n ∧ Cv.rc l paid d fee = 0) := ⟨hn, h⟩
    have HG : Hid (Cv.rv l paid more fee = m ∧ Cv.rc l paid more fee = g) := ⟨hmm, hg⟩
    have HQ : Hid (Cv.rv l other d fee = k ∧ Cv.rc l other d fee = q) := ⟨hk, hq⟩
    have K4 : Hid (0 < n → n + v + fee = paid) := k4
    have K5 : Hid (g = 0 → d ≤ more → m ≤ n) := k5
    have K6 : Hid (q = 0 → paid ≤ other → n ≤ k) := k6
    obtain ⟨v0, v1⟩ := hvb
    obtain ⟨⟨p0, p1⟩, ⟨f0, f1⟩, -⟩ := hpf
    clear hm hr hn h k1 k4 k5 k6 hv hmm hg hk hq
    have z1 : decide (n < 0) = false := decide_eq_false (by omega)
    have z2 : decide (paid < n) = false := decide_eq_false (by omega)
    by_cases n0 : 0 < n
    · have e4 : n + v + fee = paid := K4.out n0
      have e5 : (n + v + fee != paid) = false := by simp [e4]
      have z3 : decide (0 < n) = true := decide_eq_true n0
      clear e4
      go_enter Try.func8, Try.ntmps8
      go_wp2_with fail
      refine (refundOf_at l a _ cap paid d fee n 0 _ rfl HM.out.1 HM.out.2 HN.out.1 HN.out.2 R.out).mono ?_
      rintro e w1 ⟨rfl, hb⟩
      have B1 : Hid (Below w.heap.size w w1) := hb
      clear hb
      go_wp2_with fail
      refine (rbegun_any _).mono ?_
      rintro e w2 ⟨rfl, hb⟩
      have B2 : Hid (Below w.heap.size w w2) := below_on B1.out (Nat.le_refl _) hb
      clear hb
      go_wp2_with fail
      refine (worth_at l a _ cap d v 0 _ rfl HM.out.1 HM.out.2 HV.out.1 HV.out.2 (R.out.below B2.out)).mono ?_
      rintro e w3 ⟨rfl, hb⟩
      have B3 : Hid (Below w.heap.size w w3) := below_on B2.out (Nat.le_refl _) hb
      clear hb
      go_wp2_with fail
      refine (refundOf_at l a _ cap paid more fee m g _ rfl HM.out.1 HM.out.2 HG.out.1 HG.out.2 (R.out.below B3.out)).mono ?_
      rintro e w4 ⟨rfl, hb⟩
      have B4 : Hid (Below w.heap.size w w4) := below_on B3.out (Nat.le_refl _) hb
      clear hb
      go_wp2_with fail
      refine (refundOf_at l a _ cap other d fee k q _ rfl HM.out.1 HM.out.2 HQ.out.1 HQ.out.2 (R.out.below B4.out)).mono ?_
      rintro e w5 ⟨rfl, hb⟩
      have B5 : Hid (Below w.heap.size w w5) := below_on B4.out (Nat.le_refl _) hb
      clear hb
      by_cases hA : g = 0
      · subst hA
        by_cases hA2 : more < d
        · have a2 : decide (more < d) = true := decide_eq_true hA2
          by_cases hB : q = 0
          · subst hB
            by_cases hB2 : other < paid
            · have b2 : decide (other < paid) = true := decide_eq_true hB2
              go_wp2
              go_ret
              exact ⟨rfl, B5.out⟩
            · have b2 : decide (other < paid) = false := decide_eq_false hB2
              have b3 : n ≤ k := K6.out rfl (by omega)
              go_wp2
              go_ret
              exact ⟨rfl, B5.out⟩
          · have b1 : (q != 0) = true := by simpa using hB
            go_wp2
            go_ret
            exact ⟨rfl, B5.out⟩
        · have a2 : decide (more < d) = false := decide_eq_false hA2
          have a3 : m ≤ n := K5.out rfl (by omega)
          by_cases hB : q = 0
          · subst hB
            by_cases hB2 : other < paid
            · have b2 : decide (other < paid) = true := decide_eq_true hB2
              go_wp2
              go_ret
              exact ⟨rfl, B5.out⟩
            · have b2 : decide (other < paid) = false := decide_eq_false hB2
              have b3 : n ≤ k := K6.out rfl (by omega)
              go_wp2
              go_ret
              exact ⟨rfl, B5.out⟩
          · have b1 : (q != 0) = true := by simpa using hB
            go_wp2
            go_ret
            exact ⟨rfl, B5.out⟩
      · have a1 : (g != 0) = true := by simpa using hA
        by_cases hB : q = 0
        · subst hB
          by_cases hB2 : other < paid
          · have b2 : decide (other < paid) = true := decide_eq_true hB2
            go_wp2
            go_ret
            exact ⟨rfl, B5.out⟩
          · have b2 : decide (other < paid) = false := decide_eq_false hB2
            have b3 : n ≤ k := K6.out rfl (by omega)
            go_wp2
            go_ret
            exact ⟨rfl, B5.out⟩
        · have b1 : (q != 0) = true := by simpa using hB
          go_wp2
          go_ret
          exact ⟨rfl, B5.out⟩
    · have z3 : decide (0 < n) = false := decide_eq_false n0
      go_enter Try.func8, Try.ntmps8
      go_wp2_with fail
      refine (refundOf_at l a _ cap paid d fee n 0 _ rfl HM.out.1 HM.out.2 HN.out.1 HN.out.2 R.out).mono ?_
      rintro e w1 ⟨rfl, hb⟩
      have B1 : Hid (Below w.heap.size w w1) := hb
      clear hb
      go_wp2_with fail
      refine (rbegun_any _).mono ?_
      rintro e w2 ⟨rfl, hb⟩
      have B2 : Hid (Below w.heap.size w w2) := below_on B1.out (Nat.le_refl _) hb
      clear hb
      go_wp2_with fail
      refine (worth_at l a _ cap d v 0 _ rfl HM.out.1 HM.out.2 HV.out.1 HV.out.2 (R.out.below B2.out)).mono ?_
      rintro e w3 ⟨rfl, hb⟩
      have B3 : Hid (Below w.heap.size w w3) := below_on B2.out (Nat.le_refl _) hb
      clear hb
      go_wp2_with fail
      refine (refundOf_at l a _ cap paid more fee m g _ rfl HM.out.1 HM.out.2 HG.out.1 HG.out.2 (R.out.below B3.out)).mono ?_
      rintro e w4 ⟨rfl, hb⟩
      have B4 : Hid (Below w.heap.size w w4) := below_on B3.out (Nat.le_refl _) hb
      clear hb
      go_wp2_with fail
      refine (refundOf_at l a _ cap other d fee k q _ rfl HM.out.1 HM.out.2 HQ.out.1 HQ.out.2 (R.out.below B4.out)).mono ?_
      rintro e w5 ⟨rfl, hb⟩
      have B5 : Hid (Below w.heap.size w w5) := below_on B4.out (Nat.le_refl _) hb
      clear hb
      by_cases hA : g = 0
      · subst hA
        by_cases hA2 : more < d
        · have a2 : decide (more < d) = true := decide_eq_true hA2
          by_cases hB : q = 0
          · subst hB
            by_cases hB2 : other < paid
            · have b2 : decide (other < paid) = true := decide_eq_true hB2
              go_wp2
              go_ret
              exact ⟨rfl, B5.out⟩
            · have b2 : decide (other < paid) = false := decide_eq_false hB2
              have b3 : n ≤ k := K6.out rfl (by omega)
              go_wp2
              go_ret
              exact ⟨rfl, B5.out⟩
          · have b1 : (q != 0) = true := by simpa using hB
            go_wp2
            go_ret
            exact ⟨rfl, B5.out⟩
        · have a2 : decide (more < d) = false := decide_eq_false hA2
          have a3 : m ≤ n := K5.out rfl (by omega)
          by_cases hB : q = 0
          · subst hB
            by_cases hB2 : other < paid
            · have b2 : decide (other < paid) = true := decide_eq_true hB2
              go_wp2
              go_ret
              exact ⟨rfl, B5.out⟩
            · have b2 : decide (other < paid) = false := decide_eq_false hB2
              have b3 : n ≤ k := K6.out rfl (by omega)
              go_wp2
              go_ret
              exact ⟨rfl, B5.out⟩
          · have b1 : (q != 0) = true := by simpa using hB
            go_wp2
            go_ret
            exact ⟨rfl, B5.out⟩
      · have a1 : (g != 0) = true := by simpa using hA
        by_cases hB : q = 0
        · subst hB
          by_cases hB2 : other < paid
          · have b2 : decide (other < paid) = true := decide_eq_true hB2
            go_wp2
            go_ret
            exact ⟨rfl, B5.out⟩
          · have b2 : decide (other < paid) = false := decide_eq_false hB2
            have b3 : n ≤ k := K6.out rfl (by omega)
            go_wp2
            go_ret
            exact ⟨rfl, B5.out⟩
        · have b1 : (q != 0) = true := by simpa using hB
          go_wp2
          go_ret
          exact ⟨rfl, B5.out⟩
  · have hn0 : n = 0 := by rw [← hn]; unfold Cv.rv; rw [if_neg h]
    subst hn0
    obtain ⟨g, hg⟩ : ∃ g, Cv.rc l paid d fee = g := ⟨_, rfl⟩
    have HN : Hid (Cv.rv l paid d fee = 0 ∧ Cv.rc l paid d fee = g) := ⟨hn, hg⟩
    have hgn : (g != 0) = true := by rw [← hg]; simpa using h
    clear hm hr hn h hg
    go_enter Try.func8, Try.ntmps8
    go_wp2_with fail
    refine (refundOf_at l a _ cap paid d fee 0 g _ rfl HM.out.1 HM.out.2 HN.out.1 HN.out.2 R.out).mono ?_
    rintro e w1 ⟨rfl, hb⟩
    have B1 : Hid (Below w.heap.size w w1) := hb
    clear hb
    go_wp2_with fail
    refine (rbegun_any _).mono ?_
    rintro e w2 ⟨rfl, hb⟩
    have B2 : Hid (Below w.heap.size w w2) := below_on B1.out (Nat.le_refl _) hb
    clear hb
    go_wp2
    go_ret
    exact ⟨rfl, B2.out⟩
end Go.Proofs.Ythokgbbolijgiaa
