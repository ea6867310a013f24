/- The program's look over a pass. -/
import Derived.Test.YtandlmnbnjkklaaGreatDoorSComb
import Derived.Test.YtandlmnbnjkklaaGreatDoorPzRenToSpnJoin
namespace Go.Proofs.YtandlmnbnjkklaaGreatDoor
open Go.RowKit Go.BigFrame

namespace Pz
theorem chk_end (l : List Spn.Sp) (h : Spn.chk l = 0) (f t : Spn.Sp) (n : Nat) (hn : l.length = n + 1) (h0 : l[0]? = some f) (h1 : l[n]? = some t) : outB l = (decide (f.1 < 1) || decide (3652059 < t.2)) := by
  have hc := ((Spn.chk_zero l).1 h).2.2
  have hp := (Spn.canon_iff_pair l).1 hc
  have hpe : pend l = t.2 := by
    have h9 := lastTo_succ l n _ h1
    unfold pend
    exact (congrArg (lastTo l) hn).trans h9
  have hle := le_pend l hc
  rw [hpe] at hle
  have hfe : ∀ s ∈ l, f.1 ≤ s.1 := by
    intro s hs
    obtain ⟨i, hi, rfl⟩ := List.mem_iff_getElem.1 hs
    rw [List.getElem?_eq_getElem (by omega)] at h0
    have h0 := Option.some.inj h0
    rcases Nat.eq_zero_or_pos i with c | c
    · subst c; rw [h0]; exact Int.le_refl _
    · have h2 := (List.pairwise_iff_getElem.1 hp.2) 0 i (by omega) hi c
      have h3 := hp.1 _ (List.getElem_mem (show 0 < l.length by omega))
      rw [h0] at h2 h3
      omega
  cases ho : outB l with
  | false =>
    have hin := (outB_no l).1 ho
    have a := hin f (List.mem_of_getElem? h0)
    have b := hin t (List.mem_of_getElem? h1)
    symm
    rw [Bool.or_eq_false_iff]
    exact ⟨decide_eq_false (by omega), decide_eq_false (by omega)⟩
  | true =>
    unfold outB at ho
    rw [List.any_eq_true] at ho
    obtain ⟨s, hs, hv⟩ := ho
    have a := hfe s hs
    have b := hle s hs
    simp at hv
    symm
    rw [Bool.or_eq_true]
    rcases hv with hv | hv
    · exact .inl (decide_eq_true (by omega))
    · exact .inr (decide_eq_true (by omega))
end Pz
theorem zqWithin (n a b : Int) (w : World) :
    Calls Tryz.prog 56 #[.int .i64 n, .int .i64 a, .int .i64 b] w fun e w' => e = .returned (.bool (decide (a ≤ n ∧ n ≤ b))) ∧ w = w' := by
  by_cases h1 : a ≤ n
  · by_cases h2 : n ≤ b
    · have e : decide (a ≤ n ∧ n ≤ b) = true := by simp; omega
      rw [e]; clear e
      go_enter Tryz.func56, Tryz.ntmps56
      go_wp2
      go_ret
      exact ⟨rfl, rfl⟩
    · have e : decide (a ≤ n ∧ n ≤ b) = false := by simp; omega
      rw [e]; clear e
      go_enter Tryz.func56, Tryz.ntmps56
      go_wp2
      go_ret
      exact ⟨rfl, rfl⟩
  · have e : decide (a ≤ n ∧ n ≤ b) = false := by simp; omega
    rw [e]; clear e
    have h1' : decide (a ≤ n) = false := by simpa using h1
    go_enter Tryz.func56, Tryz.ntmps56
    go_wp2
    go_ret
    exact ⟨rfl, rfl⟩
theorem zqDay (n : Int) (w : World) :
    Calls Tryz.prog 48 #[.int .i64 n] w fun e w' => e = .returned (.bool (decide (1 ≤ n ∧ n ≤ 3652059))) ∧ w = w' := by
  go_enter Tryz.func48, Tryz.ntmps48
  go_wp2_with (go_at_call 56; refine (zqWithin _ _ _ _).mono ?_; rintro e w1 ⟨rfl, rfl⟩)
  go_ret
  exact ⟨ret_bool (Bool.decide_and _ _).symm, rfl⟩
theorem zqZone (n : Int) (w : World) :
    Calls Tryz.prog 55 #[.int .i64 n] w fun e w' => e = .returned (.bool (decide (0 ≤ n ∧ n ≤ 5))) ∧ w = w' := by
  go_enter Tryz.func55, Tryz.ntmps55
  go_wp2_with (go_at_call 56; refine (zqWithin _ _ _ _).mono ?_; rintro e w1 ⟨rfl, rfl⟩)
  go_ret
  exact ⟨ret_bool (Bool.decide_and _ _).symm, rfl⟩
theorem zqSpans (l : List Spn.Sp) (c : Int) (a : Option Addr) (n cap : Nat) (w : World) (hn : l.length = n) (hl : n ≤ maxLen) (h : Spn.chk l = c) (hr : Row2 w a l) :
    Calls Tryz.prog 53 #[.slice a n cap] w fun e w' => e = .returned (.int .i64 c) ∧ Below w.heap.size w w' := by
  subst h hn
  exact pCheck l a cap w hl hr
set_option maxRecDepth 100000 in
set_option maxHeartbeats 8000000 in
theorem pZCheck_any (p : Pz.Pq) (a : Option Addr) (N c : Nat) (w : World) (hN : p.days.length = N) (hl : N ≤ maxLen) (_hc : N ≤ c) (_hn : a = none → c = 0 ∧ p.days = []) (hr : Row2 w a p.days) :
    Calls Tryz.prog 25 #[pv p a N c] w fun e w' => e = .returned (.int .i64 (Pz.chk p)) ∧ Below w.heap.size w w' := by
  obtain ⟨id, born, pa, pb, ser, l⟩ := p
  have HN : Hid (l.length = N) := hN
  have R : Hid (Row2 w a l) := hr
  have B0 : Hid (Below w.heap.size w (w.alloc (.cells #[.int .i64 id, .int .i64 born, .int .i64 pa, .int .i64 pb, .int .i64 ser, .slice a N c] 24))) := below_box w _
  have C0 : Hid (Has6 _ _ ⟨id, born, pa, pb, ser, l⟩ a N c) := Has6.new w ⟨id, born, pa, pb, ser, l⟩ a N c 24
  clear hr hN _hc _hn
  by_cases h0 : ¬ (1 ≤ id ∧ id ≤ 999999)
  · have e0 : decide (1 ≤ id ∧ id ≤ 999999) = false := decide_eq_false h0
    have HE : Hid (Pz.chk ⟨id, born, pa, pb, ser, l⟩ = 3) := by
      show _ = _
      unfold Pz.chk
      rw [if_pos (by unfold Pz.nb; simp only; omega)]
    rw [HE.out]
    go_enter Tryz.func25, Tryz.ntmps25
    go_wp2_with (first
      | (go_at_call 56; refine (zqWithin _ _ _ _).mono ?_; rintro e w1 ⟨rfl, rfl⟩; first | rw [e0] | rw [e7])
      | (go_at_call 48; refine (zqDay _ _).mono ?_; rintro e w1 ⟨rfl, rfl⟩; rw [e1])
      | (go_at_call 55; refine (zqZone _ _).mono ?_; rintro e w1 ⟨rfl, rfl⟩; first | rw [e3] | rw [e4]))
    go_ret
    exact ⟨rfl, B0.out⟩
  have e0 : decide (1 ≤ id ∧ id ≤ 999999) = true := decide_eq_true (Decidable.not_not.1 h0)
  by_cases h1 : ¬ (1 ≤ born ∧ born ≤ 3652059)
  · have e1 : decide (1 ≤ born ∧ born ≤ 3652059) = false := decide_eq_false h1
    have HE : Hid (Pz.chk ⟨id, born, pa, pb, ser, l⟩ = 3) := by
      show _ = _
      unfold Pz.chk
      rw [if_pos (by unfold Pz.nb; simp only; omega)]
    rw [HE.out]
    go_enter Tryz.func25, Tryz.ntmps25
    go_wp2_with (first
      | (go_at_call 56; refine (zqWithin _ _ _ _).mono ?_; rintro e w1 ⟨rfl, rfl⟩; first | rw [e0] | rw [e7])
      | (go_at_call 48; refine (zqDay _ _).mono ?_; rintro e w1 ⟨rfl, rfl⟩; rw [e1])
      | (go_at_call 55; refine (zqZone _ _).mono ?_; rintro e w1 ⟨rfl, rfl⟩; first | rw [e3] | rw [e4]))
    go_ret
    exact ⟨rfl, B0.out⟩
  have e1 : decide (1 ≤ born ∧ born ≤ 3652059) = true := decide_eq_true (Decidable.not_not.1 h1)
  by_cases h3 : ¬ (0 ≤ pa ∧ pa ≤ 5)
  · have e3 : decide (0 ≤ pa ∧ pa ≤ 5) = false := decide_eq_false h3
    have HE : Hid (Pz.chk ⟨id, born, pa, pb, ser, l⟩ = 3) := by
      show _ = _
      unfold Pz.chk
      rw [if_pos (by unfold Pz.nb; simp only; omega)]
    rw [HE.out]
    go_enter Tryz.func25, Tryz.ntmps25
    go_wp2_with (first
      | (go_at_call 56; refine (zqWithin _ _ _ _).mono ?_; rintro e w1 ⟨rfl, rfl⟩; first | rw [e0] | rw [e7])
      | (go_at_call 48; refine (zqDay _ _).mono ?_; rintro e w1 ⟨rfl, rfl⟩; rw [e1])
      | (go_at_call 55; refine (zqZone _ _).mono ?_; rintro e w1 ⟨rfl, rfl⟩; first | rw [e3] | rw [e4]))
    go_ret
    exact ⟨rfl, B0.out⟩
  have e3 : decide (0 ≤ pa ∧ pa ≤ 5) = true := decide_eq_true (Decidable.not_not.1 h3)
  by_cases h4 : ¬ (0 ≤ pb ∧ pb ≤ 5)
  · have e4 : decide (0 ≤ pb ∧ pb ≤ 5) = false := decide_eq_false h4
    have HE : Hid (Pz.chk ⟨id, born, pa, pb, ser, l⟩ = 3) := by
      show _ = _
      unfold Pz.chk
      rw [if_pos (by unfold Pz.nb; simp only; omega)]
    rw [HE.out]
    go_enter Tryz.func25, Tryz.ntmps25
    go_wp2_with (first
      | (go_at_call 56; refine (zqWithin _ _ _ _).mono ?_; rintro e w1 ⟨rfl, rfl⟩; first | rw [e0] | rw [e7])
      | (go_at_call 48; refine (zqDay _ _).mono ?_; rintro e w1 ⟨rfl, rfl⟩; rw [e1])
      | (go_at_call 55; refine (zqZone _ _).mono ?_; rintro e w1 ⟨rfl, rfl⟩; first | rw [e3] | rw [e4]))
    go_ret
    exact ⟨rfl, B0.out⟩
  have e4 : decide (0 ≤ pb ∧ pb ≤ 5) = true := decide_eq_true (Decidable.not_not.1 h4)
  by_cases h5 : pb < pa
  · have HE : Hid (Pz.chk ⟨id, born, pa, pb, ser, l⟩ = 3) := by
      show _ = _
      unfold Pz.chk
      rw [if_pos (by unfold Pz.nb; simp only; omega)]
    rw [HE.out]
    go_enter Tryz.func25, Tryz.ntmps25
    go_wp2_with (first
      | (go_at_call 56; refine (zqWithin _ _ _ _).mono ?_; rintro e w1 ⟨rfl, rfl⟩; first | rw [e0] | rw [e7])
      | (go_at_call 48; refine (zqDay _ _).mono ?_; rintro e w1 ⟨rfl, rfl⟩; rw [e1])
      | (go_at_call 55; refine (zqZone _ _).mono ?_; rintro e w1 ⟨rfl, rfl⟩; first | rw [e3] | rw [e4]))
    go_ret
    exact ⟨rfl, B0.out⟩
  have e5 : decide (pb < pa) = false := decide_eq_false h5
  by_cases h7 : ¬ (1 ≤ ser ∧ ser ≤ 999)
  · have e7 : decide (1 ≤ ser ∧ ser ≤ 999) = false := decide_eq_false h7
    have HE : Hid (Pz.chk ⟨id, born, pa, pb, ser, l⟩ = 3) := by
      show _ = _
      unfold Pz.chk
      rw [if_pos (by unfold Pz.nb; simp only; omega)]
    rw [HE.out]
    go_enter Tryz.func25, Tryz.ntmps25
    go_wp2_with (first
      | (go_at_call 56; refine (zqWithin _ _ _ _).mono ?_; rintro e w1 ⟨rfl, rfl⟩; first | rw [e0] | rw [e7])
      | (go_at_call 48; refine (zqDay _ _).mono ?_; rintro e w1 ⟨rfl, rfl⟩; rw [e1])
      | (go_at_call 55; refine (zqZone _ _).mono ?_; rintro e w1 ⟨rfl, rfl⟩; first | rw [e3] | rw [e4]))
    go_ret
    exact ⟨rfl, B0.out⟩
  have e7 : decide (1 ≤ ser ∧ ser ≤ 999) = true := decide_eq_true (Decidable.not_not.1 h7)
  have HNB : Hid (¬ Pz.nb ⟨id, born, pa, pb, ser, l⟩) := by show ¬ _; unfold Pz.nb; simp only; omega
  obtain ⟨d, hd⟩ : ∃ d, Spn.chk l = d := ⟨_, rfl⟩
  have HSD : Hid (Spn.chk l = d) := hd
  clear hd h0 h1 h3 h4 h5 h7
  by_cases d0 : d = 0
  · subst d0
    have HE : Hid (Pz.chk ⟨id, born, pa, pb, ser, l⟩ = if Pz.outB l = true then 3 else 0) := by
      show _ = _
      unfold Pz.chk
      rw [if_neg HNB.out, if_pos HSD.out]
    have hN64 : N ≤ 64 := by rw [← HN.out]; exact ((Spn.chk_zero l).1 HSD.out).1
    go_enter Tryz.func25, Tryz.ntmps25
    go_wp2_with (first
      | (go_at_call 56; refine (zqWithin _ _ _ _).mono ?_; rintro e w1 ⟨rfl, rfl⟩; first | rw [e0] | rw [e7])
      | (go_at_call 48; refine (zqDay _ _).mono ?_; rintro e w1 ⟨rfl, rfl⟩; rw [e1])
      | (go_at_call 55; refine (zqZone _ _).mono ?_; rintro e w1 ⟨rfl, rfl⟩; first | rw [e3] | rw [e4]))
    refine (zqSpans l 0 a N c _ HN.out hl HSD.out (R.out.below B0.out)).mono ?_
    rintro e w2 ⟨rfl, hb⟩
    have C2 : Hid (Has6 w2 w.heap.size ⟨id, born, pa, pb, ser, l⟩ a N c) := C0.out.below hb
    have B2 : Hid (Below w.heap.size w w2) := below_on B0.out (Nat.le_refl _) hb
    have R2 : Hid (Row2 w2 a l) := R.out.below B2.out
    clear hb
    have k5 := C2.out.c5
    by_cases hz : N = 0
    · subst hz
      have HL0 : Hid (l = []) := List.eq_nil_of_length_eq_zero HN.out
      have HEE : Hid (Pz.chk ⟨id, born, pa, pb, ser, l⟩ = 0) := by show _ = _; rw [HE.out, HL0.out]; rfl
      go_wp2
      go_ret
      exact ⟨ret_int HEE.out.symm, B2.out⟩
    · obtain ⟨n, rfl⟩ : ∃ n, N = n + 1 := ⟨N - 1, by omega⟩
      obtain ⟨b, off, x, y, rfl, hx, c1, -⟩ := R2.out.at (k := 0) (by rw [HN.out]; omega)
      obtain ⟨b', off', x', y', e', hx', -, c2⟩ := R2.out.at (k := n) (by rw [HN.out]; omega)
      obtain ⟨rfl, rfl⟩ : b = b' ∧ off = off' := by simpa using e'
      have HV : Hid (Pz.outB l = (decide (x < 1) || decide (3652059 < y'))) := Pz.chk_end l HSD.out _ _ n HN.out hx hx'
      simp only [Nat.zero_mul, Nat.add_zero] at c1
      have en : ((n + 1 : Nat) : Int) - 1 = (n : Int) := by omega
      have hn0 : (0 : Int) ≤ (n : Int) := by omega
      have hnn : (n : Int) < ((n + 1 : Nat) : Int) := by omega
      clear e' hx hx' hz
      by_cases x1 : x < 1
      · have HEE : Hid (Pz.chk ⟨id, born, pa, pb, ser, l⟩ = 3) := by show _ = _; rw [HE.out, HV.out, decide_eq_true x1]; rfl
        go_wp2
        go_ret
        exact ⟨ret_int HEE.out.symm, B2.out⟩
      · have x1' : decide (x < 1) = false := decide_eq_false x1
        by_cases y1 : 3652059 < y'
        · have HEE : Hid (Pz.chk ⟨id, born, pa, pb, ser, l⟩ = 3) := by show _ = _; rw [HE.out, HV.out, x1', decide_eq_true y1]; rfl
          go_wp2
          go_ret
          exact ⟨ret_int HEE.out.symm, B2.out⟩
        · have y1' : decide (3652059 < y') = false := decide_eq_false y1
          have HEE : Hid (Pz.chk ⟨id, born, pa, pb, ser, l⟩ = 0) := by show _ = _; rw [HE.out, HV.out, x1', y1']; rfl
          go_wp2
          go_ret
          exact ⟨ret_int HEE.out.symm, B2.out⟩
  · have HE : Hid (Pz.chk ⟨id, born, pa, pb, ser, l⟩ = d) := by
      show _ = _
      unfold Pz.chk
      rw [if_neg HNB.out, HSD.out, if_neg d0]
    rw [HE.out]
    have d1 : (d != 0) = true := by simpa using d0
    clear d0
    go_enter Tryz.func25, Tryz.ntmps25
    go_wp2_with (first
      | (go_at_call 56; refine (zqWithin _ _ _ _).mono ?_; rintro e w1 ⟨rfl, rfl⟩; first | rw [e0] | rw [e7])
      | (go_at_call 48; refine (zqDay _ _).mono ?_; rintro e w1 ⟨rfl, rfl⟩; rw [e1])
      | (go_at_call 55; refine (zqZone _ _).mono ?_; rintro e w1 ⟨rfl, rfl⟩; first | rw [e3] | rw [e4]))
    refine (zqSpans l d a N c _ HN.out hl HSD.out (R.out.below B0.out)).mono ?_
    rintro e w2 ⟨rfl, hb⟩
    have B2 : Hid (Below w.heap.size w w2) := below_on B0.out (Nat.le_refl _) hb
    clear hb
    go_wp2
    go_ret
    exact ⟨rfl, B2.out⟩
end Go.Proofs.YtandlmnbnjkklaaGreatDoor
