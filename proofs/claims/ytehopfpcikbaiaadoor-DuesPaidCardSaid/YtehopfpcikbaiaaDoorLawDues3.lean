/- The walk of DuesPaid. -/
import Derived.Test.YtehopfpcikbaiaaDoorDuBeg
namespace Go.Proofs.YtehopfpcikbaiaaDoor
open Go.RowKit Go.BigFrame

set_option maxRecDepth 100000 in
set_option maxHeartbeats 8000000 in
theorem duesPaid_any (l : List Dp.Du) (la : Option Addr) (lc : Nat) (n m : Int) (w : World) (hw : Laid w) (hl : l.length ≤ maxLen ∧ l.length ≤ lc) (hd : RowD w la l) :
    Calls Tryd.prog 5 #[.slice la l.length lc, .int .i64 n, .int .i64 m] w fun e w' => e = .returned (.bool true) ∧ Below w.heap.size w w' := by
  have HM : Hid (l.length ≤ maxLen ∧ l.length ≤ lc) := hl
  have L0 : Hid (Laid w) := hw
  have Q0 : Hid (RowD w la l) := hd
  obtain ⟨c, hc⟩ : ∃ c, Dp.chk l = c := ⟨_, rfl⟩
  have HC : Hid (Dp.chk l = c) := hc
  clear hl hd hw hc
  by_cases c0 : c = 0
  · subst c0
    have HOK : Hid (Dp.Ok l) := (Dp.chk_ok l).1 HC.out
    have hfew := HOK.out.few
    have hEA : ∀ x ∈ l, 0 ≤ x.2 ∧ x.2 ≤ 1099511627776 := fun x hx => ⟨(HOK.out.each x hx).2.2.1, (HOK.out.each x hx).2.2.2⟩
    have HEA : Hid (∀ x ∈ l, 0 ≤ x.2 ∧ x.2 ≤ 1099511627776) := hEA
    have hb := Dp.due_bd l n hEA
    have hb2 := Dp.due_bd l m hEA
    have HMO : Hid (n ≤ m → Dp.due l n ≤ Dp.due l m) := Dp.due_mono l n m (fun x hx => (hEA x hx).1)
    obtain ⟨x, hx⟩ : ∃ x, Dp.due l n = x := ⟨_, rfl⟩
    obtain ⟨x', hx'⟩ : ∃ x', Dp.due l m = x' := ⟨_, rfl⟩
    obtain ⟨y, hy⟩ : ∃ y, Dp.all l = y := ⟨_, rfl⟩
    have HY : Hid (Dp.all l = y) := hy
    have HPD : Hid (Dp.pd l n = x ∧ Dp.op l n = y - x ∧ Dp.pd l m = x' ∧ Dp.op l m = y - x') := by
      refine ⟨?_, ?_, ?_, ?_⟩
      · unfold Dp.pd; rw [if_pos HC.out, hx]
      · unfold Dp.op; rw [if_pos HC.out, hx, hy]
      · unfold Dp.pd; rw [if_pos HC.out, hx']
      · unfold Dp.op; rw [if_pos HC.out, hx', hy]
    rw [hx, hx'] at HMO
    rw [hx, hy] at hb
    rw [hx', hy] at hb2
    obtain ⟨x0, x1, y1⟩ := hb
    obtain ⟨x2, x3, -⟩ := hb2
    have y2 : y ≤ 35184372088832 := by omega
    obtain ⟨N, hN⟩ : ∃ N, l.length = N := ⟨_, rfl⟩
    have HN : Hid (l.length = N) := hN
    have hN2 : N ≤ 32 := by omega
    have h1 := fun W (hW : RowD W la l) => pPaid_any l la lc n W HM.out hW
    have h2 := fun W (hW : RowD W la l) => pPaid_any l la lc m W HM.out hW
    simp only [HPD.out.1, HPD.out.2.1, HPD.out.2.2.1, HPD.out.2.2.2, HC.out, hN] at h1 h2
    have H1 : Hid (∀ W, RowD W la l → Calls Tryd.prog 7 #[.slice la N lc, .int .i64 n] W fun e w' => e = .returned (.tuple #[.int .i64 x, .int .i64 (y - x), .int .i64 0]) ∧ Below W.heap.size W w') := h1
    have H2 : Hid (∀ W, RowD W la l → Calls Tryd.prog 7 #[.slice la N lc, .int .i64 m] W fun e w' => e = .returned (.tuple #[.int .i64 x', .int .i64 (y - x'), .int .i64 0]) ∧ Below W.heap.size W w') := h2
    rw [hN]
    clear hEA hx hy hx' y1 hfew h1 h2 hN
    go_enter Tryd.func5, Tryd.ntmps5
    go_wp2_with fail
    refine (H1.out w Q0.out).mono ?_
    rintro e w1 ⟨rfl, b1⟩
    have B1 : Hid (Below w.heap.size w w1) := b1
    clear b1
    go_wp2_with fail
    refine (H2.out w1 (Q0.out.below B1.out)).mono ?_
    rintro e w2 ⟨rfl, b2⟩
    have B2 : Hid (Below w.heap.size w w2) := below_on B1.out (Nat.le_refl _) b2
    clear b2
    go_wp2_with fail
    refine (dbegun_any _ (L0.out.below B2.out)).mono ?_
    rintro e w3 ⟨rfl, b3⟩
    have B3 : Hid (Below w.heap.size w w3) := below_on B2.out (Nat.le_refl _) b3
    have Q3 : Hid (RowD w3 la l) := Q0.out.below B3.out
    clear b3
    go_wp2
    go_loop [13, 14] (fun sv iv => ∃ k : Nat, k ≤ N ∧ iv = .int .i64 k ∧ sv = .int .i64 (Dp.all (l.take k))) (fun _ iv => N - (intOf iv).toNat)
    case atStart => exact ⟨0, Nat.zero_le _, rfl, rfl⟩
    case round =>
      obtain ⟨k, hk, rfl, rfl⟩ := hrel
      by_cases hlt : k < N
      · have hlt' : (k : Int) < (N : Int) := by omega
        obtain ⟨b, off, d, p, rfl, hxk, c1, c2⟩ := Q3.out.at (k := k) (by rw [HN.out]; exact hlt)
        have hbd := Dp.due_bd (l.take k) n (fun x hx => HEA.out x (List.mem_of_mem_take hx))
        have hp := HEA.out (d, p) (List.mem_of_getElem? hxk)
        rw [List.length_take, HN.out, Nat.min_eq_left hk] at hbd
        have HT : Hid (_) := Dp.all_take l k (d, p) hxk
        obtain ⟨s0, hs0⟩ : ∃ s0, Dp.all (l.take k) = s0 := ⟨_, rfl⟩
        have HS0 : Hid (Dp.all (l.take k) = s0) := hs0
        rw [hs0] at hbd ⊢
        have s1 : 0 ≤ s0 := by omega
        have s2 : s0 ≤ 35184372088832 := by omega
        have p1 := hp.1
        have p2 := hp.2
        simp only at p1 p2
        have HV : Hid (Dp.all (l.take (k + 1)) = s0 + p) := by show _ = _; rw [HT.out, HS0.out]
        clear hbd hp hxk hs0
        go_wp2
        go_round
        case rel => exact ⟨k + 1, by omega, by go_num, by rw [HV.out]⟩
        case measure => simp [intOf]; omega
      · obtain rfl : k = N := by omega
        have HTK : Hid (l.take k = l) := by show _ = _; rw [List.take_of_length_le (by rw [HN.out]; exact Nat.le_refl _)]
        rw [HTK.out, HY.out]
        have v1 : (x + (y - x) == y) = true := by rw [beq_iff_eq]; omega
        have v2 : (x' + (y - x') == y) = true := by rw [beq_iff_eq]; omega
        have v3 : decide (0 ≤ x) = true := decide_eq_true x0
        have v4 : decide (0 ≤ y - x) = true := decide_eq_true (by omega)
        by_cases hnm : m < n
        · have v5 : decide (m < n) = true := decide_eq_true hnm
          go_wp2
          go_ret
          exact ⟨rfl, B3.out⟩
        · have v5 : decide (m < n) = false := decide_eq_false hnm
          have v6 : decide (x ≤ x') = true := decide_eq_true (HMO.out (by omega))
          go_wp2
          go_ret
          exact ⟨rfl, B3.out⟩
  · have c1 : (c != 0) = true := by simpa using c0
    have HPD : Hid (∀ n, Dp.pd l n = 0 ∧ Dp.op l n = 0) := by
      intro n
      refine ⟨?_, ?_⟩
      · unfold Dp.pd; rw [HC.out, if_neg c0]
      · unfold Dp.op; rw [HC.out, if_neg c0]
    clear c0
    have h1 := fun n W (hW : RowD W la l) => pPaid_any l la lc n W HM.out hW
    simp only [(HPD.out _).1, (HPD.out _).2, HC.out] at h1
    have H1 : Hid (∀ n W, RowD W la l → Calls Tryd.prog 7 #[.slice la l.length lc, .int .i64 n] W fun e w' => e = .returned (.tuple #[.int .i64 0, .int .i64 0, .int .i64 c]) ∧ Below W.heap.size W w') := h1
    clear h1
    go_enter Tryd.func5, Tryd.ntmps5
    go_wp2_with fail
    refine (H1.out n w Q0.out).mono ?_
    rintro e w1 ⟨rfl, b1⟩
    have B1 : Hid (Below w.heap.size w w1) := b1
    clear b1
    go_wp2_with fail
    refine (H1.out m w1 (Q0.out.below B1.out)).mono ?_
    rintro e w2 ⟨rfl, b2⟩
    have B2 : Hid (Below w.heap.size w w2) := below_on B1.out (Nat.le_refl _) b2
    clear b2
    go_wp2_with fail
    refine (dbegun_any _ (L0.out.below B2.out)).mono ?_
    rintro e w3 ⟨rfl, b3⟩
    have B3 : Hid (Below w.heap.size w w3) := below_on B2.out (Nat.le_refl _) b3
    clear b3
    go_wp2
    go_ret
    exact ⟨rfl, B3.out⟩
end Go.Proofs.YtehopfpcikbaiaaDoor
