/- The walks of the reference's shares, of its sum, and of whether two lists are one. -/
import Derived.Test.YthbobmanicnplaaHJef
namespace Go.Proofs.Ythbobmanicnplaa
open Go.RowKit Go.BigFrame Go.Sort

set_option maxRecDepth 100000 in
set_option maxHeartbeats 1000000 in
theorem hSame (xs : List Int) (a b : Option Addr) (ca cb : Nat) (w : World) (hl : xs.length ≤ maxLen) (ha : Row1 w a xs) (hb : Row1 w b xs) :
    Calls Try.prog 16 #[.slice a xs.length ca, .slice b xs.length cb] w fun e w' => e = .returned (.bool true) ∧ Below w.heap.size w w' := by
  unfold maxLen at hl
  go_enter Try.func16, Try.ntmps16
  go_wp2
  go_loopw [5] (fun i wr => ∃ k : Nat, k ≤ xs.length ∧ i = .int .i64 k ∧ Below w.heap.size w wr) (fun i _ => xs.length - (intOf i).toNat)
  case atStart => exact ⟨0, Nat.zero_le _, rfl, Below.refl _ _⟩
  case round =>
    obtain ⟨k, hk, rfl, hnx⟩ := hrel
    by_cases hlt : k < xs.length
    · have hlt' : (k : Int) < (xs.length : Int) := by omega
      have hk0 : (0 : Int) ≤ (k : Int) := by omega
      obtain ⟨b1, o1, x, rfl, hb1, hx1, c1⟩ := (ha.below hnx).at hlt
      obtain ⟨b2, o2, x', rfl, hb2, hx2, c2⟩ := (hb.below hnx).at hlt
      obtain rfl : x = x' := Option.some.inj (hx1.symm.trans hx2)
      clear hx1 hx2
      go_wp2
      go_quiet (fail)
      go_wp2
      go_roundw
      case rel => exact ⟨k + 1, by omega, by go_num, below_drewN hnx _⟩
      case measure => simp [intOf]; omega
    · obtain rfl : k = xs.length := by omega
      go_wp2
      go_ret
      exact ⟨rfl, hnx⟩
set_option maxHeartbeats 400000 in
theorem total_any (l : List Int) (a : Option Addr) (cap : Nat) (w : World) (hl : l.length ≤ 64) (hx : ∀ i, 0 ≤ Shr.at' l i ∧ Shr.at' l i ≤ 2199023255552) (hr : Row1 w a l) :
    Calls Try.prog 17 #[.slice a l.length cap] w fun e w' => e = .returned (.int .i64 l.sum) ∧ w' = w := by
  have hb : ∀ k, 0 ≤ Shr.sm k (Shr.at' l) ∧ Shr.sm k (Shr.at' l) ≤ k * 2199023255552 := fun k => ⟨Shr.sm_nonneg k _ (fun i _ => (hx i).1), by rw [← Shr.sm_const k 2199023255552]; exact Shr.sm_le k _ _ (fun i _ => (hx i).2)⟩
  have HB : Hid (∀ k, 0 ≤ Shr.sm k (Shr.at' l) ∧ Shr.sm k (Shr.at' l) ≤ k * 2199023255552) := hb
  have HX : Hid (∀ i, 0 ≤ Shr.at' l i ∧ Shr.at' l i ≤ 2199023255552) := hx
  clear hb hx
  go_enter Try.func17, Try.ntmps17
  go_wp2
  go_loop [3, 4] (fun n i => ∃ k : Nat, k ≤ l.length ∧ i = .int .i64 k ∧ n = .int .i64 (Shr.sm k (Shr.at' l))) (fun _ i => l.length - (intOf i).toNat)
  case atStart => exact ⟨0, Nat.zero_le _, rfl, rfl⟩
  case round =>
    obtain ⟨k, hk, rfl, rfl⟩ := hrel
    have hb := HB.out k
    by_cases hlt : k < l.length
    · obtain ⟨b, off, rfl, _, _, c1⟩ := hr.get hlt
      have hx := HX.out k
      have HS : Hid (Shr.sm (k + 1) (Shr.at' l) = Shr.sm k (Shr.at' l) + Shr.at' l k) := Shr.sm_succ k _
      generalize Shr.sm k (Shr.at' l) = s at *
      generalize Shr.at' l k = x at *
      go_wp2
      go_round
      case rel => exact ⟨k + 1, by omega, by go_num, by rw [HS.out]⟩
      case measure => simp [intOf]; omega
    · obtain rfl : k = l.length := by omega
      have HS : Hid (l.sum = Shr.sm l.length (Shr.at' l)) := Shr.sum_at l
      generalize Shr.sm l.length (Shr.at' l) = s at *
      go_wp2
      go_ret
      exact ⟨ret_int HS.out.symm, rfl⟩
theorem map_succ (k : Nat) (f : Nat → Int) : (List.range (k + 1)).map f = (List.range k).map f ++ [f k] := by rw [List.range_succ, List.map_append]; rfl
theorem refEven_no (T m : Int) (w : World) (h : ¬ (0 ≤ T ∧ T ≤ 1099511627776 ∧ 1 ≤ m ∧ m ≤ 32)) :
    Calls Try.prog 12 #[.int .i64 T, .int .i64 m] w fun e w' => e = .returned (.tuple #[.slice none 0 0, .int .i64 3]) ∧ w' = w := by
  by_cases h1 : T < 0
  · clear h
    go_enter Try.func12, Try.ntmps12
    go_wp2
    go_ret2
    exact ⟨rfl, rfl⟩
  by_cases h2 : 1099511627776 < T
  · clear h
    go_enter Try.func12, Try.ntmps12
    go_wp2
    go_ret2
    exact ⟨rfl, rfl⟩
  by_cases h3 : m < 1
  · clear h
    go_enter Try.func12, Try.ntmps12
    go_wp2
    go_ret2
    exact ⟨rfl, rfl⟩
  have h4 : 32 < m := by omega
  clear h
  go_enter Try.func12, Try.ntmps12
  go_wp2
  go_ret2
  exact ⟨rfl, rfl⟩
set_option maxHeartbeats 1000000 in
theorem refEven_yes (T : Int) (m : Nat) (w : World) (h0 : 0 ≤ T) (h1 : T ≤ 1099511627776) (hm : 1 ≤ m) (hm2 : m ≤ 32) :
    Calls Try.prog 12 #[.int .i64 T, .int .i64 m] w fun e w' => ∃ v, e = .returned (.tuple #[v, .int .i64 0]) ∧ OwnI w' w.heap.size v ((List.range m).map (Shr.evnAt T m)) ∧ Below w.heap.size w w' := by
  obtain ⟨i0, hi, hz0, hz1, hz2⟩ := info_parts infoInt
  have HI : Hid (Try.prog.info? 3 = some i0 ∧ i0.zero = some (.int .i64 0) ∧ i0.size = 1 ∧ i0.bytes = 8) := ⟨hi, hz0, hz1, hz2⟩
  clear hi hz0 hz1 hz2
  have q0 : 0 ≤ T / (m : Int) := Int.ediv_nonneg h0 (by omega)
  have q1 : T / (m : Int) ≤ T := Int.ediv_le_self _ h0
  have q2 : 0 ≤ T % (m : Int) := Int.emod_nonneg _ (by omega)
  have q3 : T % (m : Int) < m := Int.emod_lt_of_pos _ (by omega)
  have hmz : (1 : Int) ≤ (m : Int) := by omega
  have hmz2 : (m : Int) ≤ 32 := by omega
  go_enter Try.func12, Try.ntmps12
  go_wp2
  go_loopw [6, 7, 8] (fun v i _ wr => ∃ k : Nat, k ≤ m ∧ i = .int .i64 k ∧ OwnI wr w.heap.size v ((List.range k).map (Shr.evnAt T m)) ∧ Below w.heap.size w wr) (fun _ i _ _ => m - (intOf i).toNat)
  case atStart => exact ⟨0, Nat.zero_le _, rfl, OwnI.nil _ _, Below.refl _ _⟩
  case round =>
    obtain ⟨k, hk, rfl, hown, hnx⟩ := hrel
    have hsz : w.heap.size ≤ wr.heap.size := hnx.size
    by_cases hlt : k < m
    · have HS := map_succ k (Shr.evnAt T m)
      have HS : Hid ((List.range (k + 1)).map (Shr.evnAt T m) = (List.range k).map (Shr.evnAt T m) ++ [Shr.evnAt T m k]) := HS
      have HLn : Hid (((List.range k).map (Shr.evnAt T m)).length = k) := by show _ = _; simp
      have hkz : (k : Int) < (m : Int) := by omega
      by_cases hr : (k : Int) < T % (m : Int)
      · have HV : Hid (Shr.evnAt T m k = T / (m : Int) + 1) := by show _ = _; unfold Shr.evnAt; rw [if_pos hr]
        generalize (List.range k).map (Shr.evnAt T m) = xs at *
        go_wp2_with (at_builtin; refine wpList_append_own _ rfl (.tmp 38) (.tmp 40) 22 rfl w.heap.size 3 i0 (.int .i64 0) 1 8 Try.underlying22 HI.out.1 HI.out.2.1 HI.out.2.2.1 HI.out.2.2.2 rfl (by decide) _ _ _ rfl (World.ownsRow.alloc hown _) ⟨wr.heap.size, 0, none⟩ 1 1 [.int .i64 (T / (m : Int) + 1)] rfl rfl (cell1_new _ _ _) (one1 _) (by unfold maxLen; have := HLn.out; omega) (by have := HLn.out; omega) (by first | omega | (simp; omega)) ?_; intro v1 w1 own1 grow1 _)
        have R := OwnI.keep hsz hown hnx own1 grow1
        clear own1 grow1 hown
        go_wp2
        go_roundw
        case rel => exact ⟨k + 1, by omega, by go_num, by rw [HS.out, HV.out]; exact R.1, R.2⟩
        case measure => simp [intOf]; omega
      · have HV : Hid (Shr.evnAt T m k = T / (m : Int)) := by show _ = _; unfold Shr.evnAt; rw [if_neg hr, Int.add_zero]
        generalize (List.range k).map (Shr.evnAt T m) = xs at *
        go_wp2_with (at_builtin; refine wpList_append_own _ rfl (.tmp 38) (.tmp 40) 22 rfl w.heap.size 3 i0 (.int .i64 0) 1 8 Try.underlying22 HI.out.1 HI.out.2.1 HI.out.2.2.1 HI.out.2.2.2 rfl (by decide) _ _ _ rfl (World.ownsRow.alloc hown _) ⟨wr.heap.size, 0, none⟩ 1 1 [.int .i64 (T / (m : Int))] rfl rfl (cell1_new _ _ _) (one1 _) (by unfold maxLen; have := HLn.out; omega) (by have := HLn.out; omega) (by first | omega | (simp; omega)) ?_; intro v1 w1 own1 grow1 _)
        have R := OwnI.keep hsz hown hnx own1 grow1
        clear own1 grow1 hown
        go_wp2
        go_roundw
        case rel => exact ⟨k + 1, by omega, by go_num, by rw [HS.out, HV.out]; exact R.1, R.2⟩
        case measure => simp [intOf]; omega
    · obtain rfl : k = m := by omega
      go_wp2
      go_ret2
      exact ⟨_, rfl, hown, hnx⟩
theorem refEven (T m : Int) (w : World) :
    Calls Try.prog 12 #[.int .i64 T, .int .i64 m] w fun e w' => ∃ v, e = .returned (.tuple #[v, .int .i64 (Shr.ecode T m)]) ∧ OwnI w' w.heap.size v (Shr.evn T m) ∧ Below w.heap.size w w' := by
  by_cases h : 0 ≤ T ∧ T ≤ 1099511627776 ∧ 1 ≤ m ∧ m ≤ 32
  · have hc := (Shr.ecode_zero T m).2 h
    unfold Shr.evn
    rw [if_pos hc, hc]
    obtain ⟨k, rfl⟩ := Int.eq_ofNat_of_zero_le (show 0 ≤ m by omega)
    exact refEven_yes T k w h.1 h.2.1 (by omega) (by omega)
  · have hc := Shr.ecode_three T m h
    unfold Shr.evn
    rw [hc, if_neg (by decide)]
    exact (refEven_no T m w h).mono fun e w' ⟨he, hw⟩ => ⟨_, he, OwnI.nil _ _, hw ▸ Below.refl _ _⟩
end Go.Proofs.Ythbobmanicnplaa
