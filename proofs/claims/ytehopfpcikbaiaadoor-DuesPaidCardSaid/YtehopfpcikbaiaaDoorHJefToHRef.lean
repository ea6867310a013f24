/- The walks of package share: even parts, and parts one by one. The walks of the reference's shares, of its sum, and of whether two lists are one. -/
import Derived.Test.YtehopfpcikbaiaaDoorTRef2ToHWk
namespace Go.Proofs.YtehopfpcikbaiaaDoor
open Go.RowKit Go.BigFrame Go.Sort

/-- what a call of package share hands out: nothing, or a row that it has made -/
def OutI (w w' : World) (v : Value) (xs : List Int) : Prop :=
  (xs = [] ∧ v = .slice none 0 0) ∨ ∃ g, v = .slice (some ⟨g, 0, none⟩) xs.length xs.length ∧ w.heap.size ≤ g ∧ RowI w' g xs.length (Shr.at' xs)
theorem OutI.row {w w' : World} {v : Value} {xs : List Int} (h : OutI w w' v xs) : ∃ a cap, v = .slice a xs.length cap ∧ Row1 w' a xs := by
  rcases h with ⟨rfl, rfl⟩ | ⟨g, rfl, _, hr⟩
  · exact ⟨none, 0, rfl, .inl rfl⟩
  · refine ⟨_, _, rfl, ?_⟩
    have := hr.row1
    rw [Shr.map_at] at this
    exact this
theorem OutI.mk {w w' : World} {n g : Nat} {F : Nat → Int} (hg : w.heap.size ≤ g) (hr : RowI w' g n F) : OutI w w' (.slice (some ⟨g, 0, none⟩) n n) ((List.range n).map F) := by
  refine .inr ⟨g, by simp, hg, ?_⟩
  have e : ((List.range n).map F).length = n := by simp
  rw [e]
  exact hr.congr (fun i hi => (Shr.at_map n F i hi).symm)
theorem RowI.made (w : World) (n : Nat) : RowI (w.alloc (.cells (madeCells #[.int .i64 0] n) 3)) w.heap.size n (fun _ => 0) := World.rowIs_made w (.int .i64 0) n 3
theorem make_ints (n : Nat) (h : n ≤ 1000) (w : World) : (Instr.makeSlice 45 (.int .i64 (n : Int)) (.int .i64 (n : Int))).run Tryd.prog w = .ok (.slice (some ⟨w.heap.size, 0, none⟩) n n) (w.alloc (.cells (madeCells #[.int .i64 0] n) 3)) :=
  run_make_row' 45 3 (.int .i64 0) 8 Tryd.underlying45 infoInt rfl .i64 .i64 n (by omega) (by omega) w
theorem below_set {B : Nat} {a w : World} (h : Below B a w) {b : Nat} (hb : B ≤ b) (i : Nat) (v : Value) : Below B a (w.setCell ⟨b, i, none⟩ v) := h.setCell hb v
theorem even_no (T m : Int) (w : World) (h : ¬ (0 ≤ T ∧ T ≤ 1099511627776 ∧ 1 ≤ m ∧ m ≤ 32)) :
    Calls Tryd.prog 15 #[.int .i64 T, .int .i64 m] w fun e w' => e = .returned (.tuple #[.slice none 0 0, .int .i64 3]) ∧ w' = w := by
  by_cases h1 : (decide (0 ≤ T) && decide (T ≤ 1099511627776)) = true
  · have h2 : (decide (1 ≤ m) && decide (m ≤ 32)) = false := by simp at h1 ⊢; omega
    have H1 : Hid ((decide (0 ≤ T) && decide (T ≤ 1099511627776)) = true) := h1
    have H2 : Hid ((decide (1 ≤ m) && decide (m ≤ 32)) = false) := h2
    clear h1 h2
    go_enter Tryd.func15, Tryd.ntmps15
    go_wp2_with fail
    refine (hwithin_at _ _ _ _ _ H1.out).mono ?_; rintro e w' ⟨rfl, rfl⟩
    go_wp2_with fail
    refine (hwithin_at _ _ _ _ _ H2.out).mono ?_; rintro e w' ⟨rfl, rfl⟩
    go_wp2
    go_ret2
    exact ⟨rfl, rfl⟩
  · have H1 : Hid ((decide (0 ≤ T) && decide (T ≤ 1099511627776)) = false) := by show _ = _; simpa using h1
    clear h1
    go_enter Tryd.func15, Tryd.ntmps15
    go_wp2_with fail
    refine (hwithin_at _ _ _ _ _ H1.out).mono ?_; rintro e w' ⟨rfl, rfl⟩
    go_wp2
    go_ret2
    exact ⟨rfl, rfl⟩
set_option maxHeartbeats 1000000 in
theorem even_yes (T : Int) (m : Nat) (w : World) (h0 : 0 ≤ T) (h1 : T ≤ 1099511627776) (hm : 1 ≤ m) (hm2 : m ≤ 32) :
    Calls Tryd.prog 15 #[.int .i64 T, .int .i64 m] w fun e w' => ∃ v, e = .returned (.tuple #[v, .int .i64 0]) ∧ OutI w w' v ((List.range m).map (Shr.evnAt T m)) ∧ Below w.heap.size w w' := by
  have H1 : Hid ((decide (0 ≤ T) && decide (T ≤ 1099511627776)) = true) := by show _ = _; simp; omega
  have H2 : Hid ((decide (1 ≤ (m : Int)) && decide ((m : Int) ≤ 32)) = true) := by show _ = _; simp; omega
  have hmk := make_ints m (by omega)
  have q0 : 0 ≤ T / (m : Int) := Int.ediv_nonneg h0 (by omega)
  have q1 : T / (m : Int) ≤ T := Int.ediv_le_self _ h0
  have q2 : 0 ≤ T % (m : Int) := Int.emod_nonneg _ (by omega)
  have q3 : T % (m : Int) < m := Int.emod_lt_of_pos _ (by omega)
  go_enter Tryd.func15, Tryd.ntmps15
  go_wp2_with fail
  refine (hwithin_at _ _ _ _ _ H1.out).mono ?_; rintro e w' ⟨rfl, rfl⟩
  go_wp2_with fail
  refine (hwithin_at _ _ _ _ _ H2.out).mono ?_; rintro e w' ⟨rfl, rfl⟩
  go_wp2
  go_loopw [7, 20] (fun _ iv wr => ∃ k : Nat, k ≤ m ∧ iv = .int .i64 k ∧ RowI wr w'.heap.size m (fun i => if i < k then Shr.evnAt T m i else 0) ∧ Below w'.heap.size w' wr) (fun _ iv _ => m - (intOf iv).toNat)
  case atStart => exact ⟨0, Nat.zero_le _, rfl, (RowI.made w' m).congr (fun i hi => by simp), below_box _ _⟩
  case round =>
    obtain ⟨k, hk, rfl, R, Bw⟩ := hrel
    by_cases hlt : k < m
    · have c1 := R.cell hlt
      have f1 := R.frozen k
      have hkz : (k : Int) < (m : Int) := by omega
      have HR : Hid (RowI wr w'.heap.size m (fun i => if i < k then Shr.evnAt T m i else 0)) := R
      have HBw : Hid (Below w'.heap.size w' wr) := Bw
      have HE : Hid (∀ x, x = Shr.evnAt T m k → ∀ i, i < m → (if i = k then x else (if i < k then Shr.evnAt T m i else 0)) = (if i < k + 1 then Shr.evnAt T m i else 0)) := by
        intro x hx i _
        by_cases c : i = k
        · subst c; rw [if_pos rfl, if_pos (by omega), hx]
        · rw [if_neg c]
          by_cases c2 : i < k
          · rw [if_pos c2, if_pos (by omega)]
          · rw [if_neg c2, if_neg (by omega)]
      clear R Bw
      rw [if_neg (Nat.lt_irrefl k)] at c1
      by_cases hr : (k : Int) < T % (m : Int)
      · have HV : Hid (T / (m : Int) + 1 = Shr.evnAt T m k) := by show _ = _; unfold Shr.evnAt; rw [if_pos hr]
        go_wp2
        go_roundw
        case rel =>
          refine ⟨k + 1, by omega, by go_num, ?_, below_set (below_set HBw.out (Nat.le_refl _) _ _) (Nat.le_refl _) _ _⟩
          refine (((HR.out.set k _).set k _).congr (fun i hi => ?_)).congr (HE.out _ HV.out)
          by_cases c : i = k
          · rw [if_pos c, if_pos c]
          · rw [if_neg c, if_neg c, if_neg c]
        case measure => simp [intOf]; omega
      · have HV : Hid (T / (m : Int) = Shr.evnAt T m k) := by show _ = _; unfold Shr.evnAt; rw [if_neg hr, Int.add_zero]
        go_wp2
        go_roundw
        case rel => exact ⟨k + 1, by omega, by go_num, (HR.out.set k _).congr (HE.out _ HV.out), below_set HBw.out (Nat.le_refl _) _ _⟩
        case measure => simp [intOf]; omega
    · obtain rfl : k = m := by omega
      go_wp2
      go_ret2
      exact ⟨_, rfl, OutI.mk (Nat.le_refl _) (R.congr (fun i hi => if_pos hi)), Bw⟩
theorem pEven (T m : Int) (w : World) :
    Calls Tryd.prog 15 #[.int .i64 T, .int .i64 m] w fun e w' => ∃ v, e = .returned (.tuple #[v, .int .i64 (Shr.ecode T m)]) ∧ OutI w w' v (Shr.evn T m) ∧ Below w.heap.size w w' := by
  by_cases h : 0 ≤ T ∧ T ≤ 1099511627776 ∧ 1 ≤ m ∧ m ≤ 32
  · have hc := (Shr.ecode_zero T m).2 h
    unfold Shr.evn
    rw [if_pos hc, hc]
    obtain ⟨k, rfl⟩ := Int.eq_ofNat_of_zero_le (show 0 ≤ m by omega)
    exact even_yes T k w h.1 h.2.1 (by omega) (by omega)
  · have hc := Shr.ecode_three T m h
    unfold Shr.evn
    rw [hc, if_neg (by decide)]
    exact (even_no T m w h).mono fun e w' ⟨he, hw⟩ => ⟨_, he, .inl ⟨rfl, rfl⟩, hw ▸ Below.refl _ _⟩
end Go.Proofs.YtehopfpcikbaiaaDoor
namespace Go.Proofs.YtehopfpcikbaiaaDoor
open Go.RowKit Go.BigFrame Go.Sort

theorem map_succ (k : Nat) (f : Nat → Int) : (List.range (k + 1)).map f = (List.range k).map f ++ [f k] := by rw [List.range_succ, List.map_append]; rfl
theorem refEven_no (T m : Int) (w : World) (h : ¬ (0 ≤ T ∧ T ≤ 1099511627776 ∧ 1 ≤ m ∧ m ≤ 32)) :
    Calls Tryd.prog 17 #[.int .i64 T, .int .i64 m] w fun e w' => e = .returned (.tuple #[.slice none 0 0, .int .i64 3]) ∧ w' = w := by
  by_cases h1 : T < 0
  · clear h
    go_enter Tryd.func17, Tryd.ntmps17
    go_wp2
    go_ret2
    exact ⟨rfl, rfl⟩
  by_cases h2 : 1099511627776 < T
  · clear h
    go_enter Tryd.func17, Tryd.ntmps17
    go_wp2
    go_ret2
    exact ⟨rfl, rfl⟩
  by_cases h3 : m < 1
  · clear h
    go_enter Tryd.func17, Tryd.ntmps17
    go_wp2
    go_ret2
    exact ⟨rfl, rfl⟩
  have h4 : 32 < m := by omega
  clear h
  go_enter Tryd.func17, Tryd.ntmps17
  go_wp2
  go_ret2
  exact ⟨rfl, rfl⟩
set_option maxHeartbeats 1000000 in
theorem refEven_yes (T : Int) (m : Nat) (w : World) (h0 : 0 ≤ T) (h1 : T ≤ 1099511627776) (hm : 1 ≤ m) (hm2 : m ≤ 32) :
    Calls Tryd.prog 17 #[.int .i64 T, .int .i64 m] w fun e w' => ∃ v, e = .returned (.tuple #[v, .int .i64 0]) ∧ OwnI w' w.heap.size v ((List.range m).map (Shr.evnAt T m)) ∧ Below w.heap.size w w' := by
  obtain ⟨i0, hi, hz0, hz1, hz2⟩ := info_parts infoInt
  have HI : Hid (Tryd.prog.info? 3 = some i0 ∧ i0.zero = some (.int .i64 0) ∧ i0.size = 1 ∧ i0.bytes = 8) := ⟨hi, hz0, hz1, hz2⟩
  clear hi hz0 hz1 hz2
  have q0 : 0 ≤ T / (m : Int) := Int.ediv_nonneg h0 (by omega)
  have q1 : T / (m : Int) ≤ T := Int.ediv_le_self _ h0
  have q2 : 0 ≤ T % (m : Int) := Int.emod_nonneg _ (by omega)
  have q3 : T % (m : Int) < m := Int.emod_lt_of_pos _ (by omega)
  have hmz : (1 : Int) ≤ (m : Int) := by omega
  have hmz2 : (m : Int) ≤ 32 := by omega
  go_enter Tryd.func17, Tryd.ntmps17
  go_wp2
  go_loopw [6, 7, 8] (fun v i _ wr => ∃ k : Nat, k ≤ m ∧ i = .int .i64 k ∧ OwnI wr w.heap.size v ((List.range k).map (Shr.evnAt T m)) ∧ Below w.heap.size w wr) (fun _ i _ _ => m - (intOf i).toNat)
  case atStart => exact ⟨0, Nat.zero_le _, rfl, OwnI.nil _ _, Below.refl _ _⟩
  case round =>
    obtain ⟨k, hk, rfl, hown, hnx⟩ := hrel
    have hsz : w.heap.size ≤ wr.heap.size := hnx.size
    by_cases hlt : k < m
    · have HS := map_succ k (Shr.evnAt T m)
      have HS : Hid ((List.range (k + 1)).map (Shr.evnAt T m) = (List.range k).map (Shr.evnAt T m) ++ [Shr.evnAt T m k]) := HS
      have HLn : Hid (((List.range k).map (Shr.evnAt T m)).length = k) := by show _ = _; simp
      have hkz : (k : Int) < (m : Int) := by omega
      by_cases hr : (k : Int) < T % (m : Int)
      · have HV : Hid (Shr.evnAt T m k = T / (m : Int) + 1) := by show _ = _; unfold Shr.evnAt; rw [if_pos hr]
        generalize (List.range k).map (Shr.evnAt T m) = xs at *
        go_wp2_with (at_builtin; refine wpList_append_own _ rfl (.tmp 38) (.tmp 40) 45 rfl w.heap.size 3 i0 (.int .i64 0) 1 8 Tryd.underlying45 HI.out.1 HI.out.2.1 HI.out.2.2.1 HI.out.2.2.2 rfl (by decide) _ _ _ rfl (World.ownsRow.alloc hown _) ⟨wr.heap.size, 0, none⟩ 1 1 [.int .i64 (T / (m : Int) + 1)] rfl rfl (cell1_new _ _ _) (one1 _) (by unfold maxLen; have := HLn.out; omega) (by have := HLn.out; omega) (by first | omega | (simp; omega)) ?_; intro v1 w1 own1 grow1 _)
        have R := OwnI.keep hsz hown hnx own1 grow1
        clear own1 grow1 hown
        go_wp2
        go_roundw
        case rel => exact ⟨k + 1, by omega, by go_num, by rw [HS.out, HV.out]; exact R.1, R.2⟩
        case measure => simp [intOf]; omega
      · have HV : Hid (Shr.evnAt T m k = T / (m : Int)) := by show _ = _; unfold Shr.evnAt; rw [if_neg hr, Int.add_zero]
        generalize (List.range k).map (Shr.evnAt T m) = xs at *
        go_wp2_with (at_builtin; refine wpList_append_own _ rfl (.tmp 38) (.tmp 40) 45 rfl w.heap.size 3 i0 (.int .i64 0) 1 8 Tryd.underlying45 HI.out.1 HI.out.2.1 HI.out.2.2.1 HI.out.2.2.2 rfl (by decide) _ _ _ rfl (World.ownsRow.alloc hown _) ⟨wr.heap.size, 0, none⟩ 1 1 [.int .i64 (T / (m : Int))] rfl rfl (cell1_new _ _ _) (one1 _) (by unfold maxLen; have := HLn.out; omega) (by have := HLn.out; omega) (by first | omega | (simp; omega)) ?_; intro v1 w1 own1 grow1 _)
        have R := OwnI.keep hsz hown hnx own1 grow1
        clear own1 grow1 hown
        go_wp2
        go_roundw
        case rel => exact ⟨k + 1, by omega, by go_num, by rw [HS.out, HV.out]; exact R.1, R.2⟩
        case measure => simp [intOf]; omega
    · obtain rfl : k = m := by omega
      go_wp2
      go_ret2
      exact ⟨_, rfl, hown, hnx⟩
theorem refEven (T m : Int) (w : World) :
    Calls Tryd.prog 17 #[.int .i64 T, .int .i64 m] w fun e w' => ∃ v, e = .returned (.tuple #[v, .int .i64 (Shr.ecode T m)]) ∧ OwnI w' w.heap.size v (Shr.evn T m) ∧ Below w.heap.size w w' := by
  by_cases h : 0 ≤ T ∧ T ≤ 1099511627776 ∧ 1 ≤ m ∧ m ≤ 32
  · have hc := (Shr.ecode_zero T m).2 h
    unfold Shr.evn
    rw [if_pos hc, hc]
    obtain ⟨k, rfl⟩ := Int.eq_ofNat_of_zero_le (show 0 ≤ m by omega)
    exact refEven_yes T k w h.1 h.2.1 (by omega) (by omega)
  · have hc := Shr.ecode_three T m h
    unfold Shr.evn
    rw [hc, if_neg (by decide)]
    exact (refEven_no T m w h).mono fun e w' ⟨he, hw⟩ => ⟨_, he, OwnI.nil _ _, hw ▸ Below.refl _ _⟩
end Go.Proofs.YtehopfpcikbaiaaDoor
