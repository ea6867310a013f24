/- The walks of package share: even parts, and parts one by one. -/
import Derived.Test.YthbobmanicnplabHWk
namespace Go.Proofs.Ythbobmanicnplab
open Go.RowKit Go.BigFrame Go.Sort

/-- what a call of package share hands out: nothing, or a row that it has made -/
def OutI (w w' : World) (v : Value) (xs : List Int) : Prop :=
  (xs = [] ∧ v = .slice none 0 0) ∨ ∃ g, v = .slice (some ⟨g, 0, none⟩) xs.length xs.length ∧ w.heap.size ≤ g ∧ RowI w' g xs.length (Shr.at' xs)
theorem OutI.row {w w' : World} {v : Value} {xs : List Int} (h : OutI w w' v xs) : ∃ a cap, v = .slice a xs.length cap ∧ Row1 w' a xs := by
  rcases h with ⟨rfl, rfl⟩ | ⟨g, rfl, _, hr⟩
  · exact ⟨none, 0, rfl, .inl rfl⟩
  · refine ⟨_, _, rfl, ?_⟩
    have := hr.row1
    rw [Shr.map_at] at this
    exact this
theorem OutI.mk {w w' : World} {n g : Nat} {F : Nat → Int} (hg : w.heap.size ≤ g) (hr : RowI w' g n F) : OutI w w' (.slice (some ⟨g, 0, none⟩) n n) ((List.range n).map F) := by
  refine .inr ⟨g, by simp, hg, ?_⟩
  have e : ((List.range n).map F).length = n := by simp
  rw [e]
  exact hr.congr (fun i hi => (Shr.at_map n F i hi).symm)
theorem RowI.made (w : World) (n : Nat) : RowI (w.alloc (.cells (madeCells #[.int .i64 0] n) 3)) w.heap.size n (fun _ => 0) := World.rowIs_made w (.int .i64 0) n 3
theorem make_ints (n : Nat) (h : n ≤ 1000) (w : World) : (Instr.makeSlice 22 (.int .i64 (n : Int)) (.int .i64 (n : Int))).run Try.prog w = .ok (.slice (some ⟨w.heap.size, 0, none⟩) n n) (w.alloc (.cells (madeCells #[.int .i64 0] n) 3)) :=
  run_make_row' 22 3 (.int .i64 0) 8 Try.underlying22 infoInt rfl .i64 .i64 n (by omega) (by omega) w
theorem below_set {B : Nat} {a w : World} (h : Below B a w) {b : Nat} (hb : B ≤ b) (i : Nat) (v : Value) : Below B a (w.setCell ⟨b, i, none⟩ v) := h.setCell hb v
theorem even_no (T m : Int) (w : World) (h : ¬ (0 ≤ T ∧ T ≤ 1099511627776 ∧ 1 ≤ m ∧ m ≤ 32)) :
    Calls Try.prog 15 #[.int .i64 T, .int .i64 m] w fun e w' => e = .returned (.tuple #[.slice none 0 0, .int .i64 3]) ∧ w' = w := by
  by_cases h1 : (decide (0 ≤ T) && decide (T ≤ 1099511627776)) = true
  · have h2 : (decide (1 ≤ m) && decide (m ≤ 32)) = false := by simp at h1 ⊢; omega
    have H1 : Hid ((decide (0 ≤ T) && decide (T ≤ 1099511627776)) = true) := h1
    have H2 : Hid ((decide (1 ≤ m) && decide (m ≤ 32)) = false) := h2
    clear h1 h2
    go_enter Try.func15, Try.ntmps15
    go_wp2_with fail
    refine (hwithin_at _ _ _ _ _ H1.out).mono ?_; rintro e w' ⟨rfl, rfl⟩
    go_wp2_with fail
    refine (hwithin_at _ _ _ _ _ H2.out).mono ?_; rintro e w' ⟨rfl, rfl⟩
    go_wp2
    go_ret2
    exact ⟨rfl, rfl⟩
  · have H1 : Hid ((decide (0 ≤ T) && decide (T ≤ 1099511627776)) = false) := by show _ = _; simpa using h1
    clear h1
    go_enter Try.func15, Try.ntmps15
    go_wp2_with fail
    refine (hwithin_at _ _ _ _ _ H1.out).mono ?_; rintro e w' ⟨rfl, rfl⟩
    go_wp2
    go_ret2
    exact ⟨rfl, rfl⟩
set_option maxHeartbeats 1000000 in
theorem even_yes (T : Int) (m : Nat) (w : World) (h0 : 0 ≤ T) (h1 : T ≤ 1099511627776) (hm : 1 ≤ m) (hm2 : m ≤ 32) :
    Calls Try.prog 15 #[.int .i64 T, .int .i64 m] w fun e w' => ∃ v, e = .returned (.tuple #[v, .int .i64 0]) ∧ OutI w w' v ((List.range m).map (Shr.evnAt T m)) ∧ Below w.heap.size w w' := by
  have H1 : Hid ((decide (0 ≤ T) && decide (T ≤ 1099511627776)) = true) := by show _ = _; simp; omega
  have H2 : Hid ((decide (1 ≤ (m : Int)) && decide ((m : Int) ≤ 32)) = true) := by show _ = _; simp; omega
  have hmk := make_ints m (by omega)
  have q0 : 0 ≤ T / (m : Int) := Int.ediv_nonneg h0 (by omega)
  have q1 : T / (m : Int) ≤ T := Int.ediv_le_self _ h0
  have q2 : 0 ≤ T % (m : Int) := Int.emod_nonneg _ (by omega)
  have q3 : T % (m : Int) < m := Int.emod_lt_of_pos _ (by omega)
  go_enter Try.func15, Try.ntmps15
  go_wp2_with fail
  refine (hwithin_at _ _ _ _ _ H1.out).mono ?_; rintro e w' ⟨rfl, rfl⟩
  go_wp2_with fail
  refine (hwithin_at _ _ _ _ _ H2.out).mono ?_; rintro e w' ⟨rfl, rfl⟩
  go_wp2
  go_loopw [7, 20] (fun _ iv wr => ∃ k : Nat, k ≤ m ∧ iv = .int .i64 k ∧ RowI wr w'.heap.size m (fun i => if i < k then Shr.evnAt T m i else 0) ∧ Below w'.heap.size w' wr) (fun _ iv _ => m - (intOf iv).toNat)
  case atStart => exact ⟨0, Nat.zero_le _, rfl, (RowI.made w' m).congr (fun i hi => by simp), below_box _ _⟩
  case round =>
    obtain ⟨k, hk, rfl, R, Bw⟩ := hrel
    by_cases hlt : k < m
    · have c1 := R.cell hlt
      have f1 := R.frozen k
      have hkz : (k : Int) < (m : Int) := by omega
      have HR : Hid (RowI wr w'.heap.size m (fun i => if i < k then Shr.evnAt T m i else 0)) := R
      have HBw : Hid (Below w'.heap.size w' wr) := Bw
      have HE : Hid (∀ x, x = Shr.evnAt T m k → ∀ i, i < m → (if i = k then x else (if i < k then Shr.evnAt T m i else 0)) = (if i < k + 1 then Shr.evnAt T m i else 0)) := by
        intro x hx i _
        by_cases c : i = k
        · subst c; rw [if_pos rfl, if_pos (by omega), hx]
        · rw [if_neg c]
          by_cases c2 : i < k
          · rw [if_pos c2, if_pos (by omega)]
          · rw [if_neg c2, if_neg (by omega)]
      clear R Bw
      rw [if_neg (Nat.lt_irrefl k)] at c1
      by_cases hr : (k : Int) < T % (m : Int)
      · have HV : Hid (T / (m : Int) + 1 = Shr.evnAt T m k) := by show _ = _; unfold Shr.evnAt; rw [if_pos hr]
        go_wp2
        go_roundw
        case rel =>
          refine ⟨k + 1, by omega, by go_num, ?_, below_set (below_set HBw.out (Nat.le_refl _) _ _) (Nat.le_refl _) _ _⟩
          refine (((HR.out.set k _).set k _).congr (fun i hi => ?_)).congr (HE.out _ HV.out)
          by_cases c : i = k
          · rw [if_pos c, if_pos c]
          · rw [if_neg c, if_neg c, if_neg c]
        case measure => simp [intOf]; omega
      · have HV : Hid (T / (m : Int) = Shr.evnAt T m k) := by show _ = _; unfold Shr.evnAt; rw [if_neg hr, Int.add_zero]
        go_wp2
        go_roundw
        case rel => exact ⟨k + 1, by omega, by go_num, (HR.out.set k _).congr (HE.out _ HV.out), below_set HBw.out (Nat.le_refl _) _ _⟩
        case measure => simp [intOf]; omega
    · obtain rfl : k = m := by omega
      go_wp2
      go_ret2
      exact ⟨_, rfl, OutI.mk (Nat.le_refl _) (R.congr (fun i hi => if_pos hi)), Bw⟩
theorem pEven (T m : Int) (w : World) :
    Calls Try.prog 15 #[.int .i64 T, .int .i64 m] w fun e w' => ∃ v, e = .returned (.tuple #[v, .int .i64 (Shr.ecode T m)]) ∧ OutI w w' v (Shr.evn T m) ∧ Below w.heap.size w w' := by
  by_cases h : 0 ≤ T ∧ T ≤ 1099511627776 ∧ 1 ≤ m ∧ m ≤ 32
  · have hc := (Shr.ecode_zero T m).2 h
    unfold Shr.evn
    rw [if_pos hc, hc]
    obtain ⟨k, rfl⟩ := Int.eq_ofNat_of_zero_le (show 0 ≤ m by omega)
    exact even_yes T k w h.1 h.2.1 (by omega) (by omega)
  · have hc := Shr.ecode_three T m h
    unfold Shr.evn
    rw [hc, if_neg (by decide)]
    exact (even_no T m w h).mono fun e w' ⟨he, hw⟩ => ⟨_, he, .inl ⟨rfl, rfl⟩, hw ▸ Below.refl _ _⟩
set_option maxHeartbeats 1000000 in
theorem nextOf_any (l : List Int) (a : Option Addr) (cap cap2 g : Nat) (O : Nat → Int) (w : World) (hl : l.length ≤ 32) (hx : ∀ i, 0 ≤ Shr.at' l i ∧ Shr.at' l i ≤ 100000) (hO : ∀ i, 0 ≤ O i ∧ O i ≤ 100000) (hr : Row1 w a l) (ho : RowI w g l.length O) :
    Calls Try.prog 14 #[.slice a l.length cap, .slice (some ⟨g, 0, none⟩) l.length cap2] w fun e w' => e = .returned (.int .i64 (Shr.jn (Shr.at' l) O l.length : Nat)) ∧ Below w.heap.size w w' := by
  have HX : Hid (∀ i, 0 ≤ Shr.at' l i ∧ Shr.at' l i ≤ 100000) := hx
  have HO : Hid (∀ i, 0 ≤ O i ∧ O i ≤ 100000) := hO
  clear hx hO
  go_enter Try.func14, Try.ntmps14
  go_wp2
  go_loopw [5, 6, 7, 10] (fun nv _ _ iv wr => ∃ k : Nat, k ≤ l.length ∧ iv = .int .i64 k ∧ nv = .int .i64 (Shr.jn (Shr.at' l) O k : Nat) ∧ Below w.heap.size w wr) (fun _ _ _ iv _ => l.length - (intOf iv).toNat)
  case atStart => exact ⟨0, Nat.zero_le _, rfl, rfl, Below.refl _ _⟩
  case round =>
    obtain ⟨k, hk, rfl, rfl, Bw⟩ := hrel
    by_cases hlt : k < l.length
    · have r1 := hr.below Bw
      have o1 := ho.below Bw
      have hnx : Shr.jn (Shr.at' l) O k < l.length := by have := Shr.jn_lt (Shr.at' l) O k; omega
      have HY : Hid (Shr.at' l (Shr.jn (Shr.at' l) O k) * (O k + 1) < Shr.at' l k * (O (Shr.jn (Shr.at' l) O k) + 1) → Shr.jn (Shr.at' l) O (k + 1) = k) := Shr.jn_yes _ _ k
      have HN : Hid (¬ Shr.at' l (Shr.jn (Shr.at' l) O k) * (O k + 1) < Shr.at' l k * (O (Shr.jn (Shr.at' l) O k) + 1) → Shr.jn (Shr.at' l) O (k + 1) = Shr.jn (Shr.at' l) O k) := Shr.jn_not _ _ k
      have HBw : Hid (Below w.heap.size w wr) := Bw
      generalize Shr.jn (Shr.at' l) O k = nx at *
      obtain ⟨b, off, ea, hb1, -, c1⟩ := r1.get hlt
      obtain ⟨b', off', ea', -, -, c2⟩ := r1.get hnx
      rw [ea] at ea'
      obtain ⟨rfl, rfl⟩ : b' = b ∧ off' = off := by simpa using ea'.symm
      clear ea'
      subst ea
      have d1 := o1.cell hlt
      have d2 := o1.cell hnx
      have x1 := HX.out k
      have x2 := HX.out nx
      have y1 := HO.out k
      have y2 := HO.out nx
      clear r1 o1 Bw
      generalize Shr.at' l k = wi at *
      generalize Shr.at' l nx = wn at *
      generalize O k = oi at *
      generalize O nx = on at *
      have p1 := Shr.mul_bd wi (on + 1) 100000 100001 x1.1 x1.2 (by omega) (by omega)
      have p2 := Shr.mul_bd wn (oi + 1) 100000 100001 x2.1 x2.2 (by omega) (by omega)
      have kz : (k : Int) < (l.length : Int) := by omega
      have nz : (nx : Int) < (l.length : Int) := by omega
      go_wp2_with fail
      go_big_region
      have Bz := below_on HBw.out (Nat.le_refl _) (below_drewN (Below.refl _ wr) 1)
      by_cases hc : wn * (oi + 1) < wi * (on + 1)
      · have e1 := HY.out hc
        go_wp2
        go_roundw
        case rel => exact ⟨k + 1, by omega, by go_num, by rw [e1], Bz⟩
        case measure => simp [intOf]; omega
      · have e1 := HN.out (by first | exact hc | exact Int.not_lt.1 hc)
        go_wp2
        go_roundw
        case rel => exact ⟨k + 1, by omega, by go_num, by rw [e1], Bz⟩
        case measure => simp [intOf]; omega
    · obtain rfl : k = l.length := by omega
      go_wp2
      go_ret
      exact ⟨rfl, Bw⟩
set_option maxHeartbeats 1000000 in
theorem jeff_yes (T : Nat) (l : List Int) (a : Option Addr) (cap : Nat) (w : World) (ok : Shr.Ok T l) (hc : Shr.code T l = 0) (hr : Row1 w a l) :
    Calls Try.prog 5 #[.int .i64 T, .slice a l.length cap] w fun e w' => ∃ v, e = .returned (.tuple #[v, .int .i64 0]) ∧ OutI w w' v ((List.range l.length).map (Shr.jef (Shr.at' l) l.length T)) ∧ Below w.heap.size w w' := by
  have hl := ok.len
  have hn0 := ok.n0
  have hT : T ≤ 100000 := by have := ok.t1; omega
  have HX : Hid (∀ i, 0 ≤ Shr.at' l i ∧ Shr.at' l i ≤ 100000) := fun i => ok.get i
  have HC : Hid (Shr.code T l = 0) := hc
  have hmk := make_ints l.length (by omega)
  clear ok hc
  go_enter Try.func5, Try.ntmps5
  go_wp2_with (go_at_call 8; refine (hcheck_any T l _ _ _ (by unfold maxLen; omega) hr).mono ?_; rintro e w' ⟨rfl, rfl⟩; rw [HC.out])
  go_loopw [18] (fun iv wr => ∃ k : Nat, k ≤ T ∧ iv = .int .i64 k ∧ RowI wr w'.heap.size l.length (Shr.jef (Shr.at' l) l.length k) ∧ Below w'.heap.size w' wr) (fun iv _ => T - (intOf iv).toNat)
  case atStart => exact ⟨0, Nat.zero_le _, rfl, (RowI.made w' l.length).congr (fun i hi => rfl), below_box _ _⟩
  case round =>
    obtain ⟨k, hk, rfl, R, Bw⟩ := hrel
    by_cases hlt : k < T
    · have hkz : (k : Int) < (T : Int) := by omega
      have r1 := hr.below Bw
      have hjb := Shr.jef_bd (Shr.at' l) l.length k
      have HJ : Hid (∀ i, 0 ≤ Shr.jef (Shr.at' l) l.length k i ∧ Shr.jef (Shr.at' l) l.length k i ≤ 100000) := fun i => by have := hjb i; omega
      have HS : Hid (Shr.jef (Shr.at' l) l.length (k + 1) = Shr.inc (Shr.jef (Shr.at' l) l.length k) (Shr.jn (Shr.at' l) (Shr.jef (Shr.at' l) l.length k) l.length)) := Shr.jef_succ _ _ _
      have hnx := Shr.jn_bd (Shr.at' l) (Shr.jef (Shr.at' l) l.length k) l.length hn0
      have HR : Hid (RowI wr w'.heap.size l.length (Shr.jef (Shr.at' l) l.length k)) := R
      have HBw : Hid (Below w'.heap.size w' wr) := Bw
      clear hjb R Bw
      go_wp2_with fail
      refine (nextOf_any l _ _ _ _ _ _ hl HX.out HJ.out r1 HR.out).mono ?_
      rintro e w2 ⟨rfl, b2⟩
      have R2 := HR.out.below b2
      have B2 := below_on HBw.out (Nat.le_refl _) b2
      have hj1 := HJ.out (Shr.jn (Shr.at' l) (Shr.jef (Shr.at' l) l.length k) l.length)
      have c1 := R2.cell hnx
      have f1 := R2.frozen (Shr.jn (Shr.at' l) (Shr.jef (Shr.at' l) l.length k) l.length)
      have HF : Hid (∀ (x : Int), x = Shr.jef (Shr.at' l) l.length k (Shr.jn (Shr.at' l) (Shr.jef (Shr.at' l) l.length k) l.length) → ∀ i, i < l.length → (if i = Shr.jn (Shr.at' l) (Shr.jef (Shr.at' l) l.length k) l.length then x + 1 else Shr.jef (Shr.at' l) l.length k i) = Shr.jef (Shr.at' l) l.length (k + 1) i) := by
        intro x hx i _
        rw [HS.out]
        unfold Shr.inc
        split
        · rename_i e; rw [e, hx]
        · rfl
      have HR2 : Hid (RowI w2 w'.heap.size l.length (Shr.jef (Shr.at' l) l.length k)) := R2
      have HB2 : Hid (Below w'.heap.size w' w2) := B2
      clear R2 B2 b2 HS HR HBw r1
      generalize Shr.jn (Shr.at' l) (Shr.jef (Shr.at' l) l.length k) l.length = nx at *
      generalize hv : Shr.jef (Shr.at' l) l.length k nx = vx at *
      have HV : Hid (vx = vx) := rfl
      have nz : (nx : Int) < (l.length : Int) := by omega
      go_wp2
      go_roundw
      case rel => exact ⟨k + 1, by omega, by go_num, (HR2.out.set nx _).congr (HF.out vx rfl), below_set HB2.out (Nat.le_refl _) _ _⟩
      case measure => simp [intOf]; omega
    · obtain rfl : k = T := by omega
      go_wp2
      go_ret2
      exact ⟨_, rfl, OutI.mk (Nat.le_refl _) R, Bw⟩
theorem jeff_no (T : Int) (l : List Int) (a : Option Addr) (cap : Nat) (c : Int) (w : World) (hl : l.length ≤ maxLen) (hc : Shr.code T l = c) (hn : c ≠ 0) (hr : Row1 w a l) :
    Calls Try.prog 5 #[.int .i64 T, .slice a l.length cap] w fun e w' => e = .returned (.tuple #[.slice none 0 0, .int .i64 c]) ∧ w' = w := by
  have hb := Shr.code_bd T l
  rw [hc] at hb
  have HC : Hid (Shr.code T l = c) := hc
  have hc0 : 0 < c := by omega
  clear hc hn
  go_enter Try.func5, Try.ntmps5
  go_wp2_with (go_at_call 8; refine (hcheck_any T l _ _ _ hl hr).mono ?_; rintro e w' ⟨rfl, rfl⟩; rw [HC.out])
  all_goals first | (exfalso; rename_i hq; simp at hq; omega) | skip
  go_ret2
  exact ⟨rfl, rfl⟩
theorem pJefferson (T : Int) (l : List Int) (a : Option Addr) (cap : Nat) (w : World) (hl : l.length ≤ maxLen) (hr : Row1 w a l) :
    Calls Try.prog 5 #[.int .i64 T, .slice a l.length cap] w fun e w' => ∃ v, e = .returned (.tuple #[v, .int .i64 (Shr.code T l)]) ∧ OutI w w' v (Shr.jeff T l) ∧ Below w.heap.size w w' := by
  by_cases h : Shr.code T l = 0
  · have ok := Shr.ok_of T l h
    obtain ⟨k, rfl⟩ := Int.eq_ofNat_of_zero_le ok.t0
    unfold Shr.jeff
    rw [if_pos h, h]
    exact jeff_yes k l a cap w ok h hr
  · unfold Shr.jeff
    rw [if_neg h]
    exact (jeff_no T l a cap _ w hl rfl h hr).mono fun e w' ⟨he, hw⟩ => ⟨_, he, .inl ⟨rfl, rfl⟩, hw ▸ Below.refl _ _⟩
end Go.Proofs.Ythbobmanicnplab
