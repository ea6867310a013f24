/- The document's words on passes: a pass in memory; are two the same; the look over a pass. -/
import Derived.Test.YtandlmnbnjkklaaDoorPz
import Derived.BigQuiet
import Derived.Lib.QuietBelow
import Derived.Deep.QuietTactic
namespace Go.Proofs.YtandlmnbnjkklaaDoor
open Go.RowKit Go.BigFrame

/-- a pass as a value -/
abbrev pv (p : Pz.Pq) (a : Option Addr) (n c : Nat) : Value := .agg #[.int .i64 p.id, .int .i64 p.born, .int .i64 p.a, .int .i64 p.b, .int .i64 p.ser, .slice a n c]
/-- a pass's box -/
structure Has6 (w : World) (b : Nat) (p : Pz.Pq) (a : Option Addr) (n c : Nat) : Prop where
  lt : b < w.heap.size
  c0 : w.cell? ⟨b, 0, none⟩ = some (.int .i64 p.id)
  c1 : w.cell? ⟨b, 1, none⟩ = some (.int .i64 p.born)
  c2 : w.cell? ⟨b, 2, none⟩ = some (.int .i64 p.a)
  c3 : w.cell? ⟨b, 3, none⟩ = some (.int .i64 p.b)
  c4 : w.cell? ⟨b, 4, none⟩ = some (.int .i64 p.ser)
  c5 : w.cell? ⟨b, 5, none⟩ = some (.slice a n c)
theorem Has6.new (w : World) (p : Pz.Pq) (a : Option Addr) (n c : Nat) (t : TypeId) : Has6 (w.alloc (.cells #[.int .i64 p.id, .int .i64 p.born, .int .i64 p.a, .int .i64 p.b, .int .i64 p.ser, .slice a n c] t)) w.heap.size p a n c :=
  ⟨by simp, by simp, by simp, by simp, by simp, by simp, by simp⟩
theorem Has6.below {w w' : World} {b : Nat} {p : Pz.Pq} {a : Option Addr} {n c : Nat} (h : Has6 w b p a n c) (hb : Below w.heap.size w w') : Has6 w' b p a n c := by
  obtain ⟨k, _⟩ := bcell hb
  exact ⟨Nat.lt_of_lt_of_le h.lt hb.size, (k _ _ h.lt).trans h.c0, (k _ _ h.lt).trans h.c1, (k _ _ h.lt).trans h.c2, (k _ _ h.lt).trans h.c3, (k _ _ h.lt).trans h.c4, (k _ _ h.lt).trans h.c5⟩
theorem zsc (l : List Spn.Sp) (c : Int) (a : Option Addr) (n cap : Nat) (w : World) (hn : l.length = n) (hl : n ≤ maxLen) (h : Spn.chk l = c) (hr : Row2 w a l) :
    Calls Tryd.prog 34 #[.slice a n cap] w fun e w' => e = .returned (.int .i64 c) ∧ Below w.heap.size w w' := by
  subst h hn
  exact (spansCheck_any l a cap w hl hr).mono fun _ _ h => ⟨h.1, drewN_below h.2⟩
theorem zhas (l : List Spn.Sp) (x : Bool) (a : Option Addr) (N cap : Nat) (n : Int) (w : World) (hn : l.length = N) (hl : N ≤ maxLen) (hx : Spn.memB l n = x) (hr : Row2 w a l) :
    Calls Tryd.prog 42 #[.slice a N cap, .int .i64 n] w fun e w' => e = .returned (.bool x) ∧ w = w' := by
  subst hn hx
  exact (hasDay_any l a cap n w hl hr).mono fun _ _ h => ⟨h.1, h.2.symm⟩
theorem zdays (l : List Spn.Sp) (x : Int) (a : Option Addr) (N cap : Nat) (w : World) (hn : l.length = N) (hc : Spn.chk l = 0) (hx : Spn.size l = x) (hr : Row2 w a l) :
    Calls Tryd.prog 22 #[.slice a N cap] w fun e w' => e = .returned (.int .i64 x) ∧ Below w.heap.size w w' := by
  subst hn hx
  exact (daysOf_any l a cap w ((Spn.chk_zero l).1 hc).1 (Spn.chk_order l hc) hr).mono fun _ _ h => ⟨h.1, drewN_below h.2⟩
theorem znoDay (s : Int) (b : Bool) (w : World) (h : decide (s < 1 ∨ 3652059 < s) = b) : Calls Tryd.prog 33 #[.int .i64 s] w fun e w' => e = .returned (.bool b) ∧ w = w' := by
  subst h
  by_cases h1 : s < 1
  · rw [decide_eq_true (.inl h1)]
    go_enter Tryd.func33, Tryd.ntmps33
    go_wp2
    go_ret
    exact ⟨rfl, rfl⟩
  · have h1' : decide (s < 1) = false := decide_eq_false h1
    by_cases h2 : 3652059 < s
    · rw [decide_eq_true (.inr h2)]
      go_enter Tryd.func33, Tryd.ntmps33
      go_wp2
      go_ret
      exact ⟨rfl, rfl⟩
    · have h2' : decide (3652059 < s) = false := decide_eq_false h2
      rw [decide_eq_false (by omega)]
      go_enter Tryd.func33, Tryd.ntmps33
      go_wp2
      go_ret
      exact ⟨rfl, rfl⟩
set_option maxRecDepth 100000 in
set_option maxHeartbeats 8000000 in
theorem passCheck_any (p : Pz.Pq) (a : Option Addr) (c N : Nat) (w : World) (hN : p.days.length = N) (hl : N ≤ maxLen) (hr : Row2 w a p.days) :
    Calls Tryd.prog 15 #[pv p a N c] w fun e w' => e = .returned (.int .i64 (Pz.chk p)) ∧ Below w.heap.size w w' := by
  obtain ⟨id, born, pa, pb, ser, l⟩ := p
  have HN : Hid (l.length = N) := hN
  have R : Hid (Row2 w a l) := hr
  have B0 : Hid (Below w.heap.size w (w.alloc (.cells #[.int .i64 id, .int .i64 born, .int .i64 pa, .int .i64 pb, .int .i64 ser, .slice a N c] 24))) := below_box w _
  have C0 : Hid (Has6 _ _ ⟨id, born, pa, pb, ser, l⟩ a N c) := Has6.new w ⟨id, born, pa, pb, ser, l⟩ a N c 24
  clear hr hN
  by_cases h0 : id < 1
  · have HE : Hid (Pz.chk ⟨id, born, pa, pb, ser, l⟩ = 3) := by
      show _ = _
      unfold Pz.chk
      rw [if_pos (by unfold Pz.nb; simp only; omega)]
    rw [HE.out]
    go_enter Tryd.func15, Tryd.ntmps15
    go_wp2
    go_ret
    exact ⟨rfl, B0.out⟩
  have g0 : decide (id < 1) = false := decide_eq_false h0
  by_cases h1 : 999999 < id
  · have HE : Hid (Pz.chk ⟨id, born, pa, pb, ser, l⟩ = 3) := by
      show _ = _
      unfold Pz.chk
      rw [if_pos (by unfold Pz.nb; simp only; omega)]
    rw [HE.out]
    go_enter Tryd.func15, Tryd.ntmps15
    go_wp2
    go_ret
    exact ⟨rfl, B0.out⟩
  have g1 : decide (999999 < id) = false := decide_eq_false h1
  by_cases h2 : born < 1 ∨ 3652059 < born
  · have HE : Hid (Pz.chk ⟨id, born, pa, pb, ser, l⟩ = 3) := by
      show _ = _
      unfold Pz.chk
      rw [if_pos (by unfold Pz.nb; simp only; omega)]
    rw [HE.out]
    have HD : Hid (decide (born < 1 ∨ 3652059 < born) = true) := decide_eq_true h2
    clear h2
    go_enter Tryd.func15, Tryd.ntmps15
    go_wp2_with (go_at_call 33; refine (znoDay _ _ _ HD.out).mono ?_; rintro e w1 ⟨rfl, rfl⟩)
    go_ret
    exact ⟨rfl, B0.out⟩
  have HD : Hid (decide (born < 1 ∨ 3652059 < born) = false) := decide_eq_false h2
  by_cases h3 : pa < 0
  · have HE : Hid (Pz.chk ⟨id, born, pa, pb, ser, l⟩ = 3) := by
      show _ = _
      unfold Pz.chk
      rw [if_pos (by unfold Pz.nb; simp only; omega)]
    rw [HE.out]
    go_enter Tryd.func15, Tryd.ntmps15
    go_wp2_with (go_at_call 33; refine (znoDay _ _ _ HD.out).mono ?_; rintro e w1 ⟨rfl, rfl⟩)
    go_ret
    exact ⟨rfl, B0.out⟩
  have g3 : decide (pa < 0) = false := decide_eq_false h3
  by_cases h4 : pb < pa
  · have HE : Hid (Pz.chk ⟨id, born, pa, pb, ser, l⟩ = 3) := by
      show _ = _
      unfold Pz.chk
      rw [if_pos (by unfold Pz.nb; simp only; omega)]
    rw [HE.out]
    go_enter Tryd.func15, Tryd.ntmps15
    go_wp2_with (go_at_call 33; refine (znoDay _ _ _ HD.out).mono ?_; rintro e w1 ⟨rfl, rfl⟩)
    go_ret
    exact ⟨rfl, B0.out⟩
  have g4 : decide (pb < pa) = false := decide_eq_false h4
  by_cases h5 : 5 < pb
  · have HE : Hid (Pz.chk ⟨id, born, pa, pb, ser, l⟩ = 3) := by
      show _ = _
      unfold Pz.chk
      rw [if_pos (by unfold Pz.nb; simp only; omega)]
    rw [HE.out]
    go_enter Tryd.func15, Tryd.ntmps15
    go_wp2_with (go_at_call 33; refine (znoDay _ _ _ HD.out).mono ?_; rintro e w1 ⟨rfl, rfl⟩)
    go_ret
    exact ⟨rfl, B0.out⟩
  have g5 : decide (5 < pb) = false := decide_eq_false h5
  by_cases h6 : ser < 1
  · have HE : Hid (Pz.chk ⟨id, born, pa, pb, ser, l⟩ = 3) := by
      show _ = _
      unfold Pz.chk
      rw [if_pos (by unfold Pz.nb; simp only; omega)]
    rw [HE.out]
    go_enter Tryd.func15, Tryd.ntmps15
    go_wp2_with (go_at_call 33; refine (znoDay _ _ _ HD.out).mono ?_; rintro e w1 ⟨rfl, rfl⟩)
    go_ret
    exact ⟨rfl, B0.out⟩
  have g6 : decide (ser < 1) = false := decide_eq_false h6
  by_cases h7 : 999 < ser
  · have HE : Hid (Pz.chk ⟨id, born, pa, pb, ser, l⟩ = 3) := by
      show _ = _
      unfold Pz.chk
      rw [if_pos (by unfold Pz.nb; simp only; omega)]
    rw [HE.out]
    go_enter Tryd.func15, Tryd.ntmps15
    go_wp2_with (go_at_call 33; refine (znoDay _ _ _ HD.out).mono ?_; rintro e w1 ⟨rfl, rfl⟩)
    go_ret
    exact ⟨rfl, B0.out⟩
  have g7 : decide (999 < ser) = false := decide_eq_false h7
  have HNB : Hid (¬ Pz.nb ⟨id, born, pa, pb, ser, l⟩) := by show ¬ _; unfold Pz.nb; simp only; omega
  obtain ⟨d, hd⟩ : ∃ d, Spn.chk l = d := ⟨_, rfl⟩
  have HSD : Hid (Spn.chk l = d) := hd
  clear hd h2
  by_cases d0 : d = 0
  · subst d0
    have HE : Hid (Pz.chk ⟨id, born, pa, pb, ser, l⟩ = if Pz.outB l = true then 3 else 0) := by
      show _ = _
      unfold Pz.chk
      rw [if_neg HNB.out, if_pos HSD.out]
    have hN64 : N ≤ 64 := by rw [← HN.out]; exact ((Spn.chk_zero l).1 HSD.out).1
    go_enter Tryd.func15, Tryd.ntmps15
    go_wp2_with (go_at_call 33; refine (znoDay _ _ _ HD.out).mono ?_; rintro e w1 ⟨rfl, rfl⟩)
    refine (zsc l 0 a N c _ HN.out hl HSD.out (R.out.below B0.out)).mono ?_
    rintro e w2 ⟨rfl, hb⟩
    have C2 : Hid (Has6 w2 w.heap.size ⟨id, born, pa, pb, ser, l⟩ a N c) := C0.out.below hb
    have B2 : Hid (Below w.heap.size w w2) := below_on B0.out (Nat.le_refl _) hb
    have R2 : Hid (Row2 w2 a l) := R.out.below B2.out
    clear hb
    have k5 := C2.out.c5
    go_wp2
    go_loop [4] (fun iv => ∃ k : Nat, k ≤ N ∧ iv = .int .i64 k ∧ Pz.outB (l.take k) = false) (fun iv => N - (intOf iv).toNat)
    case atStart => exact ⟨0, Nat.zero_le _, rfl, rfl⟩
    case round =>
      obtain ⟨k, hk, rfl, ho⟩ := hrel
      have HO : Hid (Pz.outB (l.take k) = false) := ho
      clear ho
      by_cases hlt : k < N
      · have hlt' : (k : Int) < (N : Int) := by omega
        obtain ⟨b, off, x, y, rfl, hx, c1, c2⟩ := R2.out.at (k := k) (by rw [HN.out]; exact hlt)
        have HX : Hid (l[k]? = some (x, y)) := hx
        clear hx
        by_cases x1 : x < 1
        · have HEE : Hid (Pz.chk ⟨id, born, pa, pb, ser, l⟩ = 3) := by
            have : Pz.outB l = true := List.any_eq_true.2 ⟨(x, y), List.mem_of_getElem? HX.out, by simp; omega⟩
            show _ = _; rw [HE.out, if_pos this]
          go_wp2
          go_ret
          exact ⟨ret_int HEE.out.symm, B2.out⟩
        · have x1' : decide (x < 1) = false := decide_eq_false x1
          by_cases y1 : 3652059 < y
          · have HEE : Hid (Pz.chk ⟨id, born, pa, pb, ser, l⟩ = 3) := by
              have : Pz.outB l = true := List.any_eq_true.2 ⟨(x, y), List.mem_of_getElem? HX.out, by simp; omega⟩
              show _ = _; rw [HE.out, if_pos this]
            go_wp2
            go_ret
            exact ⟨ret_int HEE.out.symm, B2.out⟩
          · have y1' : decide (3652059 < y) = false := decide_eq_false y1
            have HO2 : Hid (Pz.outB (l.take (k + 1)) = false) := by
              show _ = _
              have : l.take (k + 1) = l.take k ++ [(x, y)] := by rw [List.take_add_one, HX.out]; rfl
              have e2 : Pz.outB (l.take k ++ [(x, y)]) = (Pz.outB (l.take k) || (decide (x < 1) || decide (3652059 < y))) := by unfold Pz.outB; rw [List.any_append]; simp
              rw [this, e2, HO.out, x1', y1']; rfl
            go_wp2
            go_round
            case rel => exact ⟨k + 1, by omega, by go_num, HO2.out⟩
            case measure => simp [intOf]; omega
      · have HEE : Hid (Pz.chk ⟨id, born, pa, pb, ser, l⟩ = 0) := by
          have e : k = l.length := by rw [HN.out]; omega
          have := HO.out
          rw [e, List.take_length] at this
          show _ = _; rw [HE.out, this]; rfl
        go_wp2
        go_ret
        exact ⟨ret_int HEE.out.symm, B2.out⟩
  · have HE : Hid (Pz.chk ⟨id, born, pa, pb, ser, l⟩ = d) := by
      show _ = _
      unfold Pz.chk
      rw [if_neg HNB.out, HSD.out, if_neg d0]
    rw [HE.out]
    have d1 : (d != 0) = true := by simpa using d0
    clear d0
    go_enter Tryd.func15, Tryd.ntmps15
    go_wp2_with (go_at_call 33; refine (znoDay _ _ _ HD.out).mono ?_; rintro e w1 ⟨rfl, rfl⟩)
    refine (zsc l d a N c _ HN.out hl HSD.out (R.out.below B0.out)).mono ?_
    rintro e w2 ⟨rfl, hb⟩
    have B2 : Hid (Below w.heap.size w w2) := below_on B0.out (Nat.le_refl _) hb
    clear hb
    go_wp2
    go_ret
    exact ⟨rfl, B2.out⟩
end Go.Proofs.YtandlmnbnjkklaaDoor
