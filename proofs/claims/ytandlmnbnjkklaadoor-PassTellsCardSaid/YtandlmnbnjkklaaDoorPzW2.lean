/- The program's new pass; a pass and a day; the end of a pass's days. -/
import Derived.Test.YtandlmnbnjkklaaDoorPzW1
namespace Go.Proofs.YtandlmnbnjkklaaDoor
open Go.RowKit Go.BigFrame

/-- a pass that is answered, its days made by the call -/
def nzOwn (w : World) (r : Pz.Pq × Int) (e : Ending) (w' : World) : Prop := ∃ a n c, e = .returned (.tuple #[pv r.1 a n c, .int .i64 r.2]) ∧ r.1.days.length = n ∧ n ≤ c ∧ n ≤ 64 ∧ (a = none → c = 0 ∧ r.1.days = []) ∧ OwnS w' w.heap.size (.slice a n c) r.1.days ∧ Below w.heap.size w w'
/-- .. with a number of days -/
def rzOwn (w : World) (r : Pz.Pq × Int × Int) (e : Ending) (w' : World) : Prop := ∃ a n c, e = .returned (.tuple #[pv r.1 a n c, .int .i64 r.2.1, .int .i64 r.2.2]) ∧ r.1.days.length = n ∧ n ≤ c ∧ n ≤ 64 ∧ (a = none → c = 0 ∧ r.1.days = []) ∧ OwnS w' w.heap.size (.slice a n c) r.1.days ∧ Below w.heap.size w w'
theorem OwnS.row' {w : World} {B n c : Nat} {a : Option Addr} {xs : List Spn.Sp} (h : OwnS w B (.slice a n c) xs) : Row2 w a xs := by
  obtain ⟨a', c', e, _, hr⟩ := h.row
  cases e
  exact hr
theorem nzOwn.weak {w w' : World} {r : Pz.Pq × Int} {e : Ending} (h : nzOwn w r e w') : nzPost w r e w' := by
  obtain ⟨a, n, c, h1, h2, h3, h4, h5, h6, h7⟩ := h
  exact ⟨a, n, c, h1, h2, h3, h4, h5, h6.row', h7⟩
theorem rzOwn.weak {w w' : World} {r : Pz.Pq × Int × Int} {e : Ending} (h : rzOwn w r e w') : rzPost w r e w' := by
  obtain ⟨a, n, c, h1, h2, h3, h4, h5, h6, h7⟩ := h
  exact ⟨a, n, c, h1, h2, h3, h4, h5, h6.row', h7⟩
theorem nzOwn.bad {w w' : World} {r : Pz.Pq × Int} {c : Int} (h : r = (Pz.zero, c)) (hb : Below w.heap.size w w') : nzOwn w r (.returned (.tuple #[.agg #[.int .i64 0, .int .i64 0, .int .i64 0, .int .i64 0, .int .i64 0, .slice none 0 0], .int .i64 c])) w' := by
  subst h
  exact ⟨none, 0, 0, rfl, rfl, Nat.le_refl _, by omega, fun _ => ⟨rfl, rfl⟩, OwnS.nil _ _, hb⟩
theorem rzOwn.bad {w w' : World} {r : Pz.Pq × Int × Int} {c : Int} (h : r = (Pz.zero, 0, c)) (hb : Below w.heap.size w w') : rzOwn w r (.returned (.tuple #[.agg #[.int .i64 0, .int .i64 0, .int .i64 0, .int .i64 0, .int .i64 0, .slice none 0 0], .int .i64 0, .int .i64 c])) w' := by
  subst h
  exact ⟨none, 0, 0, rfl, rfl, Nat.le_refl _, by omega, fun _ => ⟨rfl, rfl⟩, OwnS.nil _ _, hb⟩
set_option maxRecDepth 100000 in
set_option maxHeartbeats 1000000 in
theorem zqFirst (s u n q1 q2 : Int) (w : World) (hw : Laid w) (h1 : (Trm.nthF s u n 1).1 = q1) (h2 : (Trm.nthF s u n 1).2 = q2) :
    Calls Tryd.prog 24 #[.int .i64 s, .agg #[.int .i64 u, .int .i64 n]] w fun e w' => e = .returned (.tuple #[.agg #[.int .i64 (if q2 = 0 then s else 0), .int .i64 (if q2 = 0 then q1 else 0)], .int .i64 q2]) ∧ Below w.heap.size w w' := by
  have HN : Hid (∀ W, Laid W → Calls Tryd.prog 46 #[.int .i64 s, .agg #[.int .i64 u, .int .i64 n], .int .i64 1] W fun e w' => e = .returned (.tuple #[.int .i64 q1, .int .i64 q2]) ∧ Below W.heap.size W w') := fun W hW => by have := pNthF s u n 1 W hW; rw [h1, h2] at this; exact this
  have HL : Hid (Laid w) := hw
  clear hw h1 h2
  have HB : Hid (Below w.heap.size w ((w.alloc (.cells #[.int .i64 u, .int .i64 n] 26)).alloc (.cells #[.int .i64 0, .int .i64 0] 47))) := (below_box w _).alloc (by simp) _
  have HZ : Hid (((w.alloc (.cells #[.int .i64 u, .int .i64 n] 26)).alloc (.cells #[.int .i64 0, .int .i64 0] 47)).cell? ⟨w.heap.size + 1, 0, none⟩ = some (.int .i64 0) ∧ ((w.alloc (.cells #[.int .i64 u, .int .i64 n] 26)).alloc (.cells #[.int .i64 0, .int .i64 0] 47)).cell? ⟨w.heap.size + 1, 1, none⟩ = some (.int .i64 0) ∧ ((w.alloc (.cells #[.int .i64 u, .int .i64 n] 26)).alloc (.cells #[.int .i64 0, .int .i64 0] 47)).frozen? ⟨w.heap.size + 1, 0, none⟩ = false ∧ ((w.alloc (.cells #[.int .i64 u, .int .i64 n] 26)).alloc (.cells #[.int .i64 0, .int .i64 0] 47)).frozen? ⟨w.heap.size + 1, 1, none⟩ = false) := by
    show _ ∧ _
    have e : (w.alloc (.cells #[.int .i64 u, .int .i64 n] 26)).heap.size = w.heap.size + 1 := by simp
    rw [← e]
    exact ⟨by simp, by simp, by simp, by simp⟩
  by_cases h0 : q2 = 0
  · subst h0
    rw [if_pos rfl, if_pos rfl]
    go_enter Tryd.func24, Tryd.ntmps24
    go_wp2_with fail
    refine (HN.out _ (HL.out.below HB.out)).mono ?_
    rintro e w1 ⟨rfl, hb⟩
    have B1 : Hid (Below w.heap.size w w1) := below_on HB.out (Nat.le_refl _) hb
    obtain ⟨k, f⟩ := bcell hb
    have lt1 : w.heap.size + 1 < w1.heap.size := Nat.lt_of_lt_of_le (by simp) hb.size
    have z0 : w1.cell? ⟨w.heap.size + 1, 0, none⟩ = some (.int .i64 0) := (k _ _ (by simp)).trans HZ.out.1
    have z1 : w1.cell? ⟨w.heap.size + 1, 1, none⟩ = some (.int .i64 0) := (k _ _ (by simp)).trans HZ.out.2.1
    have g0 : w1.frozen? ⟨w.heap.size + 1, 0, none⟩ = false := (f _ _ (by simp)).trans HZ.out.2.2.1
    have g1 : w1.frozen? ⟨w.heap.size + 1, 1, none⟩ = false := (f _ _ (by simp)).trans HZ.out.2.2.2
    clear k f hb
    go_wp2
    refine bodyPost_ret (v := .tuple #[.agg #[.int .i64 s, .int .i64 q1], .int .i64 0]) (by simp [results, Tryd.results24, go_sem, *]) rfl ?_
    exact ⟨rfl, (B1.out.setCell (p := ⟨w.heap.size + 1, 0, none⟩) (by simp) _).setCell (p := ⟨w.heap.size + 1, 1, none⟩) (by simp) _⟩
  · rw [if_neg h0, if_neg h0]
    have hne : (q2 != 0) = true := by simpa using h0
    clear h0
    go_enter Tryd.func24, Tryd.ntmps24
    go_wp2_with fail
    refine (HN.out _ (HL.out.below HB.out)).mono ?_
    rintro e w1 ⟨rfl, hb⟩
    have B1 : Hid (Below w.heap.size w w1) := below_on HB.out (Nat.le_refl _) hb
    obtain ⟨k, f⟩ := bcell hb
    have lt1 : w.heap.size + 1 < w1.heap.size := Nat.lt_of_lt_of_le (by simp) hb.size
    have z0 : w1.cell? ⟨w.heap.size + 1, 0, none⟩ = some (.int .i64 0) := (k _ _ (by simp)).trans HZ.out.1
    have z1 : w1.cell? ⟨w.heap.size + 1, 1, none⟩ = some (.int .i64 0) := (k _ _ (by simp)).trans HZ.out.2.1
    have g0 : w1.frozen? ⟨w.heap.size + 1, 0, none⟩ = false := (f _ _ (by simp)).trans HZ.out.2.2.1
    have g1 : w1.frozen? ⟨w.heap.size + 1, 1, none⟩ = false := (f _ _ (by simp)).trans HZ.out.2.2.2
    clear k f hb
    go_wp2
    refine bodyPost_ret (v := .tuple #[.agg #[.int .i64 0, .int .i64 0], .int .i64 q2]) (by simp [results, Tryd.results24, go_sem, *]) rfl ?_
    exact ⟨rfl, (B1.out.setCell (p := ⟨w.heap.size + 1, 0, none⟩) (by simp) _).setCell (p := ⟨w.heap.size + 1, 1, none⟩) (by simp) _⟩
set_option maxRecDepth 100000 in
set_option maxHeartbeats 1000000 in
theorem zqOn (p : Pz.Pq) (a : Option Addr) (N c : Nat) (n d : Int) (w : World) (hN : p.days.length = N) (hl : N ≤ maxLen) (hc : N ≤ c) (hn : a = none → c = 0 ∧ p.days = []) (hr : Row2 w a p.days) (hd : (if Pz.chk p = 0 then (if Pz.noD n then 3 else 0) else Pz.chk p) = d) :
    Calls Tryd.prog 25 #[pv p a N c, .int .i64 n] w fun e w' => e = .returned (.int .i64 d) ∧ Below w.heap.size w w' := by
  have HB : Hid (Below w.heap.size w (w.alloc (.cells #[.int .i64 p.id, .int .i64 p.born, .int .i64 p.a, .int .i64 p.b, .int .i64 p.ser, .slice a N c] 24))) := below_box w _
  have HC := pZCheck_any p a N c _ hN hl hc hn (hr.below HB.out)
  obtain ⟨x, hx⟩ : ∃ x, Pz.chk p = x := ⟨_, rfl⟩
  rw [hx] at HC hd
  have HC : Hid (Calls _ _ _ _ _) := HC
  clear hx hr hn hc hl hN
  obtain ⟨id, born, pa, pb, ser, l⟩ := p
  simp only at HB HC
  by_cases h0 : x = 0
  · subst h0
    rw [if_pos rfl] at hd
    by_cases hn : 1 ≤ n ∧ n ≤ 3652059
    · have e1 : decide (1 ≤ n ∧ n ≤ 3652059) = true := decide_eq_true hn
      rw [if_neg (by omega)] at hd
      subst hd
      clear hn
      go_enter Tryd.func25, Tryd.ntmps25
      go_wp2_with fail
      refine HC.out.mono ?_
      rintro e w1 ⟨rfl, hb⟩
      have B1 : Hid (Below w.heap.size w w1) := below_on HB.out (Nat.le_refl _) hb
      clear hb
      go_wp2_with (go_at_call 40; refine (zqDay _ _).mono ?_; rintro e w2 ⟨rfl, rfl⟩; rw [e1])
      go_ret
      exact ⟨rfl, B1.out⟩
    · have e1 : decide (1 ≤ n ∧ n ≤ 3652059) = false := decide_eq_false hn
      rw [if_pos (by unfold Pz.noD; omega)] at hd
      subst hd
      clear hn
      go_enter Tryd.func25, Tryd.ntmps25
      go_wp2_with fail
      refine HC.out.mono ?_
      rintro e w1 ⟨rfl, hb⟩
      have B1 : Hid (Below w.heap.size w w1) := below_on HB.out (Nat.le_refl _) hb
      clear hb
      go_wp2_with (go_at_call 40; refine (zqDay _ _).mono ?_; rintro e w2 ⟨rfl, rfl⟩; rw [e1])
      go_ret
      exact ⟨rfl, B1.out⟩
  · rw [if_neg h0] at hd
    subst hd
    have hne : (x != 0) = true := by simpa using h0
    clear h0
    go_enter Tryd.func25, Tryd.ntmps25
    go_wp2_with fail
    refine HC.out.mono ?_
    rintro e w1 ⟨rfl, hb⟩
    have B1 : Hid (Below w.heap.size w w1) := below_on HB.out (Nat.le_refl _) hb
    clear hb
    go_wp2
    go_ret
    exact ⟨rfl, B1.out⟩
set_option maxRecDepth 100000 in
set_option maxHeartbeats 1000000 in
theorem zqEnd (p : Pz.Pq) (a : Option Addr) (N c : Nat) (x : Int) (w : World) (hN : p.days.length = N) (hl : N ≤ 64) (hr : Row2 w a p.days) (hx : Pz.pend p.days = x) :
    Calls Tryd.prog 43 #[pv p a N c] w fun e w' => e = .returned (.int .i64 x) ∧ Below w.heap.size w w' := by
  obtain ⟨id, born, pa, pb, ser, l⟩ := p
  have HN : Hid (l.length = N) := hN
  have HB : Hid (Below w.heap.size w (w.alloc (.cells #[.int .i64 id, .int .i64 born, .int .i64 pa, .int .i64 pb, .int .i64 ser, .slice a N c] 24))) := below_box w _
  have R : Hid (Row2 (w.alloc (.cells #[.int .i64 id, .int .i64 born, .int .i64 pa, .int .i64 pb, .int .i64 ser, .slice a N c] 24)) a l) := hr.below HB.out
  have HX : Hid (Pz.pend l = x) := hx
  clear hr hN hx
  by_cases hz : N = 0
  · subst hz
    obtain rfl : x = 0 := by
      rw [← HX.out, List.eq_nil_of_length_eq_zero HN.out]; rfl
    go_enter Tryd.func43, Tryd.ntmps43
    go_wp2
    go_ret
    exact ⟨rfl, HB.out⟩
  · obtain ⟨n, rfl⟩ : ∃ n, N = n + 1 := ⟨N - 1, by omega⟩
    obtain ⟨b, off, x1, y, rfl, hx, -, c2⟩ := R.out.at (k := n) (by rw [HN.out]; omega)
    obtain rfl : y = x := by
      rw [← HX.out]
      have h9 := Pz.lastTo_succ l n _ hx
      unfold Pz.pend
      exact h9.symm.trans (congrArg (Pz.lastTo l) HN.out).symm
    have en : ((n + 1 : Nat) : Int) - 1 = (n : Int) := by omega
    have hnn : (n : Int) < ((n + 1 : Nat) : Int) := by omega
    have hn0 : (((n + 1 : Nat) : Int) == 0) = false := by rw [beq_eq_false_iff_ne]; omega
    clear hx hz
    go_enter Tryd.func43, Tryd.ntmps43
    go_wp2
    go_ret
    exact ⟨rfl, HB.out⟩
end Go.Proofs.YtandlmnbnjkklaaDoor
