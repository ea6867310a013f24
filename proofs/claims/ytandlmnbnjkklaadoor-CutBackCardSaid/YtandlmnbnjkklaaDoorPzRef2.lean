/- The document's words on passes, further: one pass is itself; the end of its days; a new one. -/
import Derived.Test.YtandlmnbnjkklaaDoorPzRef
import Derived.Deep.OwnRows
namespace Go.Proofs.YtandlmnbnjkklaaDoor
open Go.RowKit Go.BigFrame

set_option maxRecDepth 100000 in
set_option maxHeartbeats 2000000 in
theorem samePass_eq (p : Pz.Pq) (a a' : Option Addr) (N c c' : Nat) (w : World) (hN : p.days.length = N) (hl : N ≤ maxLen) (hr : Row2 w a p.days) (hr' : Row2 w a' p.days) :
    Calls Tryd.prog 18 #[pv p a N c, pv p a' N c'] w fun e w' => e = .returned (.bool true) ∧ Below w.heap.size w w' := by
  obtain ⟨id, born, pa, pb, ser, l⟩ := p
  simp only at hN hr hr' ⊢
  have HB : Hid (Below w.heap.size w ((w.alloc (.cells #[.int .i64 id, .int .i64 born, .int .i64 pa, .int .i64 pb, .int .i64 ser, .slice a N c] 24)).alloc (.cells #[.int .i64 id, .int .i64 born, .int .i64 pa, .int .i64 pb, .int .i64 ser, .slice a' N c'] 24))) := (below_box w _).alloc (by simp) _
  have hss := same_below l l true a a' c c' _ (by rw [hN]; exact hl) (by rw [hN]; exact hl) (decide_eq_true rfl) (hr.below HB.out) (hr'.below HB.out)
  rw [hN] at hss
  clear hr hr' hN
  go_enter Tryd.func18, Tryd.ntmps18
  go_wp2_with fail
  refine hss.mono ?_
  rintro e w2 ⟨rfl, hb⟩
  have HB2 : Hid (Below w.heap.size w w2) := below_on HB.out (Nat.le_refl _) hb
  clear hb hss
  go_wp2
  go_ret
  exact ⟨rfl, HB2.out⟩
set_option maxRecDepth 100000 in
set_option maxHeartbeats 1000000 in
theorem passEnd_any (p : Pz.Pq) (a : Option Addr) (N c : Nat) (w : World) (hN : p.days.length = N) (hl : N ≤ 64) (hr : Row2 w a p.days) :
    Calls Tryd.prog 23 #[pv p a N c] w fun e w' => e = .returned (.int .i64 (Pz.pend p.days)) ∧ Below w.heap.size w w' := by
  obtain ⟨id, born, pa, pb, ser, l⟩ := p
  have HN : Hid (l.length = N) := hN
  have HB : Hid (Below w.heap.size w (w.alloc (.cells #[.int .i64 id, .int .i64 born, .int .i64 pa, .int .i64 pb, .int .i64 ser, .slice a N c] 24))) := below_box w _
  have R : Hid (Row2 (w.alloc (.cells #[.int .i64 id, .int .i64 born, .int .i64 pa, .int .i64 pb, .int .i64 ser, .slice a N c] 24)) a l) := hr.below HB.out
  show Calls Tryd.prog 23 #[pv ⟨id, born, pa, pb, ser, l⟩ a N c] w fun e w' => e = .returned (.int .i64 (Pz.pend l)) ∧ Below w.heap.size w w'
  clear hr hN
  go_enter Tryd.func23, Tryd.ntmps23
  go_wp2
  go_loop [3, 4] (fun ev iv => ∃ k : Nat, k ≤ N ∧ iv = .int .i64 k ∧ ev = .int .i64 (Pz.lastTo l k)) (fun _ iv => N - (intOf iv).toNat)
  case atStart => exact ⟨0, Nat.zero_le _, rfl, rfl⟩
  case round =>
    obtain ⟨k, hk, rfl, rfl⟩ := hrel
    by_cases hlt : k < N
    · have hlt' : (k : Int) < (N : Int) := by omega
      obtain ⟨b, off, x, y, rfl, hx, c1, c2⟩ := R.out.at (k := k) (by rw [HN.out]; exact hlt)
      have HV : Hid (Pz.lastTo l (k + 1) = y) := Pz.lastTo_succ l k _ hx
      clear hx
      go_wp2
      go_round
      case rel => exact ⟨k + 1, by omega, by go_num, by rw [HV.out]⟩
      case measure => simp [intOf]; omega
    · obtain rfl : k = N := by omega
      have HE : Hid (Pz.lastTo l k = Pz.pend l) := by show _ = _; unfold Pz.pend; rw [HN.out]
      go_wp2
      go_ret
      exact ⟨ret_int HE.out, HB.out⟩
/-- a pass that is answered -/
def nzPost (w : World) (r : Pz.Pq × Int) (e : Ending) (w' : World) : Prop := ∃ a n c, e = .returned (.tuple #[pv r.1 a n c, .int .i64 r.2]) ∧ r.1.days.length = n ∧ n ≤ c ∧ n ≤ 64 ∧ (a = none → c = 0 ∧ r.1.days = []) ∧ Row2 w' a r.1.days ∧ Below w.heap.size w w'
theorem nzPost.bad {w w' : World} {r : Pz.Pq × Int} {c : Int} (h : r = (Pz.zero, c)) (hb : Below w.heap.size w w') : nzPost w r (.returned (.tuple #[.agg #[.int .i64 0, .int .i64 0, .int .i64 0, .int .i64 0, .int .i64 0, .slice none 0 0], .int .i64 c])) w' := by
  subst h
  exact ⟨none, 0, 0, rfl, rfl, Nat.le_refl _, by omega, fun _ => ⟨rfl, rfl⟩, .inl rfl, hb⟩
/-- .. with a number of days -/
def rzPost (w : World) (r : Pz.Pq × Int × Int) (e : Ending) (w' : World) : Prop := ∃ a n c, e = .returned (.tuple #[pv r.1 a n c, .int .i64 r.2.1, .int .i64 r.2.2]) ∧ r.1.days.length = n ∧ n ≤ c ∧ n ≤ 64 ∧ (a = none → c = 0 ∧ r.1.days = []) ∧ Row2 w' a r.1.days ∧ Below w.heap.size w w'
theorem rzPost.bad {w w' : World} {r : Pz.Pq × Int × Int} {c : Int} (h : r = (Pz.zero, 0, c)) (hb : Below w.heap.size w w') : rzPost w r (.returned (.tuple #[.agg #[.int .i64 0, .int .i64 0, .int .i64 0, .int .i64 0, .int .i64 0, .slice none 0 0], .int .i64 0, .int .i64 c])) w' := by
  subst h
  exact ⟨none, 0, 0, rfl, rfl, Nat.le_refl _, by omega, fun _ => ⟨rfl, rfl⟩, .inl rfl, hb⟩
/-- an answer's box, not yet written -/
structure Z6 (W : World) (r : Nat) : Prop where
  lt : r < W.heap.size
  z0 : W.cell? ⟨r, 0, none⟩ = some (.int .i64 0)
  z1 : W.cell? ⟨r, 1, none⟩ = some (.int .i64 0)
  z2 : W.cell? ⟨r, 2, none⟩ = some (.int .i64 0)
  z3 : W.cell? ⟨r, 3, none⟩ = some (.int .i64 0)
  z4 : W.cell? ⟨r, 4, none⟩ = some (.int .i64 0)
  z5 : W.cell? ⟨r, 5, none⟩ = some (.slice none 0 0)
  g : ∀ i, W.frozen? ⟨r, i, none⟩ = false
theorem Z6.new (w : World) (t : TypeId) : Z6 (w.alloc (.cells #[.int .i64 0, .int .i64 0, .int .i64 0, .int .i64 0, .int .i64 0, .slice none 0 0] t)) w.heap.size :=
  ⟨by simp, by simp, by simp, by simp, by simp, by simp, by simp, fun i => by simp⟩
theorem Z6.below {w w' : World} {r : Nat} (h : Z6 w r) (hb : Below w.heap.size w w') : Z6 w' r := by
  obtain ⟨k, f⟩ := bcell hb
  exact ⟨Nat.lt_of_lt_of_le h.lt hb.size, (k _ _ h.lt).trans h.z0, (k _ _ h.lt).trans h.z1, (k _ _ h.lt).trans h.z2, (k _ _ h.lt).trans h.z3, (k _ _ h.lt).trans h.z4, (k _ _ h.lt).trans h.z5, fun i => (f _ _ h.lt).trans (h.g i)⟩
/-- .. written -/
abbrev six (W : World) (r : Nat) (v0 v1 v2 v3 v4 v5 : Value) : World := (((((W.setCell ⟨r, 0, none⟩ v0).setCell ⟨r, 1, none⟩ v1).setCell ⟨r, 2, none⟩ v2).setCell ⟨r, 3, none⟩ v3).setCell ⟨r, 4, none⟩ v4).setCell ⟨r, 5, none⟩ v5
theorem six_below {w W : World} {r : Nat} (h : Below w.heap.size w W) (hr : w.heap.size ≤ r) (v0 v1 v2 v3 v4 v5 : Value) : Below w.heap.size w (six W r v0 v1 v2 v3 v4 v5) :=
  (((((h.setCell (p := ⟨r, 0, none⟩) hr _).setCell (p := ⟨r, 1, none⟩) hr _).setCell (p := ⟨r, 2, none⟩) hr _).setCell (p := ⟨r, 3, none⟩) hr _).setCell (p := ⟨r, 4, none⟩) hr _).setCell (p := ⟨r, 5, none⟩) hr _
theorem Row2.apart {W : World} {a : Option Addr} {l : List Spn.Sp} (h : Row2 W a l) {p : Addr} (hp : ∀ b off, a = some ⟨b, off, none⟩ → b ≠ p.block) (v : Value) : Row2 (W.setCell p v) a l := by
  rcases h with h | ⟨b, off, rfl, hlt, hc⟩
  · exact .inl h
  · have hne : p.block ≠ b := fun e => hp b off rfl e.symm
    exact .inr ⟨b, off, rfl, by rw [Deep.nblk_setCell]; exact hlt, fun i hi => ⟨(World.cell?_setCell_far _ _ _ _ hne).trans (hc i hi).1, (World.cell?_setCell_far _ _ _ _ hne).trans (hc i hi).2⟩⟩
theorem six_row {W : World} {r : Nat} {a : Option Addr} {l : List Spn.Sp} (h : Row2 W a l) (hp : ∀ b off, a = some ⟨b, off, none⟩ → b ≠ r) (v0 v1 v2 v3 v4 v5 : Value) : Row2 (six W r v0 v1 v2 v3 v4 v5) a l :=
  (((((h.apart (p := ⟨r, 0, none⟩) hp _).apart (p := ⟨r, 1, none⟩) hp _).apart (p := ⟨r, 2, none⟩) hp _).apart (p := ⟨r, 3, none⟩) hp _).apart (p := ⟨r, 4, none⟩) hp _).apart (p := ⟨r, 5, none⟩) hp _
set_option maxRecDepth 100000 in
set_option maxHeartbeats 4000000 in
theorem passNew_any (id born pa pb s u n : Int) (w : World) :
    Calls Tryd.prog 12 #[.int .i64 id, .int .i64 born, .int .i64 pa, .int .i64 pb, .int .i64 s, .agg #[.int .i64 u, .int .i64 n]] w (nzPost w (Pz.new id born pa pb s u n)) := by
  obtain ⟨q1, hq1⟩ : ∃ q, (Trm.nthF s u n 1).1 = q := ⟨_, rfl⟩
  obtain ⟨q2, hq2⟩ : ∃ q, (Trm.nthF s u n 1).2 = q := ⟨_, rfl⟩
  have HQ : Hid ((Trm.nthF s u n 1).1 = q1 ∧ (Trm.nthF s u n 1).2 = q2) := ⟨hq1, hq2⟩
  have HN : Hid (∀ W, Calls Tryd.prog 32 #[.int .i64 s, .agg #[.int .i64 u, .int .i64 n], .int .i64 1] W fun e w' => e = .returned (.tuple #[.int .i64 q1, .int .i64 q2]) ∧ Below W.heap.size W w') := fun W => by have := refNthF s u n 1 W; rw [hq1, hq2] at this; exact this
  have hz := Z6.new (w.alloc (.cells #[.int .i64 u, .int .i64 n] 26)) 24
  rw [World.size_alloc] at hz
  have HZ : Hid (Z6 _ (w.heap.size + 1)) := hz
  have HB0 : Hid (Below w.heap.size w ((w.alloc (.cells #[.int .i64 u, .int .i64 n] 26)).alloc (.cells #[.int .i64 0, .int .i64 0, .int .i64 0, .int .i64 0, .int .i64 0, .slice none 0 0] 24))) := (below_box w _).alloc (by simp) _
  clear hq1 hq2 hz
  by_cases h2 : q2 = 0
  · subst h2
    obtain ⟨c, hc⟩ : ∃ c, Pz.chk ⟨id, born, pa, pb, 1, [(s, q1)]⟩ = c := ⟨_, rfl⟩
    have HC : Hid (Pz.chk ⟨id, born, pa, pb, 1, [(s, q1)]⟩ = c) := hc
    clear hc
    go_enter Tryd.func12, Tryd.ntmps12
    go_wp2_with fail
    refine (HN.out _).mono ?_
    rintro e w1 ⟨rfl, hb⟩
    have Z1 : Hid (Z6 w1 (w.heap.size + 1)) := HZ.out.below hb
    have B1 : Hid (Below w.heap.size w w1) := below_on HB0.out (Nat.le_refl _) hb
    clear hb
    go_wp2_with fail
    have R1 : Hid (Row2 ((w1.alloc (.cells #[.int .i64 s, .int .i64 q1] 47)).alloc (.cells #[.int .i64 id, .int .i64 born, .int .i64 pa, .int .i64 pb, .int .i64 1, .slice (some ⟨w1.heap.size, 0, none⟩) 1 1] 24)) (some ⟨w1.heap.size, 0, none⟩) [(s, q1)]) :=
      (lit_row w1 [(s, q1)] #[.int .i64 s, .int .i64 q1] rfl (by simp [maxLen])).below (below_box _ _)
    have H1 : Hid (Has6 ((w1.alloc (.cells #[.int .i64 s, .int .i64 q1] 47)).alloc (.cells #[.int .i64 id, .int .i64 born, .int .i64 pa, .int .i64 pb, .int .i64 1, .slice (some ⟨w1.heap.size, 0, none⟩) 1 1] 24)) (w1.heap.size + 1) ⟨id, born, pa, pb, 1, [(s, q1)]⟩ (some ⟨w1.heap.size, 0, none⟩) 1 1) := by
      have := Has6.new (w1.alloc (.cells #[.int .i64 s, .int .i64 q1] 47)) ⟨id, born, pa, pb, 1, [(s, q1)]⟩ (some ⟨w1.heap.size, 0, none⟩) 1 1 24
      rw [World.size_alloc] at this
      exact this
    have BW : Hid (Below w1.heap.size w1 ((w1.alloc (.cells #[.int .i64 s, .int .i64 q1] 47)).alloc (.cells #[.int .i64 id, .int .i64 born, .int .i64 pa, .int .i64 pb, .int .i64 1, .slice (some ⟨w1.heap.size, 0, none⟩) 1 1] 24))) := (below_box w1 _).alloc (by simp) _
    have hck := passCheck_any ⟨id, born, pa, pb, 1, [(s, q1)]⟩ (some ⟨w1.heap.size, 0, none⟩) 1 1 _ rfl (by unfold maxLen; omega) R1.out
    rw [HC.out] at hck
    refine hck.mono ?_
    rintro e w2 ⟨rfl, hb⟩
    have B21 : Hid (Below w1.heap.size w1 w2) := below_on BW.out (Nat.le_refl _) hb
    have Z2 : Hid (Z6 w2 (w.heap.size + 1)) := Z1.out.below B21.out
    have B2 : Hid (Below w.heap.size w w2) := below_on B1.out (Nat.le_refl _) B21.out
    have R2 : Hid (Row2 w2 (some ⟨w1.heap.size, 0, none⟩) [(s, q1)]) := R1.out.below hb
    have H2 : Hid (Has6 w2 (w1.heap.size + 1) ⟨id, born, pa, pb, 1, [(s, q1)]⟩ (some ⟨w1.heap.size, 0, none⟩) 1 1) := H1.out.below hb
    clear hb hck
    obtain ⟨-, z0, z1, z2, z3, z4, z5, g⟩ := Z2.out
    have g0 := g 0
    have g1 := g 1
    have g2 := g 2
    have g3 := g 3
    have g4 := g 4
    have g5 := g 5
    clear g
    by_cases c0 : c = 0
    · subst c0
      have HE : Hid (Pz.new id born pa pb s u n = (⟨id, born, pa, pb, 1, [(s, q1)]⟩, 0)) := by
        show _ = _
        unfold Pz.new
        rw [HQ.out.2, if_pos rfl, HQ.out.1, if_pos HC.out]
      have hlt1 : w.heap.size + 1 ≠ w1.heap.size := by have := Z1.out.lt; omega
      obtain ⟨-, e0, e1, e2, e3, e4, e5⟩ := H2.out
      simp only at e0 e1 e2 e3 e4 e5
      go_wp2
      refine bodyPost_ret (v := .tuple #[pv ⟨id, born, pa, pb, 1, [(s, q1)]⟩ (some ⟨w1.heap.size, 0, none⟩) 1 1, .int .i64 0]) (by simp [results, Tryd.results12, go_sem, *]) rfl ?_
      rw [HE.out]
      exact ⟨_, 1, 1, rfl, rfl, Nat.le_refl _, by omega, (fun h => by cases h), six_row R2.out (fun b off e => by cases e; exact fun e => hlt1 e.symm) _ _ _ _ _ _, six_below B2.out (by omega) _ _ _ _ _ _⟩
    · have HE : Hid (Pz.new id born pa pb s u n = (Pz.zero, c)) := by
        show _ = _
        unfold Pz.new
        rw [HQ.out.2, if_pos rfl, HQ.out.1, HC.out, if_neg c0]
      have c1 : (c != 0) = true := by simpa using c0
      clear c0
      go_wp2
      exact bodyPost_ret (v := .tuple #[.agg #[.int .i64 0, .int .i64 0, .int .i64 0, .int .i64 0, .int .i64 0, .slice none 0 0], .int .i64 c]) (by simp [results, Tryd.results12, go_sem, *]) rfl (nzPost.bad HE.out (six_below B2.out (by omega) _ _ _ _ _ _))
  · have HE : Hid (Pz.new id born pa pb s u n = (Pz.zero, q2)) := by
      show _ = _
      unfold Pz.new
      rw [HQ.out.2, if_neg h2]
    have h21 : (q2 != 0) = true := by simpa using h2
    clear h2
    go_enter Tryd.func12, Tryd.ntmps12
    go_wp2_with fail
    refine (HN.out _).mono ?_
    rintro e w1 ⟨rfl, hb⟩
    have Z1 : Hid (Z6 w1 (w.heap.size + 1)) := HZ.out.below hb
    have B1 : Hid (Below w.heap.size w w1) := below_on HB0.out (Nat.le_refl _) hb
    obtain ⟨-, z0, z1, z2, z3, z4, z5, g⟩ := Z1.out
    have g0 := g 0
    have g1 := g 1
    have g2 := g 2
    have g3 := g 3
    have g4 := g 4
    have g5 := g 5
    clear hb g
    go_wp2
    exact bodyPost_ret (v := .tuple #[.agg #[.int .i64 0, .int .i64 0, .int .i64 0, .int .i64 0, .int .i64 0, .slice none 0 0], .int .i64 q2]) (by simp [results, Tryd.results12, go_sem, *]) rfl (nzPost.bad HE.out (six_below B1.out (by omega) _ _ _ _ _ _))
end Go.Proofs.YtandlmnbnjkklaaDoor
