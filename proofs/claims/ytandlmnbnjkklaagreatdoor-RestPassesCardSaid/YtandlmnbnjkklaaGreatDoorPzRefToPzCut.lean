/- The document's words on passes: a pass in memory; are two the same; the look over a pass. The document's words on passes, further: one pass is itself; the end of its days; a new one. The document's words on passes, further: one replaced; has a pass a day. The document's words on passes, further: one cut. -/
import Derived.Test.YtandlmnbnjkklaaGreatDoorPz
import Derived.BigQuiet
import Derived.Lib.QuietBelow
import Derived.Deep.QuietTactic
import Derived.Deep.OwnRows
namespace Go.Proofs.YtandlmnbnjkklaaGreatDoor
open Go.RowKit Go.BigFrame

/-- a pass as a value -/
abbrev pv (p : Pz.Pq) (a : Option Addr) (n c : Nat) : Value := .agg #[.int .i64 p.id, .int .i64 p.born, .int .i64 p.a, .int .i64 p.b, .int .i64 p.ser, .slice a n c]
/-- a pass's box -/
structure Has6 (w : World) (b : Nat) (p : Pz.Pq) (a : Option Addr) (n c : Nat) : Prop where
  lt : b < w.heap.size
  c0 : w.cell? ⟨b, 0, none⟩ = some (.int .i64 p.id)
  c1 : w.cell? ⟨b, 1, none⟩ = some (.int .i64 p.born)
  c2 : w.cell? ⟨b, 2, none⟩ = some (.int .i64 p.a)
  c3 : w.cell? ⟨b, 3, none⟩ = some (.int .i64 p.b)
  c4 : w.cell? ⟨b, 4, none⟩ = some (.int .i64 p.ser)
  c5 : w.cell? ⟨b, 5, none⟩ = some (.slice a n c)
theorem Has6.new (w : World) (p : Pz.Pq) (a : Option Addr) (n c : Nat) (t : TypeId) : Has6 (w.alloc (.cells #[.int .i64 p.id, .int .i64 p.born, .int .i64 p.a, .int .i64 p.b, .int .i64 p.ser, .slice a n c] t)) w.heap.size p a n c :=
  ⟨by simp, by simp, by simp, by simp, by simp, by simp, by simp⟩
theorem Has6.below {w w' : World} {b : Nat} {p : Pz.Pq} {a : Option Addr} {n c : Nat} (h : Has6 w b p a n c) (hb : Below w.heap.size w w') : Has6 w' b p a n c := by
  obtain ⟨k, _⟩ := bcell hb
  exact ⟨Nat.lt_of_lt_of_le h.lt hb.size, (k _ _ h.lt).trans h.c0, (k _ _ h.lt).trans h.c1, (k _ _ h.lt).trans h.c2, (k _ _ h.lt).trans h.c3, (k _ _ h.lt).trans h.c4, (k _ _ h.lt).trans h.c5⟩
end Go.Proofs.YtandlmnbnjkklaaGreatDoor
namespace Go.Proofs.YtandlmnbnjkklaaGreatDoor
open Go.RowKit Go.BigFrame

set_option maxRecDepth 100000 in
set_option maxHeartbeats 2000000 in
theorem samePass_eq (p : Pz.Pq) (a a' : Option Addr) (N c c' : Nat) (w : World) (hN : p.days.length = N) (hl : N ≤ maxLen) (hr : Row2 w a p.days) (hr' : Row2 w a' p.days) :
    Calls Tryz.prog 15 #[pv p a N c, pv p a' N c'] w fun e w' => e = .returned (.bool true) ∧ Below w.heap.size w w' := by
  obtain ⟨id, born, pa, pb, ser, l⟩ := p
  simp only at hN hr hr' ⊢
  have HB : Hid (Below w.heap.size w ((w.alloc (.cells #[.int .i64 id, .int .i64 born, .int .i64 pa, .int .i64 pb, .int .i64 ser, .slice a N c] 24)).alloc (.cells #[.int .i64 id, .int .i64 born, .int .i64 pa, .int .i64 pb, .int .i64 ser, .slice a' N c'] 24))) := (below_box w _).alloc (by simp) _
  have hss := same_below l l true a a' c c' _ (by rw [hN]; exact hl) (by rw [hN]; exact hl) (decide_eq_true rfl) (hr.below HB.out) (hr'.below HB.out)
  rw [hN] at hss
  clear hr hr' hN
  go_enter Tryz.func15, Tryz.ntmps15
  go_wp2_with fail
  refine hss.mono ?_
  rintro e w2 ⟨rfl, hb⟩
  have HB2 : Hid (Below w.heap.size w w2) := below_on HB.out (Nat.le_refl _) hb
  clear hb hss
  go_wp2
  go_ret
  exact ⟨rfl, HB2.out⟩
/-- a pass that is answered -/
def nzPost (w : World) (r : Pz.Pq × Int) (e : Ending) (w' : World) : Prop := ∃ a n c, e = .returned (.tuple #[pv r.1 a n c, .int .i64 r.2]) ∧ r.1.days.length = n ∧ n ≤ c ∧ n ≤ 64 ∧ (a = none → c = 0 ∧ r.1.days = []) ∧ Row2 w' a r.1.days ∧ Below w.heap.size w w'
theorem nzPost.bad {w w' : World} {r : Pz.Pq × Int} {c : Int} (h : r = (Pz.zero, c)) (hb : Below w.heap.size w w') : nzPost w r (.returned (.tuple #[.agg #[.int .i64 0, .int .i64 0, .int .i64 0, .int .i64 0, .int .i64 0, .slice none 0 0], .int .i64 c])) w' := by
  subst h
  exact ⟨none, 0, 0, rfl, rfl, Nat.le_refl _, by omega, fun _ => ⟨rfl, rfl⟩, .inl rfl, hb⟩
/-- .. with a number of days -/
def rzPost (w : World) (r : Pz.Pq × Int × Int) (e : Ending) (w' : World) : Prop := ∃ a n c, e = .returned (.tuple #[pv r.1 a n c, .int .i64 r.2.1, .int .i64 r.2.2]) ∧ r.1.days.length = n ∧ n ≤ c ∧ n ≤ 64 ∧ (a = none → c = 0 ∧ r.1.days = []) ∧ Row2 w' a r.1.days ∧ Below w.heap.size w w'
theorem rzPost.bad {w w' : World} {r : Pz.Pq × Int × Int} {c : Int} (h : r = (Pz.zero, 0, c)) (hb : Below w.heap.size w w') : rzPost w r (.returned (.tuple #[.agg #[.int .i64 0, .int .i64 0, .int .i64 0, .int .i64 0, .int .i64 0, .slice none 0 0], .int .i64 0, .int .i64 c])) w' := by
  subst h
  exact ⟨none, 0, 0, rfl, rfl, Nat.le_refl _, by omega, fun _ => ⟨rfl, rfl⟩, .inl rfl, hb⟩
/-- an answer's box, not yet written -/
structure Z6 (W : World) (r : Nat) : Prop where
  lt : r < W.heap.size
  z0 : W.cell? ⟨r, 0, none⟩ = some (.int .i64 0)
  z1 : W.cell? ⟨r, 1, none⟩ = some (.int .i64 0)
  z2 : W.cell? ⟨r, 2, none⟩ = some (.int .i64 0)
  z3 : W.cell? ⟨r, 3, none⟩ = some (.int .i64 0)
  z4 : W.cell? ⟨r, 4, none⟩ = some (.int .i64 0)
  z5 : W.cell? ⟨r, 5, none⟩ = some (.slice none 0 0)
  g : ∀ i, W.frozen? ⟨r, i, none⟩ = false
theorem Z6.new (w : World) (t : TypeId) : Z6 (w.alloc (.cells #[.int .i64 0, .int .i64 0, .int .i64 0, .int .i64 0, .int .i64 0, .slice none 0 0] t)) w.heap.size :=
  ⟨by simp, by simp, by simp, by simp, by simp, by simp, by simp, fun i => by simp⟩
theorem Z6.below {w w' : World} {r : Nat} (h : Z6 w r) (hb : Below w.heap.size w w') : Z6 w' r := by
  obtain ⟨k, f⟩ := bcell hb
  exact ⟨Nat.lt_of_lt_of_le h.lt hb.size, (k _ _ h.lt).trans h.z0, (k _ _ h.lt).trans h.z1, (k _ _ h.lt).trans h.z2, (k _ _ h.lt).trans h.z3, (k _ _ h.lt).trans h.z4, (k _ _ h.lt).trans h.z5, fun i => (f _ _ h.lt).trans (h.g i)⟩
/-- .. written -/
abbrev six (W : World) (r : Nat) (v0 v1 v2 v3 v4 v5 : Value) : World := (((((W.setCell ⟨r, 0, none⟩ v0).setCell ⟨r, 1, none⟩ v1).setCell ⟨r, 2, none⟩ v2).setCell ⟨r, 3, none⟩ v3).setCell ⟨r, 4, none⟩ v4).setCell ⟨r, 5, none⟩ v5
theorem six_below {w W : World} {r : Nat} (h : Below w.heap.size w W) (hr : w.heap.size ≤ r) (v0 v1 v2 v3 v4 v5 : Value) : Below w.heap.size w (six W r v0 v1 v2 v3 v4 v5) :=
  (((((h.setCell (p := ⟨r, 0, none⟩) hr _).setCell (p := ⟨r, 1, none⟩) hr _).setCell (p := ⟨r, 2, none⟩) hr _).setCell (p := ⟨r, 3, none⟩) hr _).setCell (p := ⟨r, 4, none⟩) hr _).setCell (p := ⟨r, 5, none⟩) hr _
theorem Row2.apart {W : World} {a : Option Addr} {l : List Spn.Sp} (h : Row2 W a l) {p : Addr} (hp : ∀ b off, a = some ⟨b, off, none⟩ → b ≠ p.block) (v : Value) : Row2 (W.setCell p v) a l := by
  rcases h with h | ⟨b, off, rfl, hlt, hc⟩
  · exact .inl h
  · have hne : p.block ≠ b := fun e => hp b off rfl e.symm
    exact .inr ⟨b, off, rfl, by rw [Deep.nblk_setCell]; exact hlt, fun i hi => ⟨(World.cell?_setCell_far _ _ _ _ hne).trans (hc i hi).1, (World.cell?_setCell_far _ _ _ _ hne).trans (hc i hi).2⟩⟩
theorem six_row {W : World} {r : Nat} {a : Option Addr} {l : List Spn.Sp} (h : Row2 W a l) (hp : ∀ b off, a = some ⟨b, off, none⟩ → b ≠ r) (v0 v1 v2 v3 v4 v5 : Value) : Row2 (six W r v0 v1 v2 v3 v4 v5) a l :=
  (((((h.apart (p := ⟨r, 0, none⟩) hp _).apart (p := ⟨r, 1, none⟩) hp _).apart (p := ⟨r, 2, none⟩) hp _).apart (p := ⟨r, 3, none⟩) hp _).apart (p := ⟨r, 4, none⟩) hp _).apart (p := ⟨r, 5, none⟩) hp _
end Go.Proofs.YtandlmnbnjkklaaGreatDoor
namespace Go.Proofs.YtandlmnbnjkklaaGreatDoor
open Go.RowKit Go.BigFrame

theorem Z6.new2 (w : World) (p : Pz.Pq) (a : Option Addr) (N c : Nat) : Z6 ((w.alloc (.cells #[.int .i64 p.id, .int .i64 p.born, .int .i64 p.a, .int .i64 p.b, .int .i64 p.ser, .slice a N c] 24)).alloc (.cells #[.int .i64 0, .int .i64 0, .int .i64 0, .int .i64 0, .int .i64 0, .slice none 0 0] 24)) (w.heap.size + 1) := by
  have := Z6.new (w.alloc (.cells #[.int .i64 p.id, .int .i64 p.born, .int .i64 p.a, .int .i64 p.b, .int .i64 p.ser, .slice a N c] 24)) 24
  rwa [World.size_alloc] at this
/-- a parameter's box and an answer's, side by side -/
structure Two (w W : World) (p : Pz.Pq) (a : Option Addr) (N c : Nat) : Prop where
  b : Below w.heap.size w W
  h : Has6 W w.heap.size p a N c
  z : Z6 W (w.heap.size + 1)
  f : ∀ i, W.frozen? ⟨w.heap.size, i, none⟩ = false
theorem Two.new (w : World) (p : Pz.Pq) (a : Option Addr) (N c : Nat) : Two w ((w.alloc (.cells #[.int .i64 p.id, .int .i64 p.born, .int .i64 p.a, .int .i64 p.b, .int .i64 p.ser, .slice a N c] 24)).alloc (.cells #[.int .i64 0, .int .i64 0, .int .i64 0, .int .i64 0, .int .i64 0, .slice none 0 0] 24)) p a N c :=
  ⟨(below_box w _).alloc (by simp) _, (Has6.new w p a N c _).below (below_box _ _), Z6.new2 w p a N c, fun i => by simp⟩
theorem Two.below {w W W' : World} {p : Pz.Pq} {a : Option Addr} {N c : Nat} (h : Two w W p a N c) (hb : Below W.heap.size W W') : Two w W' p a N c :=
  ⟨below_on h.b (Nat.le_refl _) hb, h.h.below hb, h.z.below hb, fun i => by
    obtain ⟨_, f⟩ := bcell hb
    exact (f _ _ h.h.lt).trans (h.f i)⟩
end Go.Proofs.YtandlmnbnjkklaaGreatDoor
namespace Go.Proofs.YtandlmnbnjkklaaGreatDoor
open Go.RowKit Go.BigFrame

/-- a row that was made isn't touched by a store below it -/
theorem OwnS.aside {W : World} {B : Nat} {v : Value} {xs : List Spn.Sp} (h : OwnS W B v xs) (p : Addr) (hp : p.block < B) (u : Value) : OwnS (W.setCell p u) B v xs := by
  obtain ⟨k1, k2⟩ := h
  refine ⟨k1, ?_⟩
  rcases k2 with k2 | ⟨g, cap', cur, e, hb, hc, hd⟩
  · exact .inl k2
  · exact .inr ⟨g, cap', cur, e, hb, by rw [Deep.blk_setCell_other _ _ _ _ (show g ≠ p.block by omega)]; exact hc, hd⟩
theorem own_slice {W : World} {B n : Nat} {v : Value} {vs : List Value} (h : W.ownsRow B 49 2 v (n + 1) vs) : ∃ g c, v = .slice (some ⟨g, 0, none⟩) (n + 1) c := by
  rcases h.2 with ⟨_, h2⟩ | ⟨g, cap, cur, h1, _⟩
  · omega
  · exact ⟨g, cap, h1⟩
/-- a pass in work: its box, and the days that it has got so far -/
structure CI (w1 wr : World) (g : Nat) (p : Pz.Pq) (v : Value) (xs : List Spn.Sp) : Prop where
  b : Below g w1 wr
  lt : g < wr.heap.size
  c0 : wr.cell? ⟨g, 0, none⟩ = some (.int .i64 p.id)
  c1 : wr.cell? ⟨g, 1, none⟩ = some (.int .i64 p.born)
  c2 : wr.cell? ⟨g, 2, none⟩ = some (.int .i64 p.a)
  c3 : wr.cell? ⟨g, 3, none⟩ = some (.int .i64 p.b)
  c4 : wr.cell? ⟨g, 4, none⟩ = some (.int .i64 p.ser)
  c5 : wr.cell? ⟨g, 5, none⟩ = some v
  f : ∀ i, wr.frozen? ⟨g, i, none⟩ = false
  own : OwnS wr (g + 1) v xs
theorem CI.new (w1 : World) (p : Pz.Pq) : CI w1 (w1.alloc (.cells #[.int .i64 p.id, .int .i64 p.born, .int .i64 p.a, .int .i64 p.b, .int .i64 p.ser, .slice none 0 0] 24)) w1.heap.size p (.slice none 0 0) [] :=
  ⟨below_box _ _, by simp, by simp, by simp, by simp, by simp, by simp, by simp, fun i => by simp, OwnS.nil _ _⟩
theorem CI.on {w1 wr W : World} {g : Nat} {p : Pz.Pq} {v : Value} {xs : List Spn.Sp} (h : CI w1 wr g p v xs) (hg : g ≤ w1.heap.size) (hb : Below wr.heap.size wr W) : CI w1 W g p v xs := by
  obtain ⟨k, f⟩ := bcell hb
  exact ⟨below_on h.b hg hb, Nat.lt_of_lt_of_le h.lt hb.size, (k _ _ h.lt).trans h.c0, (k _ _ h.lt).trans h.c1, (k _ _ h.lt).trans h.c2, (k _ _ h.lt).trans h.c3, (k _ _ h.lt).trans h.c4, (k _ _ h.lt).trans h.c5, fun i => (f _ _ h.lt).trans (h.f i), h.own.still hb⟩
theorem CI.step {w1 wr W w3 : World} {g : Nat} {p : Pz.Pq} {v v' : Value} {xs : List Spn.Sp} {x y : Int} {o : Obj} (h : CI w1 wr g p v xs) (hg : g ≤ w1.heap.size) (hb : Below wr.heap.size wr W)
    (hown' : w3.ownsRow (g + 1) 49 2 v' (xs.length + 1) (flat xs ++ [.int .i64 x, .int .i64 y])) (hgrow : (W.alloc o).grownBy w3 v.ownBlock) :
    CI w1 (w3.setCell ⟨g, 5, none⟩ v') g p v' (xs ++ [(x, y)]) ∧ w3.cell? ⟨g, 5, none⟩ = some v ∧ w3.frozen? ⟨g, 5, none⟩ = false := by
  have hW := h.on hg hb
  obtain ⟨o1, b1⟩ := OwnS.snoc (w := W) (B := g + 1) (by have := hW.lt; omega) hW.own (Below.refl _ _) hown' hgrow
  have k := fun o => b1.cell (p := ⟨g, o, none⟩) (Nat.lt_succ_self g)
  have f := fun o => b1.frozen (p := ⟨g, o, none⟩) (Nat.lt_succ_self g)
  have hne : ∀ i, i ≠ 5 → (⟨g, 5, none⟩ : Addr) ≠ ⟨g, i, none⟩ := fun i hi e => hi (by cases e; rfl)
  have c5 := (k 5).trans hW.c5
  refine ⟨⟨(hW.b.trans (b1.mono (by omega))).setCell (Nat.le_refl _) _, by rw [Deep.nblk_setCell]; exact Nat.lt_of_lt_of_le hW.lt b1.size, ?_, ?_, ?_, ?_, ?_, World.cell?_setCell_same _ _ _ c5, fun i => by rw [World.frozen?_setCell]; exact (f i).trans (hW.f i), o1.aside _ (Nat.lt_succ_self g) _⟩, c5, (f 5).trans (hW.f 5)⟩
  · exact (World.cell?_setCell_other _ _ _ _ (hne 0 (by omega))).trans ((k 0).trans hW.c0)
  · exact (World.cell?_setCell_other _ _ _ _ (hne 1 (by omega))).trans ((k 1).trans hW.c1)
  · exact (World.cell?_setCell_other _ _ _ _ (hne 2 (by omega))).trans ((k 2).trans hW.c2)
  · exact (World.cell?_setCell_other _ _ _ _ (hne 3 (by omega))).trans ((k 3).trans hW.c3)
  · exact (World.cell?_setCell_other _ _ _ _ (hne 4 (by omega))).trans ((k 4).trans hW.c4)
theorem OwnS.parts {w : World} {B : Nat} {v : Value} {xs : List Spn.Sp} (h : OwnS w B v xs) : ∃ a cap, v = .slice a xs.length cap ∧ xs.length ≤ cap ∧ (a = none → cap = 0 ∧ xs = []) ∧ Row2 w a xs ∧ ∀ b off, a = some ⟨b, off, none⟩ → B ≤ b := by
  obtain ⟨a, cap, rfl, hn, hr⟩ := h.row
  refine ⟨a, cap, rfl, ?_, hn, hr, ?_⟩
  · rcases h.2 with ⟨h1, h2⟩ | ⟨g, cap', cur, h1, _, _, h4, _⟩
    · rw [h2]; exact Nat.zero_le _
    · cases h1; exact h4
  · rintro b off rfl
    rcases h.2 with ⟨h1, _⟩ | ⟨g, cap', cur, h1, h2, _⟩
    · cases h1
    · cases h1; exact h2
/-- what the last words of a cut read -/
structure CS (w W : World) (g : Nat) (p : Pz.Pq) (a : Option Addr) (N c : Nat) (va : Option Addr) (vn vc : Nat) (cs : List Spn.Sp) : Prop where
  b : Below w.heap.size w W
  ltg : g < W.heap.size
  ltw : w.heap.size + 1 < W.heap.size
  p5 : W.cell? ⟨w.heap.size, 5, none⟩ = some (.slice a N c)
  q0 : W.cell? ⟨g, 0, none⟩ = some (.int .i64 p.id)
  q1 : W.cell? ⟨g, 1, none⟩ = some (.int .i64 p.born)
  q2 : W.cell? ⟨g, 2, none⟩ = some (.int .i64 p.a)
  q3 : W.cell? ⟨g, 3, none⟩ = some (.int .i64 p.b)
  q4 : W.cell? ⟨g, 4, none⟩ = some (.int .i64 p.ser)
  q5 : W.cell? ⟨g, 5, none⟩ = some (.slice va vn vc)
  z : ∀ i, i < 6 → (W.cell? ⟨w.heap.size + 1, i, none⟩).isSome = true
  f : ∀ i, W.frozen? ⟨w.heap.size + 1, i, none⟩ = false
  rp : Row2 W a p.days
  rq : Row2 W va cs
  ap : p.days = [] ∨ ∀ b off, a = some ⟨b, off, none⟩ → b ≠ w.heap.size + 1
  aq : ∀ b off, va = some ⟨b, off, none⟩ → b ≠ w.heap.size + 1
  ne : g ≠ w.heap.size + 1
theorem CS.on {w W W' : World} {g N c vn vc : Nat} {p : Pz.Pq} {a va : Option Addr} {cs : List Spn.Sp} (h : CS w W g p a N c va vn vc cs) (hb : Below W.heap.size W W') : CS w W' g p a N c va vn vc cs := by
  obtain ⟨k, f⟩ := bcell hb
  have hl : w.heap.size < W.heap.size := Nat.lt_trans (Nat.lt_succ_self _) h.ltw
  exact ⟨below_on h.b (Nat.le_refl _) hb, Nat.lt_of_lt_of_le h.ltg hb.size, Nat.lt_of_lt_of_le h.ltw hb.size, (k _ _ hl).trans h.p5, (k _ _ h.ltg).trans h.q0, (k _ _ h.ltg).trans h.q1, (k _ _ h.ltg).trans h.q2, (k _ _ h.ltg).trans h.q3, (k _ _ h.ltg).trans h.q4, (k _ _ h.ltg).trans h.q5, fun i hi => by rw [k _ _ h.ltw]; exact h.z i hi, fun i => (f _ _ h.ltw).trans (h.f i), h.rp.below hb, h.rq.below hb, h.ap, h.aq, h.ne⟩
theorem CS.drew {w W : World} {g N c vn vc : Nat} {p : Pz.Pq} {a va : Option Addr} {cs : List Spn.Sp} (h : Hid (CS w W g p a N c va vn vc cs)) : Hid (CS w W.drew g p a N c va vn vc cs) := h.out.on (below_drewN (Below.refl _ _) 1)
theorem isSome_set {W : World} {p q : Addr} {v : Value} (h : (W.cell? q).isSome = true) (hp : (W.cell? p).isSome = true) : ((W.setCell p v).cell? q).isSome = true := by
  by_cases e : p = q
  · subst e
    obtain ⟨u, hu⟩ := Option.isSome_iff_exists.1 hp
    rw [World.cell?_setCell_same _ _ _ hu]; rfl
  · rw [World.cell?_setCell_other _ _ _ _ e]; exact h
theorem CS.set {w W : World} {g N c vn vc : Nat} {p : Pz.Pq} {a va : Option Addr} {cs : List Spn.Sp} (h : CS w W g p a N c va vn vc cs) (i : Nat) (hi : i < 6) (v : Value) : CS w (W.setCell ⟨w.heap.size + 1, i, none⟩ v) g p a N c va vn vc cs := by
  have o : ∀ q : Addr, q.block ≠ w.heap.size + 1 → (W.setCell ⟨w.heap.size + 1, i, none⟩ v).cell? q = W.cell? q := fun q hq => World.cell?_setCell_other _ _ _ _ (fun e => hq (by rw [← e]))
  have hs : (W.setCell ⟨w.heap.size + 1, i, none⟩ v).heap.size = W.heap.size := Deep.nblk_setCell _ _ _
  exact ⟨h.b.setCell (show w.heap.size ≤ w.heap.size + 1 by omega) _, by rw [hs]; exact h.ltg, by rw [hs]; exact h.ltw, (o _ (show w.heap.size ≠ _ by omega)).trans h.p5, (o _ h.ne).trans h.q0, (o _ h.ne).trans h.q1, (o _ h.ne).trans h.q2, (o _ h.ne).trans h.q3, (o _ h.ne).trans h.q4, (o _ h.ne).trans h.q5,
    fun j hj => isSome_set (h.z j hj) (h.z i hi), fun j => by rw [World.frozen?_setCell]; exact h.f j, h.ap.elim (fun e => .inl e) (fun q => h.rp.apart q _), h.rq.apart h.aq _, h.ap, h.aq, h.ne⟩
theorem CS.six {w W : World} {g N c vn vc : Nat} {p : Pz.Pq} {a va : Option Addr} {cs : List Spn.Sp} (h : Hid (CS w W g p a N c va vn vc cs)) (v0 v1 v2 v3 v4 v5 : Value) : Hid (CS w (six W (w.heap.size + 1) v0 v1 v2 v3 v4 v5) g p a N c va vn vc cs) :=
  (((((h.out.set 0 (by omega) v0).set 1 (by omega) v1).set 2 (by omega) v2).set 3 (by omega) v3).set 4 (by omega) v4).set 5 (by omega) v5
def cellOr (W : World) (p : Addr) : Value := (W.cell? p).getD undef
theorem cellOr_is {W : World} {p : Addr} (h : (W.cell? p).isSome = true) : W.cell? p = some (cellOr W p) := by
  obtain ⟨u, hu⟩ := Option.isSome_iff_exists.1 h
  unfold cellOr; rw [hu]; rfl
theorem CS.S {w W : World} {g N c vn vc : Nat} {p : Pz.Pq} {a va : Option Addr} {cs : List Spn.Sp} (h : Hid (CS w W g p a N c va vn vc cs)) : W.cell? ⟨w.heap.size, 5, none⟩ = some (.slice a N c) ∧ W.cell? ⟨g, 0, none⟩ = some (.int .i64 p.id) ∧ W.cell? ⟨g, 1, none⟩ = some (.int .i64 p.born) ∧ W.cell? ⟨g, 2, none⟩ = some (.int .i64 p.a) ∧ W.cell? ⟨g, 3, none⟩ = some (.int .i64 p.b) ∧ W.cell? ⟨g, 4, none⟩ = some (.int .i64 p.ser) ∧ W.cell? ⟨g, 5, none⟩ = some (.slice va vn vc) ∧ W.cell? ⟨w.heap.size + 1, 0, none⟩ = some (cellOr W ⟨w.heap.size + 1, 0, none⟩) ∧ W.cell? ⟨w.heap.size + 1, 1, none⟩ = some (cellOr W ⟨w.heap.size + 1, 1, none⟩) ∧ W.cell? ⟨w.heap.size + 1, 2, none⟩ = some (cellOr W ⟨w.heap.size + 1, 2, none⟩) ∧ W.cell? ⟨w.heap.size + 1, 3, none⟩ = some (cellOr W ⟨w.heap.size + 1, 3, none⟩) ∧ W.cell? ⟨w.heap.size + 1, 4, none⟩ = some (cellOr W ⟨w.heap.size + 1, 4, none⟩) ∧ W.cell? ⟨w.heap.size + 1, 5, none⟩ = some (cellOr W ⟨w.heap.size + 1, 5, none⟩) ∧ W.frozen? ⟨w.heap.size + 1, 0, none⟩ = false ∧ W.frozen? ⟨w.heap.size + 1, 1, none⟩ = false ∧ W.frozen? ⟨w.heap.size + 1, 2, none⟩ = false ∧ W.frozen? ⟨w.heap.size + 1, 3, none⟩ = false ∧ W.frozen? ⟨w.heap.size + 1, 4, none⟩ = false ∧ W.frozen? ⟨w.heap.size + 1, 5, none⟩ = false ∧ Hid (CS w W g p a N c va vn vc cs) :=
  ⟨h.out.p5, h.out.q0, h.out.q1, h.out.q2, h.out.q3, h.out.q4, h.out.q5, cellOr_is (h.out.z 0 (by omega)), cellOr_is (h.out.z 1 (by omega)), cellOr_is (h.out.z 2 (by omega)), cellOr_is (h.out.z 3 (by omega)), cellOr_is (h.out.z 4 (by omega)), cellOr_is (h.out.z 5 (by omega)), h.out.f 0, h.out.f 1, h.out.f 2, h.out.f 3, h.out.f 4, h.out.f 5, h⟩
end Go.Proofs.YtandlmnbnjkklaaGreatDoor
