/- The walk of PersonTells. -/
import Derived.Test.YtfncfbbkkpdhkaaDoorPnBeg
namespace Go.Proofs.YtfncfbbkkpdhkaaDoor
open Go.RowKit Go.BigFrame

/-- a span's box -/
def P2 (w : World) (b : Nat) (x y : Int) : Prop := b < w.heap.size ∧ w.cell? ⟨b, 0, none⟩ = some (.int .i64 x) ∧ w.cell? ⟨b, 1, none⟩ = some (.int .i64 y)
theorem P2.new (w : World) (x y : Int) (t : Nat) : P2 (w.alloc (.cells #[.int .i64 x, .int .i64 y] t)) w.heap.size x y := ⟨by simp, by simp, by simp⟩
theorem P2.below {w w' : World} {b : Nat} {x y : Int} (h : P2 w b x y) (hb : Below w.heap.size w w') : P2 w' b x y := ⟨Nat.lt_of_lt_of_le h.1 hb.size, ((bcell hb).1 b 0 h.1).trans h.2.1, ((bcell hb).1 b 1 h.1).trans h.2.2⟩
set_option maxRecDepth 100000 in
set_option maxHeartbeats 4000000 in
theorem personTells_any (born age n f t p : Int) (l : List Prs.Kl) (a : Option Addr) (cap : Nat) (w : World) (hw : Laid w) (hl : l.length ≤ maxLen) (hr : RowK w a l) :
    Calls Tryd.prog 3 #[.int .i64 born, .int .i64 age, .int .i64 n, .agg #[.int .i64 f, .int .i64 t, .int .i64 p], .slice a l.length cap] w fun e w' => e = .returned (.bool true) ∧ Below w.heap.size w w' := by
  obtain ⟨x, e1, h1⟩ := Prs.age_ex born n
  obtain ⟨q, e2, h2⟩ := Prs.pct_ex born l n
  obtain ⟨tv, h3⟩ : ∃ v, Prs.turnsV born age = v := ⟨_, rfl⟩
  obtain ⟨te, h4⟩ : ∃ v, Prs.turnsE born age = v := ⟨_, rfl⟩
  obtain ⟨wf, h5⟩ : ∃ v, Prs.winF born ⟨f, t, p⟩ = v := ⟨_, rfl⟩
  obtain ⟨wt, h6⟩ : ∃ v, Prs.winT born ⟨f, t, p⟩ = v := ⟨_, rfl⟩
  obtain ⟨we, h7⟩ : ∃ v, Prs.winE born ⟨f, t, p⟩ = v := ⟨_, rfl⟩
  have H1 : Hid (Prs.AgeAns born n x e1) := h1
  have H2 : Hid (Prs.PctAns born l n q e2) := h2
  have H3 : Hid (Prs.turnsV born age = tv ∧ Prs.turnsE born age = te) := ⟨h3, h4⟩
  have H5 : Hid (Prs.winF born ⟨f, t, p⟩ = wf ∧ Prs.winT born ⟨f, t, p⟩ = wt ∧ Prs.winE born ⟨f, t, p⟩ = we) := ⟨h5, h6, h7⟩
  have HL : Hid (l.length ≤ maxLen) := hl
  have B0 : Hid (Below w.heap.size w (w.alloc (.cells #[.int .i64 f, .int .i64 t, .int .i64 p] 23))) := below_box w _
  have LY : Hid (Laid (w.alloc (.cells #[.int .i64 f, .int .i64 t, .int .i64 p] 23))) := hw.below B0.out
  have R : Hid (RowK (w.alloc (.cells #[.int .i64 f, .int .i64 t, .int .i64 p] 23)) a l) := hr.below B0.out
  have PB : Hid (Has3 (w.alloc (.cells #[.int .i64 f, .int .i64 t, .int .i64 p] 23)) w.heap.size f t p) := Has3.new w f t p 23
  clear h1 h2 h3 h4 h5 h6 h7 hw hl hr
  go_enter Tryd.func3, Tryd.ntmps3
  go_wp2_with fail
  refine (pAge_any born n x e1 _ LY.out H1.out).mono ?_
  rintro e w1 ⟨rfl, hb⟩
  have B1 : Hid (Below w.heap.size w w1) := below_on B0.out (Nat.le_refl _) hb
  have LY : Hid (Laid w1) := LY.out.below hb
  have R : Hid (RowK w1 a l) := R.out.below hb
  have PB : Hid (Has3 w1 w.heap.size f t p) := PB.out.below hb
  clear hb
  go_wp2_with fail
  refine (pTurns_at born age tv te _ LY.out H3.out.1 H3.out.2).mono ?_
  rintro e w2 ⟨rfl, hb⟩
  have B2 : Hid (Below w.heap.size w w2) := below_on B1.out (Nat.le_refl _) hb
  have LY : Hid (Laid w2) := LY.out.below hb
  have R : Hid (RowK w2 a l) := R.out.below hb
  have PB : Hid (Has3 w2 w.heap.size f t p) := PB.out.below hb
  clear hb
  have k0 := PB.out.2.1
  have k1 := PB.out.2.2.1
  have k2 := PB.out.2.2.2
  go_wp2_with fail
  refine (pWindow_at born f t p wf wt we _ LY.out H5.out.1 H5.out.2.1 H5.out.2.2).mono ?_
  rintro e w3 ⟨rfl, hb⟩
  have B3 : Hid (Below w.heap.size w w3) := below_on B2.out (Nat.le_refl _) hb
  have LY : Hid (Laid w3) := LY.out.below hb
  have R : Hid (RowK w3 a l) := R.out.below hb
  have PB : Hid (Has3 w3 w.heap.size f t p) := PB.out.below hb
  clear hb
  clear k0 k1 k2
  have KB : Hid (Below w3.heap.size w3 (w3.alloc (.cells #[.int .i64 wf, .int .i64 wt] 29))) := below_box w3 _
  have B3 : Hid (Below w.heap.size w (w3.alloc (.cells #[.int .i64 wf, .int .i64 wt] 29))) := below_next B3.out (Nat.le_refl _) KB.out
  have LY : Hid (Laid (w3.alloc (.cells #[.int .i64 wf, .int .i64 wt] 29))) := LY.out.below KB.out
  have R : Hid (RowK (w3.alloc (.cells #[.int .i64 wf, .int .i64 wt] 29)) a l) := R.out.below KB.out
  have PB : Hid (Has3 (w3.alloc (.cells #[.int .i64 wf, .int .i64 wt] 29)) w.heap.size f t p) := PB.out.below KB.out
  have S1 : Hid (P2 (w3.alloc (.cells #[.int .i64 wf, .int .i64 wt] 29)) w3.heap.size wf wt) := P2.new w3 wf wt 29
  clear KB
  go_wp2_with fail
  refine (pPercent_any born l a cap n q e2 _ LY.out HL.out R.out H2.out).mono ?_
  rintro e w4 ⟨rfl, hb⟩
  have B4 : Hid (Below w.heap.size w w4) := below_on B3.out (Nat.le_refl _) hb
  have LY : Hid (Laid w4) := LY.out.below hb
  have R : Hid (RowK w4 a l) := R.out.below hb
  have PB : Hid (Has3 w4 w.heap.size f t p) := PB.out.below hb
  have S1 : Hid (P2 w4 w3.heap.size wf wt) := S1.out.below hb
  clear hb
  go_wp2_with fail
  refine (ageOf_any born n x e1 _ H1.out).mono ?_
  rintro e w5 ⟨rfl, hb⟩
  have B5 : Hid (Below w.heap.size w w5) := below_on B4.out (Nat.le_refl _) hb
  have LY : Hid (Laid w5) := LY.out.below hb
  have R : Hid (RowK w5 a l) := R.out.below hb
  have PB : Hid (Has3 w5 w.heap.size f t p) := PB.out.below hb
  have S1 : Hid (P2 w5 w3.heap.size wf wt) := S1.out.below hb
  clear hb
  go_wp2_with fail
  refine (turnsOf_at born age tv te _ H3.out.1 H3.out.2).mono ?_
  rintro e w6 ⟨rfl, hb⟩
  have B6 : Hid (Below w.heap.size w w6) := below_on B5.out (Nat.le_refl _) hb
  have LY : Hid (Laid w6) := LY.out.below hb
  have R : Hid (RowK w6 a l) := R.out.below hb
  have PB : Hid (Has3 w6 w.heap.size f t p) := PB.out.below hb
  have S1 : Hid (P2 w6 w3.heap.size wf wt) := S1.out.below hb
  clear hb
  have k0 := PB.out.2.1
  have k1 := PB.out.2.2.1
  have k2 := PB.out.2.2.2
  go_wp2_with fail
  refine (windowOf_at born f t p wf wt we _ H5.out.1 H5.out.2.1 H5.out.2.2).mono ?_
  rintro e w7 ⟨rfl, hb⟩
  have B7 : Hid (Below w.heap.size w w7) := below_on B6.out (Nat.le_refl _) hb
  have LY : Hid (Laid w7) := LY.out.below hb
  have R : Hid (RowK w7 a l) := R.out.below hb
  have PB : Hid (Has3 w7 w.heap.size f t p) := PB.out.below hb
  have S1 : Hid (P2 w7 w3.heap.size wf wt) := S1.out.below hb
  clear hb
  clear k0 k1 k2
  have KB : Hid (Below w7.heap.size w7 (w7.alloc (.cells #[.int .i64 wf, .int .i64 wt] 29))) := below_box w7 _
  have B7 : Hid (Below w.heap.size w (w7.alloc (.cells #[.int .i64 wf, .int .i64 wt] 29))) := below_next B7.out (Nat.le_refl _) KB.out
  have LY : Hid (Laid (w7.alloc (.cells #[.int .i64 wf, .int .i64 wt] 29))) := LY.out.below KB.out
  have R : Hid (RowK (w7.alloc (.cells #[.int .i64 wf, .int .i64 wt] 29)) a l) := R.out.below KB.out
  have PB : Hid (Has3 (w7.alloc (.cells #[.int .i64 wf, .int .i64 wt] 29)) w.heap.size f t p) := PB.out.below KB.out
  have S1 : Hid (P2 (w7.alloc (.cells #[.int .i64 wf, .int .i64 wt] 29)) w3.heap.size wf wt) := S1.out.below KB.out
  have S2 : Hid (P2 (w7.alloc (.cells #[.int .i64 wf, .int .i64 wt] 29)) w7.heap.size wf wt) := P2.new w7 wf wt 29
  clear KB
  go_wp2_with fail
  refine (percentOf_any born l a cap n q e2 _ HL.out R.out H2.out).mono ?_
  rintro e w8 ⟨rfl, hb⟩
  have B8 : Hid (Below w.heap.size w w8) := below_on B7.out (Nat.le_refl _) hb
  have LY : Hid (Laid w8) := LY.out.below hb
  have R : Hid (RowK w8 a l) := R.out.below hb
  have PB : Hid (Has3 w8 w.heap.size f t p) := PB.out.below hb
  have S1 : Hid (P2 w8 w3.heap.size wf wt) := S1.out.below hb
  have S2 : Hid (P2 w8 w7.heap.size wf wt) := S2.out.below hb
  clear hb
  go_wp2_with fail
  refine (pbegun_any _ LY.out).mono ?_
  rintro e w9 ⟨rfl, hb⟩
  have B9 : Hid (Below w.heap.size w w9) := below_on B8.out (Nat.le_refl _) hb
  have LY : Hid (Laid w9) := LY.out.below hb
  have R : Hid (RowK w9 a l) := R.out.below hb
  have PB : Hid (Has3 w9 w.heap.size f t p) := PB.out.below hb
  have S1 : Hid (P2 w9 w3.heap.size wf wt) := S1.out.below hb
  have S2 : Hid (P2 w9 w7.heap.size wf wt) := S2.out.below hb
  clear hb
  have k0 := S1.out.2.1
  have k1 := S1.out.2.2
  have k2 := S2.out.2.1
  have k3 := S2.out.2.2
  go_wp2
  go_ret
  exact ⟨rfl, B9.out⟩
end Go.Proofs.YtfncfbbkkpdhkaaDoor
