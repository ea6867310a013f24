/- The walk of RestPasses. -/
import Derived.Test.YtandlmnbnjkklaaGreatDoorPzW7ToPzBp
import Derived.Test.YtandlmnbnjkklaaGreatDoorPzBeg
import Derived.Test.YtandlmnbnjkklaaGreatDoorRAd
import Derived.Test.YtandlmnbnjkklaaGreatDoorRSmToLRow
import Derived.Test.YtandlmnbnjkklaaGreatDoorLgBegToLgS5
import Derived.Test.YtandlmnbnjkklaaGreatDoorLgT
namespace Go.Proofs.YtandlmnbnjkklaaGreatDoor
open Go.RowKit Go.BigFrame

/-- the boxes of what was handed in, and of the pass that was copied -/
structure RX (w W : World) (p : Pz.Pq) (pa : Option Addr) (N pc : Nat) (tu tt : Int) (KA KB : Tg.W) (xid : Int) (xa : Option Addr) (xn xc : Nat) (qa : Option Addr) (qn qc : Nat) : Prop where
  lt : w.heap.size + 4 < W.heap.size
  pp : Has6 W w.heap.size p pa N pc
  t0 : W.cell? ⟨w.heap.size + 1, 0, none⟩ = some (.int .i64 tu)
  t1 : W.cell? ⟨w.heap.size + 1, 1, none⟩ = some (.int .i64 tt)
  k0 : W.cell? ⟨w.heap.size + 2, 0, none⟩ = some (.int .u64 (wd KA))
  k1 : W.cell? ⟨w.heap.size + 2, 1, none⟩ = some (.int .u64 (wd KB))
  x0 : W.cell? ⟨w.heap.size + 3, 0, none⟩ = some (.int .i64 xid)
  x1 : W.cell? ⟨w.heap.size + 3, 1, none⟩ = some (.slice xa xn xc)
  q : Has6 W (w.heap.size + 4) p qa qn qc
  f : W.frozen? ⟨w.heap.size + 4, 5, none⟩ = false
theorem RX.keep {w W W' : World} {p : Pz.Pq} {pa : Option Addr} {N pc : Nat} {tu tt : Int} {KA KB : Tg.W} {xid : Int} {xa : Option Addr} {xn xc : Nat} {qa : Option Addr} {qn qc : Nat} (h : RX w W p pa N pc tu tt KA KB xid xa xn xc qa qn qc) (hs : W.heap.size ≤ W'.heap.size) (hk : ∀ b, b < w.heap.size + 5 → W'.heap[b]? = W.heap[b]?) : RX w W' p pa N pc tu tt KA KB xid xa xn xc qa qn qc := by
  have c : ∀ b i, b < w.heap.size + 5 → W'.cell? ⟨b, i, none⟩ = W.cell? ⟨b, i, none⟩ := fun b i hb => World.cell?_of_block (a := ⟨b, i, none⟩) (hk b hb)
  have l0 := h.lt
  exact ⟨Nat.lt_of_lt_of_le l0 hs, ⟨by omega, (c _ _ (by omega)).trans h.pp.c0, (c _ _ (by omega)).trans h.pp.c1, (c _ _ (by omega)).trans h.pp.c2, (c _ _ (by omega)).trans h.pp.c3, (c _ _ (by omega)).trans h.pp.c4, (c _ _ (by omega)).trans h.pp.c5⟩,
    (c _ _ (by omega)).trans h.t0, (c _ _ (by omega)).trans h.t1, (c _ _ (by omega)).trans h.k0, (c _ _ (by omega)).trans h.k1, (c _ _ (by omega)).trans h.x0, (c _ _ (by omega)).trans h.x1,
    ⟨by omega, (c _ _ (by omega)).trans h.q.c0, (c _ _ (by omega)).trans h.q.c1, (c _ _ (by omega)).trans h.q.c2, (c _ _ (by omega)).trans h.q.c3, (c _ _ (by omega)).trans h.q.c4, (c _ _ (by omega)).trans h.q.c5⟩, (World.frozen?_of_block (a := ⟨w.heap.size + 4, 5, none⟩) (hk _ (by show w.heap.size + 4 < _; omega))).trans h.f⟩
theorem RX.below {w W W' : World} {p : Pz.Pq} {pa : Option Addr} {N pc : Nat} {tu tt : Int} {KA KB : Tg.W} {xid : Int} {xa : Option Addr} {xn xc : Nat} {qa : Option Addr} {qn qc : Nat} (h : RX w W p pa N pc tu tt KA KB xid xa xn xc qa qn qc) (hb : Below W.heap.size W W') : RX w W' p pa N pc tu tt KA KB xid xa xn xc qa qn qc :=
  h.keep hb.size (fun b hl => hb.block b (by have := h.lt; omega))
theorem two_new (W : World) (a b : Value) (t : TypeId) : (W.alloc (.cells #[a, b] t)).cell? ⟨W.heap.size, 0, none⟩ = some a ∧ (W.alloc (.cells #[a, b] t)).cell? ⟨W.heap.size, 1, none⟩ = some b := ⟨by simp, by simp⟩
theorem froz_new (W : World) (cs : Array Value) (t : TypeId) (i : Nat) : (W.alloc (.cells cs t)).frozen? ⟨W.heap.size, i, none⟩ = false := by simp
theorem RX.new (w : World) (id born pA pB ser : Int) (days : List Spn.Sp) (pa : Option Addr) (N pc : Nat) (tu tt : Int) (KA KB : Tg.W) (xid : Int) (xa : Option Addr) (xn xc : Nat) : RX w (((((w.alloc (.cells #[.int .i64 id, .int .i64 born, .int .i64 pA, .int .i64 pB, .int .i64 ser, .slice pa N pc] 24)).alloc (.cells #[.int .i64 tu, .int .i64 tt] 26)).alloc (.cells #[.int .u64 (wd KA), .int .u64 (wd KB)] 30)).alloc (.cells #[.int .i64 xid, .slice xa xn xc] 34)).alloc (.cells #[.int .i64 id, .int .i64 born, .int .i64 pA, .int .i64 pB, .int .i64 ser, .slice pa N pc] 24)) ⟨id, born, pA, pB, ser, days⟩ pa N pc tu tt KA KB xid xa xn xc pa N pc := by
  have hb1 := below_box (w.alloc (.cells #[.int .i64 id, .int .i64 born, .int .i64 pA, .int .i64 pB, .int .i64 ser, .slice pa N pc] 24)) (.cells #[.int .i64 tu, .int .i64 tt] 26)
  have hb2 := hb1.alloc (by simp) (.cells #[.int .u64 (wd KA), .int .u64 (wd KB)] 30)
  have hb3 := hb2.alloc (by simp <;> omega) (.cells #[.int .i64 xid, .slice xa xn xc] 34)
  have hb4 := hb3.alloc (by simp <;> omega) (.cells #[.int .i64 id, .int .i64 born, .int .i64 pA, .int .i64 pB, .int .i64 ser, .slice pa N pc] 24)
  have hc2 := (below_box ((w.alloc (.cells #[.int .i64 id, .int .i64 born, .int .i64 pA, .int .i64 pB, .int .i64 ser, .slice pa N pc] 24)).alloc (.cells #[.int .i64 tu, .int .i64 tt] 26)) (.cells #[.int .u64 (wd KA), .int .u64 (wd KB)] 30)).alloc (by simp) (.cells #[.int .i64 xid, .slice xa xn xc] 34)
  have hc3 := hc2.alloc (by simp <;> omega) (.cells #[.int .i64 id, .int .i64 born, .int .i64 pA, .int .i64 pB, .int .i64 ser, .slice pa N pc] 24)
  have hd3 := (below_box (((w.alloc (.cells #[.int .i64 id, .int .i64 born, .int .i64 pA, .int .i64 pB, .int .i64 ser, .slice pa N pc] 24)).alloc (.cells #[.int .i64 tu, .int .i64 tt] 26)).alloc (.cells #[.int .u64 (wd KA), .int .u64 (wd KB)] 30)) (.cells #[.int .i64 xid, .slice xa xn xc] 34)).alloc (by simp) (.cells #[.int .i64 id, .int .i64 born, .int .i64 pA, .int .i64 pB, .int .i64 ser, .slice pa N pc] 24)
  have he3 := below_box ((((w.alloc (.cells #[.int .i64 id, .int .i64 born, .int .i64 pA, .int .i64 pB, .int .i64 ser, .slice pa N pc] 24)).alloc (.cells #[.int .i64 tu, .int .i64 tt] 26)).alloc (.cells #[.int .u64 (wd KA), .int .u64 (wd KB)] 30)).alloc (.cells #[.int .i64 xid, .slice xa xn xc] 34)) (.cells #[.int .i64 id, .int .i64 born, .int .i64 pA, .int .i64 pB, .int .i64 ser, .slice pa N pc] 24)
  have s1 : (w.alloc (.cells #[.int .i64 id, .int .i64 born, .int .i64 pA, .int .i64 pB, .int .i64 ser, .slice pa N pc] 24)).heap.size = w.heap.size + 1 := by simp
  have s2 : ((w.alloc (.cells #[.int .i64 id, .int .i64 born, .int .i64 pA, .int .i64 pB, .int .i64 ser, .slice pa N pc] 24)).alloc (.cells #[.int .i64 tu, .int .i64 tt] 26)).heap.size = w.heap.size + 2 := by simp
  have s3 : (((w.alloc (.cells #[.int .i64 id, .int .i64 born, .int .i64 pA, .int .i64 pB, .int .i64 ser, .slice pa N pc] 24)).alloc (.cells #[.int .i64 tu, .int .i64 tt] 26)).alloc (.cells #[.int .u64 (wd KA), .int .u64 (wd KB)] 30)).heap.size = w.heap.size + 3 := by simp
  have s4 : ((((w.alloc (.cells #[.int .i64 id, .int .i64 born, .int .i64 pA, .int .i64 pB, .int .i64 ser, .slice pa N pc] 24)).alloc (.cells #[.int .i64 tu, .int .i64 tt] 26)).alloc (.cells #[.int .u64 (wd KA), .int .u64 (wd KB)] 30)).alloc (.cells #[.int .i64 xid, .slice xa xn xc] 34)).heap.size = w.heap.size + 4 := by simp
  have t := has2_new (w.alloc (.cells #[.int .i64 id, .int .i64 born, .int .i64 pA, .int .i64 pB, .int .i64 ser, .slice pa N pc] 24)) tu tt 26
  have q := Has6.new ((((w.alloc (.cells #[.int .i64 id, .int .i64 born, .int .i64 pA, .int .i64 pB, .int .i64 ser, .slice pa N pc] 24)).alloc (.cells #[.int .i64 tu, .int .i64 tt] 26)).alloc (.cells #[.int .u64 (wd KA), .int .u64 (wd KB)] 30)).alloc (.cells #[.int .i64 xid, .slice xa xn xc] 34)) ⟨id, born, pA, pB, ser, days⟩ pa N pc 24
  obtain ⟨k0, k1⟩ := two_new ((w.alloc (.cells #[.int .i64 id, .int .i64 born, .int .i64 pA, .int .i64 pB, .int .i64 ser, .slice pa N pc] 24)).alloc (.cells #[.int .i64 tu, .int .i64 tt] 26)) (.int .u64 (wd KA)) (.int .u64 (wd KB)) 30
  obtain ⟨x0, x1⟩ := two_new (((w.alloc (.cells #[.int .i64 id, .int .i64 born, .int .i64 pA, .int .i64 pB, .int .i64 ser, .slice pa N pc] 24)).alloc (.cells #[.int .i64 tu, .int .i64 tt] 26)).alloc (.cells #[.int .u64 (wd KA), .int .u64 (wd KB)] 30)) (.int .i64 xid) (.slice xa xn xc) 34
  have ff := froz_new ((((w.alloc (.cells #[.int .i64 id, .int .i64 born, .int .i64 pA, .int .i64 pB, .int .i64 ser, .slice pa N pc] 24)).alloc (.cells #[.int .i64 tu, .int .i64 tt] 26)).alloc (.cells #[.int .u64 (wd KA), .int .u64 (wd KB)] 30)).alloc (.cells #[.int .i64 xid, .slice xa xn xc] 34)) #[.int .i64 id, .int .i64 born, .int .i64 pA, .int .i64 pB, .int .i64 ser, .slice pa N pc] 24 5
  rw [s1] at t
  rw [s4] at q ff
  rw [s2] at k0 k1
  rw [s3] at x0 x1
  refine ⟨by rw [World.size_alloc, s4]; omega, (Has6.new w ⟨id, born, pA, pB, ser, days⟩ pa N pc _).below hb4, ?_, ?_, ?_, ?_, ?_, ?_, q, ff⟩
  · exact ((bcell hc3).1 _ _ (by rw [s2]; omega)).trans t.1
  · exact ((bcell hc3).1 _ _ (by rw [s2]; omega)).trans t.2
  · exact ((bcell hd3).1 _ _ (by rw [s3]; omega)).trans k0
  · exact ((bcell hd3).1 _ _ (by rw [s3]; omega)).trans k1
  · exact ((bcell he3).1 _ _ (by rw [s4]; omega)).trans x0
  · exact ((bcell he3).1 _ _ (by rw [s4]; omega)).trans x1
theorem RX.days {w W : World} {p : Pz.Pq} {pa : Option Addr} {N pc : Nat} {tu tt : Int} {KA KB : Tg.W} {xid : Int} {xa : Option Addr} {xn xc : Nat} {qa : Option Addr} {qn qc : Nat} (h : RX w W p pa N pc tu tt KA KB xid xa xn xc qa qn qc) (qa' : Option Addr) (qn' qc' : Nat) : RX w (W.setCell ⟨w.heap.size + 4, 5, none⟩ (.slice qa' qn' qc')) p pa N pc tu tt KA KB xid xa xn xc qa' qn' qc' := by
  have o : ∀ q : Addr, q.block ≠ w.heap.size + 4 → (W.setCell ⟨w.heap.size + 4, 5, none⟩ (.slice qa' qn' qc')).cell? q = W.cell? q := fun q hq => World.cell?_setCell_other _ _ _ _ (fun e => hq (by rw [← e]))
  have hs : (W.setCell ⟨w.heap.size + 4, 5, none⟩ (.slice qa' qn' qc')).heap.size = W.heap.size := Deep.nblk_setCell _ _ _
  have n0 : w.heap.size ≠ w.heap.size + 4 := by omega
  have n1 : w.heap.size + 1 ≠ w.heap.size + 4 := by omega
  have n2 : w.heap.size + 2 ≠ w.heap.size + 4 := by omega
  have n3 : w.heap.size + 3 ≠ w.heap.size + 4 := by omega
  exact ⟨by rw [hs]; exact h.lt, ⟨by rw [hs]; exact h.pp.lt, (o _ n0).trans h.pp.c0, (o _ n0).trans h.pp.c1, (o _ n0).trans h.pp.c2, (o _ n0).trans h.pp.c3, (o _ n0).trans h.pp.c4, (o _ n0).trans h.pp.c5⟩, (o _ n1).trans h.t0, (o _ n1).trans h.t1, (o _ n2).trans h.k0, (o _ n2).trans h.k1, (o _ n3).trans h.x0, (o _ n3).trans h.x1, h.q.dys p.days qa' qn' qc', by rw [World.frozen?_setCell]; exact h.f⟩
theorem made_ep (w1 : World) (b : Nat) (u : Value) : ((w1.setCell ⟨b, 5, none⟩ u).alloc (.cells #[] 52)).ownsRow w1.heap.size 52 3 (.slice (some ⟨w1.heap.size, 0, none⟩) 0 0) 0 [] := by
  have h := World.ownsRow_made (base := (w1.setCell ⟨b, 5, none⟩ u).heap.size) (e := 52) (size := 3) (w1.setCell ⟨b, 5, none⟩ u) #[] 0 (Nat.le_refl _) (Nat.zero_le _) (by simp)
  rwa [Deep.nblk_setCell] at h
theorem RX.copied {w W w1 : World} {p : Pz.Pq} {pa : Option Addr} {N pc : Nat} {tu tt : Int} {KA KB : Tg.W} {xid : Int} {xa : Option Addr} {xn xc : Nat} {qa : Option Addr} {qn qc : Nat} {v1 : Value} (h : RX w W p pa N pc tu tt KA KB xid xa xn xc qa qn qc) (hb : Below w.heap.size w W) (hs : W.heap.size = w.heap.size + 1 + 1 + 1 + 1 + 1) (hN : p.days.length = N)
    (hown : w1.ownsRow (w.heap.size + 1 + 1 + 1 + 1 + 1) 49 2 v1 (0 + N) ([] ++ flat p.days)) (hgrow : (W.alloc (.cells #[] 49)).grownBy w1 (Value.slice (some ⟨w.heap.size + 1 + 1 + 1 + 1 + 1, 0, none⟩) 0 0).ownBlock) :
    ∃ qa' qc', v1 = .slice qa' N qc' ∧ (N ≤ qc' ∧ (qa' = none → qc' = 0 ∧ p.days = []) ∧ Row2 w1 qa' p.days ∧ ∀ b off, qa' = some ⟨b, off, none⟩ → w.heap.size + 5 ≤ b) ∧ RX w w1 p pa N pc tu tt KA KB xid xa xn xc qa qn qc ∧ Below w.heap.size w w1 := by
  have o : OwnS w1 (w.heap.size + 1 + 1 + 1 + 1 + 1) v1 p.days := by unfold OwnS; rw [hN]; simpa using hown
  obtain ⟨a, c, rfl, h1, h2, h3, h4⟩ := o.parts
  rw [hN] at h1
  refine ⟨a, c, by rw [hN], ⟨h1, h2, h3, h4⟩, ?_, ?_⟩
  · refine h.keep (Nat.le_trans (by simp) hgrow.size) (fun b hl => ?_)
    have hbb := (below_box W (.cells #[] 49)).block b (by omega)
    exact (hgrow.block b (by rw [World.size_alloc]; omega) (fun e => by have e : b = w.heap.size + 1 + 1 + 1 + 1 + 1 := Option.some.inj e; omega)).trans hbb
  · exact (hb.alloc hb.size (.cells #[] 49)).grown hgrow (by simp; omega) (fun j hj => by have e : w.heap.size + 1 + 1 + 1 + 1 + 1 = j := Option.some.inj hj; omega)
theorem RX.copied2 {w w1 w2 : World} {p : Pz.Pq} {pa : Option Addr} {N pc : Nat} {tu tt : Int} {KA KB : Tg.W} {xid : Int} {xa : Option Addr} {xn xc : Nat} {qa : Option Addr} {qn qc qn' qc' : Nat} {qa' : Option Addr} {v2 : Value} {r : List Rg.Ep} {rn : Nat} (h : RX w w1 p pa N pc tu tt KA KB xid xa xn xc qa qn qc) (hb : Below w.heap.size w w1) (hR : r.length = rn)
    (hown : w2.ownsRow w1.heap.size 52 3 v2 (0 + rn) ([] ++ fl3 r)) (hgrow : ((w1.setCell ⟨w.heap.size + 1 + 1 + 1 + 1, 5, none⟩ (.slice qa' qn' qc')).alloc (.cells #[] 52)).grownBy w2 (Value.slice (some ⟨w1.heap.size, 0, none⟩) 0 0).ownBlock) :
    ∃ sa sc, v2 = .slice sa rn sc ∧ ((rn ≤ sc ∧ (sa = none → sc = 0 ∧ r = []) ∧ Row3 w2 sa r) ∧ ∀ a l, Row2 w1 a l → (∀ b off, a = some ⟨b, off, none⟩ → b ≠ w.heap.size + 4) → Row2 w2 a l) ∧ RX w w2 p pa N pc tu tt KA KB xid xa xn xc qa' qn' qc' ∧ Below w.heap.size w w2 ∧ w1.heap.size ≤ w2.heap.size := by
  have o : OwnE w2 w1.heap.size v2 r := by unfold OwnE; rw [hR]; simpa using hown
  have hrow := o.row
  have hs : (w1.setCell ⟨w.heap.size + 1 + 1 + 1 + 1, 5, none⟩ (.slice qa' qn' qc')).heap.size = w1.heap.size := Deep.nblk_setCell _ _ _
  have hbx : Below w1.heap.size (w1.setCell ⟨w.heap.size + 1 + 1 + 1 + 1, 5, none⟩ (.slice qa' qn' qc')) ((w1.setCell ⟨w.heap.size + 1 + 1 + 1 + 1, 5, none⟩ (.slice qa' qn' qc')).alloc (.cells #[] 52)) := by
    have := below_box (w1.setCell ⟨w.heap.size + 1 + 1 + 1 + 1, 5, none⟩ (.slice qa' qn' qc')) (.cells #[] 52)
    rwa [hs] at this
  have hgs := hgrow.size
  rw [World.size_alloc, hs] at hgs
  have blk : ∀ b, b < w1.heap.size → w2.heap[b]? = (w1.setCell ⟨w.heap.size + 1 + 1 + 1 + 1, 5, none⟩ (.slice qa' qn' qc')).heap[b]? := fun b hl =>
    (hgrow.block b (by rw [World.size_alloc, hs]; omega) (fun e => by have e : b = w1.heap.size := Option.some.inj e; omega)).trans (hbx.block b hl)
  have hXd : RX w (w1.setCell ⟨w.heap.size + 1 + 1 + 1 + 1, 5, none⟩ (.slice qa' qn' qc')) p pa N pc tu tt KA KB xid xa xn xc qa' qn' qc' := h.days qa' qn' qc'
  obtain ⟨sa, sc, e, hr3⟩ := hrow
  rw [hR] at e
  refine ⟨sa, sc, e, ⟨⟨?_, ?_, hr3⟩, fun a l h2 hp => ?_⟩, hXd.keep (by rw [hs]; omega) (fun b hl => blk b (by have := h.lt; omega)), ?_, by omega⟩
  · rcases o.2 with ⟨e1, e2⟩ | ⟨g, cap, cur, e1, _, _, e3, _⟩
    · have : rn = 0 := by rw [← hR]; exact e2
      omega
    · rw [e1] at e
      have := (Value.slice.inj e).2.2
      omega
  · rintro rfl
    rcases o.2 with ⟨e1, e2⟩ | ⟨g, cap, cur, e1, _⟩
    · rw [e1] at e
      exact ⟨(Value.slice.inj e).2.2.symm, List.eq_nil_of_length_eq_zero e2⟩
    · rw [e1] at e
      cases (Value.slice.inj e).1
  · have h3 := h2.apart (p := ⟨w.heap.size + 1 + 1 + 1 + 1, 5, none⟩) hp (.slice qa' qn' qc')
    rcases h3 with h3 | ⟨b, off, rfl, hlt, hc⟩
    · exact .inl h3
    · rw [hs] at hlt
      have c : ∀ i, w2.cell? ⟨b, i, none⟩ = (w1.setCell ⟨w.heap.size + 1 + 1 + 1 + 1, 5, none⟩ (.slice qa' qn' qc')).cell? ⟨b, i, none⟩ := fun i => World.cell?_of_block (a := ⟨b, i, none⟩) (blk b hlt)
      exact .inr ⟨b, off, rfl, by omega, fun i hi => ⟨(c _).trans (hc i hi).1, (c _).trans (hc i hi).2⟩⟩
  · have hb2 := hb.setCell (p := ⟨w.heap.size + 1 + 1 + 1 + 1, 5, none⟩) (show w.heap.size ≤ w.heap.size + 1 + 1 + 1 + 1 by omega) (.slice qa' qn' qc')
    exact (hb2.alloc (by rw [hs]; exact hb.size) (.cells #[] 52)).grown hgrow (by rw [World.size_alloc, hs]; have := hb.size; omega) (fun j hj => by have e : w1.heap.size = j := Option.some.inj hj; have := hb.size; omega)
theorem ledger2_at (l : List Lg.Ps) (n : Nat) (a : Option Addr) (cap : Nat) (w : World) (hn : l.length = n) (hl : n * 32 ≤ 140737488351232) (hz : ∀ p ∈ l, p.2.length * 16 ≤ 140737488351232) (hr : RowGN w a l) :
    Calls Tryz.prog 4 #[.slice a n cap] w fun e w' => ∃ a' cap', e = .returned (.slice a' n cap') ∧ n ≤ cap' ∧ (a' = none → l = [] ∧ cap' = 0) ∧ RowG w' a' l ∧ Below w.heap.size w w' := by
  subst hn
  exact ledger2_any l a cap w hl hz hr
theorem one_gn (w : World) (xid : Int) (xls : List Lg.Ln) (xa : Option Addr) (xn xc : Nat) (hX : xls.length = xn) (hn : xa = none → xls = [] ∧ xc = 0) (hr : RowL (w.alloc (.cells #[.int .i64 xid, .slice xa xn xc] 34)) xa xls) : RowGN (w.alloc (.cells #[.int .i64 xid, .slice xa xn xc] 34)) (some ⟨w.heap.size, 0, none⟩) [(xid, xls)] := fun k hk => by
  have hk0 : k = 0 := by simp at hk; omega
  subst hk0
  refine ⟨w.heap.size, 0, xid, xls, xa, xc, rfl, by simp, rfl, by simp, by rw [hX]; simp, hn, hr⟩
/-- all that was handed in or copied, as it stands behind the copies -/
structure RT (w W : World) (p : Pz.Pq) (pa : Option Addr) (N pc : Nat) (tu tt : Int) (KA KB : Tg.W) (xid : Int) (xa : Option Addr) (xn xc : Nat) (qa : Option Addr) (qc : Nat) (r : List Rg.Ep) (sa : Option Addr) (l : List Lg.Ps) (ma : Option Addr) (xls : List Lg.Ln) (yb : Nat) (yla : Option Addr) (ylc : Nat) : Prop where
  x : RX w W p pa N pc tu tt KA KB xid xa xn xc qa N qc
  b : Below w.heap.size w W
  q : Row2 W qa p.days
  s : Row3 W sa r
  m : RowG W ma l
  yl : yb < W.heap.size
  y0 : W.cell? ⟨yb, 0, none⟩ = some (.int .i64 xid)
  y1 : W.cell? ⟨yb, 1, none⟩ = some (.slice yla xn ylc)
  y : RowL W yla xls
theorem RT.below {w W W' : World} {p : Pz.Pq} {pa : Option Addr} {N pc : Nat} {tu tt : Int} {KA KB : Tg.W} {xid : Int} {xa : Option Addr} {xn xc : Nat} {qa : Option Addr} {qc : Nat} {r : List Rg.Ep} {sa : Option Addr} {l : List Lg.Ps} {ma : Option Addr} {xls : List Lg.Ln} {yb : Nat} {yla : Option Addr} {ylc : Nat} (h : RT w W p pa N pc tu tt KA KB xid xa xn xc qa qc r sa l ma xls yb yla ylc) (hb : Below W.heap.size W W') : RT w W' p pa N pc tu tt KA KB xid xa xn xc qa qc r sa l ma xls yb yla ylc := by
  obtain ⟨k, _⟩ := bcell hb
  exact ⟨h.x.below hb, below_on h.b (Nat.le_refl _) hb, h.q.below hb, h.s.below hb, h.m.below hb, Nat.lt_of_lt_of_le h.yl hb.size, (k _ _ h.yl).trans h.y0, (k _ _ h.yl).trans h.y1, h.y.below hb⟩
/-- spans that may be written: their block lies from B on, ahead of T -/
def FS (W : World) (B T : Nat) (a : Option Addr) (n : Nat) : Prop := n = 0 ∨ ∃ g cur, a = some ⟨g, 0, none⟩ ∧ B ≤ g ∧ g < T ∧ T ≤ W.heap.size ∧ W.heap[g]? = some (.cells cur 49 (0, 0)) ∧ n * 2 ≤ cur.size
theorem OwnS.fs {W : World} {B n c : Nat} {a : Option Addr} {xs : List Spn.Sp} (h : OwnS W B (.slice a n c) xs) (hn : xs.length = n) : FS W B W.heap.size a n := by
  have hlt := World.ownsRow.lt h
  rcases h.2 with ⟨h1, h2⟩ | ⟨g, cap, cur, h1, h2, h3, h4, _, h5, _⟩
  · exact .inl (by rw [← hn]; exact h2)
  · cases h1
    exact .inr ⟨g, cur, rfl, h2, (hlt g rfl).2, Nat.le_refl _, h3, by omega⟩
theorem FS.below {W W' : World} {B T : Nat} {a : Option Addr} {n : Nat} (h : FS W B T a n) (hb : Below W.heap.size W W') : FS W' B T a n := by
  rcases h with h | ⟨g, cur, h1, h2, h3, h4, h5, h6⟩
  · exact .inl h
  · exact .inr ⟨g, cur, h1, h2, h3, Nat.le_trans h4 hb.size, by rw [hb.block g (by omega)]; exact h5, h6⟩
theorem FS.wide {W : World} {B B' T T' : Nat} {a : Option Addr} {n : Nat} (h : FS W B T a n) (hB : B' ≤ B) (hT : T ≤ T') (hW : T' ≤ W.heap.size) : FS W B' T' a n := by
  rcases h with h | ⟨g, cur, h1, h2, h3, h4, h5, h6⟩
  · exact .inl h
  · exact .inr ⟨g, cur, h1, by omega, by omega, hW, h5, h6⟩
theorem rzSayO {w w' : World} {i b x y z : Int} {l : List Spn.Sp} {m e : Int} {en : Ending} (h : rzOwn w (⟨i, b, x, y, z, l⟩, m, e) en w') : ∃ a n c, en = .returned (.tuple #[.agg #[.int .i64 i, .int .i64 b, .int .i64 x, .int .i64 y, .int .i64 z, .slice a n c], .int .i64 m, .int .i64 e]) ∧ n ≤ 64 ∧ FS w' w.heap.size w'.heap.size a n ∧ Below w.heap.size w w' := by
  obtain ⟨a, n, c, h1, h2, _, h4, _, h6, h7⟩ := h
  exact ⟨a, n, c, h1, h4, h6.fs h2, h7⟩
theorem nzSayO {w w' : World} {i b x y z : Int} {l : List Spn.Sp} {e : Int} {en : Ending} (h : nzOwn w (⟨i, b, x, y, z, l⟩, e) en w') : ∃ a n c, en = .returned (.tuple #[.agg #[.int .i64 i, .int .i64 b, .int .i64 x, .int .i64 y, .int .i64 z, .slice a n c], .int .i64 e]) ∧ n ≤ 64 ∧ FS w' w.heap.size w'.heap.size a n ∧ Below w.heap.size w w' := by
  obtain ⟨a, n, c, h1, h2, _, h4, _, h6, h7⟩ := h
  exact ⟨a, n, c, h1, h4, h6.fs h2, h7⟩
/-- a pass that was answered: its box, and its days that may be written -/
structure AP (T W : World) (g : Nat) (p : Pz.Pq) (a : Option Addr) (n c : Nat) : Prop where
  h : Has6 W g p a n c
  f : FS W T.heap.size W.heap.size a n
  n : n ≤ 64
theorem AP.below {T W W' : World} {g : Nat} {p : Pz.Pq} {a : Option Addr} {n c : Nat} (h : AP T W g p a n c) (hb : Below W.heap.size W W') : AP T W' g p a n c := ⟨h.h.below hb, (h.f.below hb).wide (Nat.le_refl _) hb.size (Nat.le_refl _), h.n⟩
theorem AP.new {T V W : World} {i b x y z : Int} {l : List Spn.Sp} {a : Option Addr} {n c : Nat} (hf : FS W V.heap.size W.heap.size a n) (hT : T.heap.size ≤ V.heap.size) (hn : n ≤ 64) : AP T (W.alloc (.cells #[.int .i64 i, .int .i64 b, .int .i64 x, .int .i64 y, .int .i64 z, .slice a n c] 24)) W.heap.size ⟨i, b, x, y, z, l⟩ a n c :=
  ⟨Has6.new W ⟨i, b, x, y, z, l⟩ a n c _, (hf.below (below_box _ _)).wide hT (by simp) (Nat.le_refl _), hn⟩
/-- epochs that may be written -/
def FE (W : World) (B T : Nat) (a : Option Addr) (n : Nat) : Prop := n = 0 ∨ ∃ g cur, a = some ⟨g, 0, none⟩ ∧ B ≤ g ∧ g < T ∧ T ≤ W.heap.size ∧ W.heap[g]? = some (.cells cur 52 (0, 0)) ∧ n * 3 ≤ cur.size
theorem OwnE.fe {W : World} {B : Nat} {v : Value} {xs : List Rg.Ep} (h : OwnE W B v xs) : ∃ a n c, v = .slice a n c ∧ n ≤ maxLen ∧ FE W B W.heap.size a n := by
  have hlt := World.ownsRow.lt h
  rcases h.2 with ⟨h1, h2⟩ | ⟨g, cap, cur, h1, h2, h3, h4, hm, h5, _⟩
  · exact ⟨none, 0, 0, h1, Nat.zero_le _, .inl rfl⟩
  · subst h1
    exact ⟨_, _, cap, rfl, Nat.le_trans h4 hm, .inr ⟨g, cur, rfl, h2, (hlt g rfl).2, Nat.le_refl _, h3, by omega⟩⟩
theorem FE.below {W W' : World} {B T : Nat} {a : Option Addr} {n : Nat} (h : FE W B T a n) (hb : Below W.heap.size W W') : FE W' B T a n := by
  rcases h with h | ⟨g, cur, h1, h2, h3, h4, h5, h6⟩
  · exact .inl h
  · exact .inr ⟨g, cur, h1, h2, h3, Nat.le_trans h4 hb.size, by rw [hb.block g (by omega)]; exact h5, h6⟩
theorem FE.wide {W : World} {B B' T T' : Nat} {a : Option Addr} {n : Nat} (h : FE W B T a n) (hB : B' ≤ B) (hT : T ≤ T') (hW : T' ≤ W.heap.size) : FE W B' T' a n := by
  rcases h with h | ⟨g, cur, h1, h2, h3, h4, h5, h6⟩
  · exact .inl h
  · exact .inr ⟨g, cur, h1, by omega, by omega, hW, h5, h6⟩
theorem addSay {w w' : World} {l : List Rg.Ep} {A B : Tg.W} {en : Ending} {de : Int} (hd : (Rg.add l A B).2 = de) (h : addPost w l A B en w') : ∃ a n c, en = .returned (.tuple #[.slice a n c, .int .i64 de]) ∧ n ≤ maxLen ∧ FE w' w.heap.size w'.heap.size a n ∧ Below w.heap.size w w' := by
  obtain ⟨v, h1, h2, h3⟩ := h
  obtain ⟨a, n, c, rfl, h4, h5⟩ := h2.fe
  exact ⟨a, n, c, by rw [h1, hd], h4, h5, h3⟩
theorem add_at (l : List Rg.Ep) (n : Nat) (a : Option Addr) (cap : Nat) (A B : Tg.W) (w : World) (hn : l.length = n) (hl : n ≤ maxLen) (hno : a = none → l = []) (hr : Row3 w a l) :
    Calls Tryz.prog 8 #[.slice a n cap, .agg #[.int .u64 (wd A), .int .u64 (wd B)]] w (addPost w l A B) := by
  subst hn
  exact add_any l a cap A B w hl hno hr
theorem post_at (l : List Lg.Ps) (n : Nat) (a : Option Addr) (cap : Nat) (id : Int) (ls : List Lg.Ln) (m : Nat) (pa : Option Addr) (pc : Nat) (w : World) (en : Nat) (ee : Int) (hn : l.length = n) (hm : ls.length = m) (hl : n ≤ maxLen ∧ n ≤ cap) (hna : a = none → l = [] ∧ cap = 0) (hf : Fit l) (hr : RowG w a l) (hpl : m ≤ maxLen ∧ m ≤ pc) (hpr : RowL w pa ls) (he1 : (Lg.post l (id, ls)).1.length = en) (he2 : (Lg.post l (id, ls)).2 = ee) :
    Calls Tryz.prog 9 #[.slice a n cap, .agg #[.int .i64 id, .slice pa m pc]] w fun e w' => ∃ ea ec us, e = .returned (.tuple #[.slice ea en ec, .int .i64 ee]) ∧ us.length = en ∧ OwnG w' w.heap.size (.slice ea en ec) us ∧ BA w' w.heap.size (.slice ea en ec) us ∧ Below w.heap.size w w' := by
  subst hn hm he1 he2
  refine (lPost_own l a cap id ls pa pc w hl hna hf hr hpl hpr).mono ?_
  rintro e w' ⟨ea, ec, us, rfl, _, h2, h3, h4, h5⟩
  exact ⟨ea, ec, us, rfl, h2, h3, h4, h5⟩
theorem FS.set {W : World} {B T : Nat} {a : Option Addr} {n : Nat} (h : FS W B T a n) (b k : Nat) (u : Value) : FS (W.setCell ⟨b, k, none⟩ u) B T a n := by
  rcases h with h | ⟨g, cur, h1, h2, h3, h4, h5, h6⟩
  · exact .inl h
  · by_cases e : b = g
    · subst e
      refine .inr ⟨b, cur.setIfInBounds k u, h1, h2, h3, by rw [Deep.nblk_setCell]; exact h4, ?_, by simpa using h6⟩
      simp [World.setCell, Array.getElem?_modify, h5]
    · refine .inr ⟨g, cur, h1, h2, h3, by rw [Deep.nblk_setCell]; exact h4, ?_, h6⟩
      simp [World.setCell, Array.getElem?_modify, h5, e]
theorem FE.set {W : World} {B T : Nat} {a : Option Addr} {n : Nat} (h : FE W B T a n) (b k : Nat) (u : Value) : FE (W.setCell ⟨b, k, none⟩ u) B T a n := by
  rcases h with h | ⟨g, cur, h1, h2, h3, h4, h5, h6⟩
  · exact .inl h
  · by_cases e : b = g
    · subst e
      refine .inr ⟨b, cur.setIfInBounds k u, h1, h2, h3, by rw [Deep.nblk_setCell]; exact h4, ?_, by simpa using h6⟩
      simp [World.setCell, Array.getElem?_modify, h5]
    · refine .inr ⟨g, cur, h1, h2, h3, by rw [Deep.nblk_setCell]; exact h4, ?_, h6⟩
      simp [World.setCell, Array.getElem?_modify, h5, e]
theorem BA.set {W : World} {B : Nat} {v : Value} {us : List Pu} (h : BA W B v us) (b k : Nat) (u : Value) : BA (W.setCell ⟨b, k, none⟩ u) B v us := fun i x hx => by
  obtain ⟨g, n, c, h1, h2, h3, h4, h5⟩ := h i x hx
  exact ⟨g, n, c, h1, h2, h3, h4, h5.set b k u⟩
theorem OwnG.aside {W : World} {B : Nat} {v : Value} {us : List Pu} (h : OwnG W B v us) (p : Addr) (hp : p.block < B) (u : Value) : OwnG (W.setCell p u) B v us := by
  obtain ⟨k1, k2⟩ := h
  refine ⟨k1, ?_⟩
  rcases k2 with k2 | ⟨g, cap', cur, e, hb, hc, hd⟩
  · exact .inl k2
  · exact .inr ⟨g, cap', cur, e, hb, by rw [Deep.blk_setCell_other _ _ _ _ (show g ≠ p.block by omega)]; exact hc, hd⟩
/-- how the world stands while the answers are written over -/
structure RI (T W : World) (E0 gA : Nat) (cs : Array Value) (aa : Option Addr) (an : Nat) (ba : Option Addr) (bn : Nat) (ca : Option Addr) (cn : Nat) (da : Option Addr) (dn : Nat) (ev : Value) (us : List Pu) : Prop where
  b : Below T.heap.size T W
  te : T.heap.size ≤ E0
  fa : FS W T.heap.size E0 aa an
  fb : FS W T.heap.size E0 ba bn
  fc : FS W T.heap.size E0 ca cn
  fd : FE W T.heap.size E0 da dn
  e : OwnG W E0 ev us
  ba : BA W E0 ev us
  gl : gA < W.heap.size
  ge : E0 ≤ gA
  all : ∀ j v, cs[j]? = some v → W.cell? ⟨gA, j, none⟩ = some v
theorem RI.set {T W : World} {E0 gA : Nat} {cs : Array Value} {aa : Option Addr} {an : Nat} {ba : Option Addr} {bn : Nat} {ca : Option Addr} {cn : Nat} {da : Option Addr} {dn : Nat} {ev : Value} {us : List Pu} (h : RI T W E0 gA cs aa an ba bn ca cn da dn ev us) (g k : Nat) (h1 : T.heap.size ≤ g) (h2 : g < E0) (u : Value) : RI T (W.setCell ⟨g, k, none⟩ u) E0 gA cs aa an ba bn ca cn da dn ev us :=
  ⟨h.b.setCell (p := ⟨g, k, none⟩) h1 u, h.te, h.fa.set g k u, h.fb.set g k u, h.fc.set g k u, h.fd.set g k u, h.e.aside ⟨g, k, none⟩ h2 u, h.ba.set g k u, by rw [Deep.nblk_setCell]; exact h.gl, h.ge, fun j v hj => (World.cell?_setCell_far _ _ _ _ (show g ≠ gA by have := h.ge; omega)).trans (h.all j v hj)⟩
theorem RI.below {T W W' : World} {E0 gA : Nat} {cs : Array Value} {aa : Option Addr} {an : Nat} {ba : Option Addr} {bn : Nat} {ca : Option Addr} {cn : Nat} {da : Option Addr} {dn : Nat} {ev : Value} {us : List Pu} (h : RI T W E0 gA cs aa an ba bn ca cn da dn ev us) (hb : Below W.heap.size W W') : RI T W' E0 gA cs aa an ba bn ca cn da dn ev us :=
  ⟨below_on h.b (Nat.le_refl _) hb, h.te, h.fa.below hb, h.fb.below hb, h.fc.below hb, h.fd.below hb, h.e.still hb, h.ba.below hb, Nat.lt_of_lt_of_le h.gl hb.size, h.ge, fun j v hj => (hb.cell (p := ⟨gA, j, none⟩) h.gl).trans (h.all j v hj)⟩
theorem RI.sel {T : World} {E0 gA : Nat} {cs : Array Value} {aa : Option Addr} {an : Nat} {ba : Option Addr} {bn : Nat} {ca : Option Addr} {cn : Nat} {da : Option Addr} {dn : Nat} {ev : Value} {us : List Pu} {ac bc cc : Nat} (h5 : cs[5]? = some (.slice aa an ac)) (h11 : cs[11]? = some (.slice ba bn bc)) (h17 : cs[17]? = some (.slice ca cn cc)) (ha : an ≤ 64) (hb : bn ≤ 64) (hc : cn ≤ 64) (k : Nat) (hk : k < 3) :
    ∃ (a' : Option Addr) (n' c' : Nat), n' ≤ 64 ∧ ∀ W, RI T W E0 gA cs aa an ba bn ca cn da dn ev us → W.cell? ⟨gA, k * 6 + 5, none⟩ = some (.slice a' n' c') ∧ FS W T.heap.size E0 a' n' := by
  match k, hk with
  | 0, _ => exact ⟨aa, an, ac, ha, fun W h => ⟨h.all 5 _ h5, h.fa⟩⟩
  | 1, _ => exact ⟨ba, bn, bc, hb, fun W h => ⟨h.all 11 _ h11, h.fb⟩⟩
  | 2, _ => exact ⟨ca, cn, cc, hc, fun W h => ⟨h.all 17 _ h17, h.fc⟩⟩
theorem FS.cell {W : World} {B T : Nat} {a : Option Addr} {n : Nat} (h : FS W B T a n) (j : Nat) (hj : j < n) : ∃ g u v, a = some ⟨g, 0, none⟩ ∧ B ≤ g ∧ g < T ∧ W.cell? ⟨g, j * 2, none⟩ = some u ∧ W.cell? ⟨g, j * 2 + 1, none⟩ = some v ∧ W.frozen? ⟨g, j * 2, none⟩ = false ∧ W.frozen? ⟨g, j * 2 + 1, none⟩ = false := by
  rcases h with h | ⟨g, cur, h1, h2, h3, h4, h5, h6⟩
  · omega
  · exact ⟨g, cur[j * 2]'(by omega), cur[j * 2 + 1]'(by omega), h1, h2, h3, by simp [World.cell?, h5, show j * 2 < cur.size by omega], by simp [World.cell?, h5, show j * 2 + 1 < cur.size by omega], by simp [World.frozen?, h5], by simp [World.frozen?, h5]⟩
theorem boxAll (w : World) (vs : Array Value) (t : TypeId) (j : Nat) (v : Value) (h : vs[j]? = some v) : (w.alloc (.cells vs t)).cell? ⟨w.heap.size, j, none⟩ = some v := by
  have hb : (w.alloc (.cells vs t)).heap[w.heap.size]? = some (.cells vs t) := heap_alloc_new w _
  simp only [World.cell?, hb]
  simp only [Option.isSome_none, Bool.false_eq_true, if_false]
  exact h
theorem FE.cell {W : World} {B T : Nat} {a : Option Addr} {n : Nat} (h : FE W B T a n) (j : Nat) (hj : j < n) : ∃ g u v x, a = some ⟨g, 0, none⟩ ∧ B ≤ g ∧ g < T ∧ W.cell? ⟨g, j * 3, none⟩ = some u ∧ W.cell? ⟨g, j * 3 + 1, none⟩ = some v ∧ W.cell? ⟨g, j * 3 + 2, none⟩ = some x ∧ W.frozen? ⟨g, j * 3, none⟩ = false ∧ W.frozen? ⟨g, j * 3 + 1, none⟩ = false ∧ W.frozen? ⟨g, j * 3 + 2, none⟩ = false := by
  rcases h with h | ⟨g, cur, h1, h2, h3, h4, h5, h6⟩
  · omega
  · exact ⟨g, cur[j * 3]'(by omega), cur[j * 3 + 1]'(by omega), cur[j * 3 + 2]'(by omega), h1, h2, h3, by simp [World.cell?, h5, show j * 3 < cur.size by omega], by simp [World.cell?, h5, show j * 3 + 1 < cur.size by omega], by simp [World.cell?, h5, show j * 3 + 2 < cur.size by omega], by simp [World.frozen?, h5], by simp [World.frozen?, h5], by simp [World.frozen?, h5]⟩
/-- how the world stands while the ledger's answer is written over: from the kth posting on it is as it was -/
structure RE (T W : World) (g en k : Nat) (us : List Pu) : Prop where
  b : Below T.heap.size T W
  lo : T.heap.size ≤ g
  hi : g < W.heap.size
  blk : ∃ cur, W.heap[g]? = some (.cells cur 34 (0, 0)) ∧ en * 2 ≤ cur.size
  c : ∀ i u, k ≤ i → us[i]? = some u → W.cell? ⟨g, i * 2, none⟩ = some (.int .i64 u.1) ∧ W.cell? ⟨g, i * 2 + 1, none⟩ = some u.2
  a : ∀ (i : Nat) (u : Pu), us[i]? = some u → ∃ gl n c, u.2 = .slice (some ⟨gl, 0, none⟩) n c ∧ T.heap.size ≤ gl ∧ gl ≠ g ∧ n ≤ 6 ∧ BlkL W gl n
theorem RE.line {T W : World} {g en k : Nat} {us : List Pu} (h : RE T W g en k us) (gl j : Nat) (hT : T.heap.size ≤ gl) (hne : gl ≠ g) (u : Value) : RE T (W.setCell ⟨gl, j, none⟩ u) g en k us := by
  refine ⟨h.b.setCell (p := ⟨gl, j, none⟩) hT u, h.lo, by rw [Deep.nblk_setCell]; exact h.hi, ?_, fun i u' hk hu => ?_, fun i u' hu => ?_⟩
  · rw [Deep.blk_setCell_other _ _ _ _ (show g ≠ gl from fun e => hne e.symm)]; exact h.blk
  · obtain ⟨c1, c2⟩ := h.c i u' hk hu
    exact ⟨(World.cell?_setCell_far _ _ _ _ (show gl ≠ g from hne)).trans c1, (World.cell?_setCell_far _ _ _ _ (show gl ≠ g from hne)).trans c2⟩
  · obtain ⟨gl', n, c, h1, h2, h3, h4, h5⟩ := h.a i u' hu
    exact ⟨gl', n, c, h1, h2, h3, h4, h5.set gl j u⟩
theorem RE.up {T W : World} {g en k : Nat} {us : List Pu} (h : RE T W g en k us) : RE T W g en (k + 1) us :=
  ⟨h.b, h.lo, h.hi, h.blk, fun i u hk hu => h.c i u (by omega) hu, h.a⟩
theorem RE.post {T W : World} {g en k : Nat} {us : List Pu} (h : RE T W g en k us) (j : Nat) (hj : j < k * 2) (u : Value) : RE T (W.setCell ⟨g, j, none⟩ u) g en k us := by
  refine ⟨h.b.setCell (p := ⟨g, j, none⟩) h.lo u, h.lo, by rw [Deep.nblk_setCell]; exact h.hi, ?_, fun i u' hk hu => ?_, fun i u' hu => ?_⟩
  · obtain ⟨cur, h1, h2⟩ := h.blk
    refine ⟨cur.setIfInBounds j u, ?_, by simpa using h2⟩
    simp [World.setCell, Array.getElem?_modify, h1]
  · obtain ⟨c1, c2⟩ := h.c i u' hk hu
    exact ⟨(World.cell?_setCell_other W ⟨g, j, none⟩ ⟨g, i * 2, none⟩ u (by rw [Ne, Addr.mk.injEq]; omega)).trans c1, (World.cell?_setCell_other W ⟨g, j, none⟩ ⟨g, i * 2 + 1, none⟩ u (by rw [Ne, Addr.mk.injEq]; omega)).trans c2⟩
  · obtain ⟨gl', n, c, h1, h2, h3, h4, h5⟩ := h.a i u' hu
    exact ⟨gl', n, c, h1, h2, h3, h4, h5.set g j u⟩
theorem RE.below {T W W' : World} {g en k : Nat} {us : List Pu} (h : RE T W g en k us) (hb : Below W.heap.size W W') : RE T W' g en k us := by
  refine ⟨below_on h.b (Nat.le_refl _) hb, h.lo, Nat.lt_of_lt_of_le h.hi hb.size, ?_, fun i u' hk hu => ?_, fun i u' hu => ?_⟩
  · rw [hb.block g h.hi]; exact h.blk
  · obtain ⟨c1, c2⟩ := h.c i u' hk hu
    exact ⟨(hb.cell (p := ⟨g, i * 2, none⟩) h.hi).trans c1, (hb.cell (p := ⟨g, i * 2 + 1, none⟩) h.hi).trans c2⟩
  · obtain ⟨gl', n, c, h1, h2, h3, h4, h5⟩ := h.a i u' hu
    exact ⟨gl', n, c, h1, h2, h3, h4, h5.below hb⟩
theorem RE.sel {T W : World} {g en k : Nat} {us : List Pu} (h : RE T W g en k us) (hk : k < us.length) : ∃ x gl n c, n ≤ 6 ∧ T.heap.size ≤ gl ∧ gl ≠ g ∧ ∀ W, RE T W g en k us → W.cell? ⟨g, k * 2, none⟩ = some (.int .i64 x) ∧ W.cell? ⟨g, k * 2 + 1, none⟩ = some (.slice (some ⟨gl, 0, none⟩) n c) ∧ W.frozen? ⟨g, k * 2, none⟩ = false ∧ W.frozen? ⟨g, k * 2 + 1, none⟩ = false ∧ BlkL W gl n := by
  have hu : us[k]? = some us[k] := List.getElem?_eq_getElem hk
  obtain ⟨gl, n, c, h1, h2, h3, h4, -⟩ := h.a k _ hu
  refine ⟨us[k].1, gl, n, c, h4, h2, h3, fun W' h' => ?_⟩
  obtain ⟨c1, c2⟩ := h'.c k _ (Nat.le_refl _) hu
  obtain ⟨gl', n', c', k1, -, -, -, k5⟩ := h'.a k _ hu
  obtain ⟨cur, d1, d2⟩ := h'.blk
  rw [h1] at k1 c2
  obtain ⟨rfl, rfl, rfl⟩ : gl = gl' ∧ n = n' ∧ c = c' := by simpa using k1
  exact ⟨c1, c2, by simp [World.frozen?, d1], by simp [World.frozen?, d1], k5⟩
def RQ (T W : World) (ea : Option Addr) (en k : Nat) (us : List Pu) : Prop := Below T.heap.size T W ∧ (en = 0 ∨ ∃ g, ea = some ⟨g, 0, none⟩ ∧ RE T W g en k us)
theorem RI.re {T W : World} {E0 gA : Nat} {cs : Array Value} {aa : Option Addr} {an : Nat} {ba : Option Addr} {bn : Nat} {ca : Option Addr} {cn : Nat} {da : Option Addr} {dn : Nat} {ea : Option Addr} {en ec : Nat} {us : List Pu} (h : RI T W E0 gA cs aa an ba bn ca cn da dn (.slice ea en ec) us) (hn : us.length = en) : en ≤ maxLen ∧ RQ T W ea en 0 us := by
  have hown := h.e
  have hlt := World.ownsRow.lt hown
  have hba := h.ba
  rcases hown.2 with ⟨h1, h2⟩ | ⟨g, cap, cur, h1, h2, h3, h4, hm, h5, _⟩
  · exact ⟨by omega, h.b, .inl (by omega)⟩
  · obtain ⟨rfl, -, rfl⟩ : ea = some ⟨g, 0, none⟩ ∧ en = us.length ∧ ec = cap := by simpa using h1
    have hte := h.te
    refine ⟨by omega, h.b, .inr ⟨g, rfl, h.b, by omega, (hlt g rfl).2, ⟨cur, h3, by omega⟩, fun i u _ hu => ?_, fun i u hu => ?_⟩⟩
    · obtain ⟨e1, e2⟩ := flatP_at us i u hu
      have hi : i < us.length := (List.getElem?_eq_some_iff.mp hu).1
      have hown' : W.ownsRow E0 34 2 (.slice (some ⟨g, 0, none⟩) us.length ec) us.length (flatP us) := by
        have hx := h.e
        unfold OwnG at hx
        rwa [← hn] at hx
      exact ⟨(World.ownsRow.cellAt hown' (i * 2) (by omega)).trans e1, (World.ownsRow.cellAt hown' (i * 2 + 1) (by omega)).trans e2⟩
    · obtain ⟨gl, n, c, k1, k2, k3, k4, k5⟩ := hba i u hu
      exact ⟨gl, n, c, k1, by omega, fun e => k3 (by rw [e]; rfl), k4, k5⟩
theorem RQ.at {T W : World} {ea : Option Addr} {en k : Nat} {us : List Pu} (h : RQ T W ea en k us) (hk : k < en) : ∃ g, ea = some ⟨g, 0, none⟩ ∧ RE T W g en k us := by
  rcases h.2 with h | h
  · omega
  · exact h
theorem one_g {W : World} {b : Nat} {xid : Int} {xls : List Lg.Ln} {xa : Option Addr} {xn xc : Nat} (hX : xls.length = xn) (hc : xn ≤ xc) (hb : b < W.heap.size) (h0 : W.cell? ⟨b, 0, none⟩ = some (.int .i64 xid)) (h1 : W.cell? ⟨b, 1, none⟩ = some (.slice xa xn xc)) (hr : RowL W xa xls) : RowG W (some ⟨b, 0, none⟩) [(xid, xls)] := by
  refine ⟨[(xid, .slice xa xn xc)], ⟨rfl, fun i u p hu hp => ?_⟩, .inr ⟨b, 0, rfl, hb, fun j v hj => ?_⟩⟩
  · have hi := (List.getElem?_eq_some_iff.mp hu).1
    have hi0 : i = 0 := by simp at hi; exact hi
    subst hi0
    simp at hu hp
    subst hu hp
    exact ⟨rfl, xa, xc, by simp only [hX], by simp only [hX]; exact hc, hr⟩
  · rcases j with _ | _ | j
    · simp [flatP] at hj; subst hj; exact h0
    · simp [flatP] at hj; subst hj; exact h1
    · simp [flatP] at hj
theorem sameR_at (r : List Rg.Ep) (n : Nat) (a a' : Option Addr) (cap cap' : Nat) (w : World) (hn : r.length = n) (hl : n ≤ maxLen) (hr : Row3 w a r) (hr' : Row3 w a' r) :
    Calls Tryz.prog 16 #[.slice a n cap, .slice a' n cap'] w fun e w' => e = .returned (.bool true) ∧ Below w.heap.size w w' := by
  subst hn
  exact (sameRing_any r r a a' cap cap' w hl hl hr hr').mono fun _ _ h => ⟨by simpa using h.1, drewN_below h.2⟩
theorem sameL_at (l : List Lg.Ps) (n : Nat) (a a' : Option Addr) (cap cap' : Nat) (w : World) (hn : l.length = n) (hl : n ≤ maxLen) (hf : Fit l) (hr : RowG w a l) (hr' : RowG w a' l) :
    Calls Tryz.prog 17 #[.slice a n cap, .slice a' n cap'] w fun e w' => e = .returned (.bool true) ∧ Below w.heap.size w w' := by
  subst hn
  exact (sameLedger_any l l a a' cap cap' w hl hl hf hf hr hr').mono fun _ _ h => ⟨by simpa using h.1, h.2⟩
end Go.Proofs.YtandlmnbnjkklaaGreatDoor
