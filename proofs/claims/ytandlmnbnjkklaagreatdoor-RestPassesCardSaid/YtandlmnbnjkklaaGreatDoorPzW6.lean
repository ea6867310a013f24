/- The program's pass renewed. -/
import Derived.Test.YtandlmnbnjkklaaGreatDoorPzW4ToPzC
import Derived.Test.YtandlmnbnjkklaaGreatDoorPzW4ToPzC
import Derived.Test.YtandlmnbnjkklaaGreatDoorPzW4ToPzC
namespace Go.Proofs.YtandlmnbnjkklaaGreatDoor
open Go.RowKit Go.BigFrame

namespace Pz
theorem mem_span {l : List Spn.Sp} (h : Spn.chk l = 0) {s : Spn.Sp} (hs : s ∈ l) : s.1 < s.2 ∧ Spn.memB l s.1 = true ∧ Spn.memB l (s.2 - 1) = true := by
  have h2 := ((Spn.canon_iff_pair _).1 ((Spn.chk_zero _).1 h).2.2).1 _ hs
  exact ⟨h2, (Spn.memB_iff _ _).2 ⟨s, hs, Int.le_refl _, h2⟩, (Spn.memB_iff _ _).2 ⟨s, hs, by omega, by omega⟩⟩
theorem renewed_ok {p : Pq} (h : Ok p) {x y : Int} (hx : 1 ≤ x) (hy : y ≤ 3652059) (hc : Spn.code 0 p.days [(x, y)] = 0) : chk (renewed p x y) = 0 := by
  obtain ⟨h1, h2⟩ := Spn.ans_chk 0 p.days [(x, y)] hc
  refine (chk_ok _).2 ⟨h.nums, h1, fun s hs => ?_⟩
  obtain ⟨a, b, c⟩ := mem_span h1 hs
  have key : ∀ k, Spn.memB (Spn.ans 0 p.days [(x, y)]) k = true → 1 ≤ k ∧ k < 3652059 := by
    intro k hk
    rw [h2] at hk
    have e : Spn.opB 0 (Spn.memB p.days k) (Spn.memB [(x, y)] k) = (Spn.memB p.days k || (decide (x ≤ k) && decide (k < y))) := by
      unfold Spn.opB
      simp [Spn.memB]
    rw [e, Bool.or_eq_true] at hk
    rcases hk with hk | hk
    · exact mem_in h hk
    · simp at hk; omega
  have k1 := key _ b
  have k2 := key _ c
  omega
theorem nth_up {s u n y : Int} (h1 : (Trm.nthF s u n 1).1 = y) (h2 : (Trm.nthF s u n 1).2 = 0) : s < y ∧ y ≤ 3652059 ∧ 1 ≤ s := by
  subst h1
  rcases Trm.nthF_is s u n 1 with ⟨h3, h4⟩ | ⟨y, m', d, hv, hn, _, _, n1, _, _, _, h4⟩
  · rw [h4] at h2; exact absurd h2 h3
  · rw [h4] at h2 ⊢
    have hne : Trm.day y m' d u n 1 ≠ 0 := by
      intro e
      rw [e] at h2
      exact absurd h2 (by decide)
    have h6 := (Trm.day_mono y m' d y m' d u n 0 1 hv hv n1 (Int.le_refl _) (by omega) (Int.le_refl _) hne).2.2 (by omega)
    rw [Trm.day_zero y m' d u n hv, hn] at h6
    have h7 := Trm.day_in y m' d u n 1 hv (by omega) n1
    have h8 := Cal.num_in y m' d hv
    rw [hn] at h8
    exact ⟨h6, by rcases h7 with h7 | h7; exact absurd h7 hne; exact h7.2, h8.1⟩
end Pz
/-- a pass's box that may be written, a term's and an answer's -/
structure TF (w W : World) (p : Pz.Pq) (a : Option Addr) (N c : Nat) (u t : Int) : Prop where
  t : Thr w W p a N c u t
  f : ∀ i, W.frozen? ⟨w.heap.size, i, none⟩ = false
def TFS (w : World) (p : Pz.Pq) (a : Option Addr) (N c : Nat) (u t : Int) (W : World) : Prop :=
  W.cell? ⟨w.heap.size, 0, none⟩ = some (.int .i64 p.id) ∧ W.cell? ⟨w.heap.size, 1, none⟩ = some (.int .i64 p.born) ∧ W.cell? ⟨w.heap.size, 2, none⟩ = some (.int .i64 p.a) ∧ W.cell? ⟨w.heap.size, 3, none⟩ = some (.int .i64 p.b) ∧ W.cell? ⟨w.heap.size, 4, none⟩ = some (.int .i64 p.ser) ∧ W.cell? ⟨w.heap.size, 5, none⟩ = some (.slice a N c) ∧ W.cell? ⟨w.heap.size + 1, 0, none⟩ = some (.int .i64 u) ∧ W.cell? ⟨w.heap.size + 1, 1, none⟩ = some (.int .i64 t)
theorem TF.S {w W : World} {p : Pz.Pq} {a : Option Addr} {N c : Nat} {u t : Int} (h : TF w W p a N c u t) : TFS w p a N c u t W := ⟨h.t.h.c0, h.t.h.c1, h.t.h.c2, h.t.h.c3, h.t.h.c4, h.t.h.c5, h.t.t0, h.t.t1⟩
theorem TF.below {w W W' : World} {p : Pz.Pq} {a : Option Addr} {N c : Nat} {u t : Int} (h : TF w W p a N c u t) (hb : Below W.heap.size W W') : TF w W' p a N c u t :=
  ⟨h.t.below hb, fun i => by
    obtain ⟨_, f⟩ := bcell hb
    exact (f _ _ h.t.h.lt).trans (h.f i)⟩
theorem TF.past {w W : World} {p : Pz.Pq} {a : Option Addr} {N c : Nat} {u t : Int} (h : TF w W p a N c u t) {g : Nat} (hg : w.heap.size + 3 ≤ g) (i : Nat) (v : Value) : TF w (W.setCell ⟨g, i, none⟩ v) p a N c u t := by
  have o : ∀ q : Addr, q.block ≠ g → (W.setCell ⟨g, i, none⟩ v).cell? q = W.cell? q := fun q hq => World.cell?_setCell_other _ _ _ _ (fun e => hq (by rw [← e]))
  have hs : (W.setCell ⟨g, i, none⟩ v).heap.size = W.heap.size := Deep.nblk_setCell _ _ _
  have n0 : w.heap.size ≠ g := by omega
  have n1 : w.heap.size + 1 ≠ g := by omega
  exact ⟨⟨h.t.b.setCell (p := ⟨g, i, none⟩) (show w.heap.size ≤ g by omega) _, ⟨by rw [hs]; exact h.t.h.lt, (o _ n0).trans h.t.h.c0, (o _ n0).trans h.t.h.c1, (o _ n0).trans h.t.h.c2, (o _ n0).trans h.t.h.c3, (o _ n0).trans h.t.h.c4, (o _ n0).trans h.t.h.c5⟩, (o _ n1).trans h.t.t0, (o _ n1).trans h.t.t1, h.t.z.past _ (show g ≠ w.heap.size + 2 by omega) _⟩, fun j => by rw [World.frozen?_setCell]; exact h.f j⟩
theorem TF.dys {w W : World} {p : Pz.Pq} {a : Option Addr} {N c : Nat} {u t : Int} (h : TF w W p a N c u t) (xs : List Spn.Sp) (a' : Option Addr) (n' c' : Nat) : TF w (W.setCell ⟨w.heap.size, 5, none⟩ (.slice a' n' c')) { p with days := xs } a' n' c' u t := by
  have o : ∀ q : Addr, q.block ≠ w.heap.size → (W.setCell ⟨w.heap.size, 5, none⟩ (.slice a' n' c')).cell? q = W.cell? q := fun q hq => World.cell?_setCell_other _ _ _ _ (fun e => hq (by rw [← e]))
  exact ⟨⟨h.t.b.setCell (p := ⟨w.heap.size, 5, none⟩) (Nat.le_refl _) _, h.t.h.dys xs a' n' c', (o _ (show w.heap.size + 1 ≠ _ by omega)).trans h.t.t0, (o _ (show w.heap.size + 1 ≠ _ by omega)).trans h.t.t1, h.t.z.past _ (show w.heap.size ≠ w.heap.size + 2 by omega) _⟩, fun j => by rw [World.frozen?_setCell]; exact h.f j⟩
/-- two cells of a box that was made -/
structure G2 (W : World) (g : Nat) (x y : Value) : Prop where
  lt : g < W.heap.size
  c0 : W.cell? ⟨g, 0, none⟩ = some x
  c1 : W.cell? ⟨g, 1, none⟩ = some y
  f0 : W.frozen? ⟨g, 0, none⟩ = false
  f1 : W.frozen? ⟨g, 1, none⟩ = false
theorem G2.new (W : World) (t : TypeId) : G2 (W.alloc (.cells #[.int .i64 0, .int .i64 0] t)) W.heap.size (.int .i64 0) (.int .i64 0) := ⟨by simp, by simp, by simp, by simp, by simp⟩
theorem G2.below {W W' : World} {g : Nat} {x y : Value} (h : G2 W g x y) (hb : Below W.heap.size W W') : G2 W' g x y := by
  obtain ⟨k, f⟩ := bcell hb
  exact ⟨Nat.lt_of_lt_of_le h.lt hb.size, (k _ _ h.lt).trans h.c0, (k _ _ h.lt).trans h.c1, (f _ _ h.lt).trans h.f0, (f _ _ h.lt).trans h.f1⟩
theorem G2.set {W : World} {g : Nat} {x y : Value} (h : G2 W g x y) (x' y' : Value) : G2 ((W.setCell ⟨g, 0, none⟩ x').setCell ⟨g, 1, none⟩ y') g x' y' := by
  refine ⟨by rw [Deep.nblk_setCell, Deep.nblk_setCell]; exact h.lt, ?_, ?_, by rw [World.frozen?_setCell, World.frozen?_setCell]; exact h.f0, by rw [World.frozen?_setCell, World.frozen?_setCell]; exact h.f1⟩
  · exact (World.cell?_setCell_other _ _ _ _ (by simp)).trans (World.cell?_setCell_same _ _ _ h.c0)
  · exact World.cell?_setCell_same _ _ _ ((World.cell?_setCell_other _ _ _ _ (by simp)).trans h.c1)
theorem G2.aside {W : World} {g : Nat} {x y : Value} (h : G2 W g x y) (p : Addr) (hp : p.block ≠ g) (v : Value) : G2 (W.setCell p v) g x y :=
  ⟨by rw [Deep.nblk_setCell]; exact h.lt, (World.cell?_setCell_far _ _ _ _ hp).trans h.c0, (World.cell?_setCell_far _ _ _ _ hp).trans h.c1, by rw [World.frozen?_setCell]; exact h.f0, by rw [World.frozen?_setCell]; exact h.f1⟩
theorem TF.past2 {w W : World} {p : Pz.Pq} {a : Option Addr} {N c : Nat} {u t : Int} (h : TF w W p a N c u t) {g : Nat} {x y : Value} (hg2 : G2 W g x y) (hg : w.heap.size + 3 ≤ g) (x' y' : Value) :
    TF w ((W.setCell ⟨g, 0, none⟩ x').setCell ⟨g, 1, none⟩ y') p a N c u t ∧ G2 ((W.setCell ⟨g, 0, none⟩ x').setCell ⟨g, 1, none⟩ y') g x' y' :=
  ⟨(h.past hg 0 x').past hg 1 y', hg2.set x' y'⟩
theorem TF.new (w : World) (p : Pz.Pq) (a : Option Addr) (N c : Nat) (u t : Int) : TF w (((w.alloc (.cells #[.int .i64 p.id, .int .i64 p.born, .int .i64 p.a, .int .i64 p.b, .int .i64 p.ser, .slice a N c] 24)).alloc (.cells #[.int .i64 u, .int .i64 t] 26)).alloc (.cells #[.int .i64 0, .int .i64 0, .int .i64 0, .int .i64 0, .int .i64 0, .slice none 0 0] 24)) p a N c u t :=
  ⟨Thr.new w p a N c u t, fun i => by
    have hb : Below (w.alloc (.cells #[.int .i64 p.id, .int .i64 p.born, .int .i64 p.a, .int .i64 p.b, .int .i64 p.ser, .slice a N c] 24)).heap.size (w.alloc (.cells #[.int .i64 p.id, .int .i64 p.born, .int .i64 p.a, .int .i64 p.b, .int .i64 p.ser, .slice a N c] 24)) _ := (below_box _ (.cells #[.int .i64 u, .int .i64 t] 26)).alloc (by simp) (.cells #[.int .i64 0, .int .i64 0, .int .i64 0, .int .i64 0, .int .i64 0, .slice none 0 0] 24)
    obtain ⟨_, f⟩ := bcell hb
    exact (f _ _ (by simp)).trans (by simp)⟩
/-- what the last words of a renewal read -/
structure RS (w W : World) (p : Pz.Pq) (va : Option Addr) (vn vc g : Nat) (F q1 : Int) : Prop where
  b : Below w.heap.size w W
  h : Has6 W w.heap.size p va vn vc
  m0 : W.cell? ⟨g, 0, none⟩ = some (.int .i64 F)
  m1 : W.cell? ⟨g, 1, none⟩ = some (.int .i64 q1)
  lg : g < W.heap.size
  lz : w.heap.size + 2 < W.heap.size
  z : ∀ i, i < 6 → (W.cell? ⟨w.heap.size + 2, i, none⟩).isSome = true
  f : ∀ i, W.frozen? ⟨w.heap.size + 2, i, none⟩ = false
  o : OwnS W (w.heap.size + 3) (.slice va vn vc) p.days
  ge : w.heap.size + 3 ≤ g
theorem RS.drew {w W : World} {p : Pz.Pq} {va : Option Addr} {vn vc g : Nat} {F q1 : Int} (h : Hid (RS w W p va vn vc g F q1)) : Hid (RS w W.drew p va vn vc g F q1) := by
  have hb : Below W.heap.size W W.drew := below_drewN (Below.refl _ _) 1
  obtain ⟨k, f⟩ := bcell hb
  exact ⟨below_on h.out.b (Nat.le_refl _) hb, h.out.h.below hb, (k _ _ h.out.lg).trans h.out.m0, (k _ _ h.out.lg).trans h.out.m1, Nat.lt_of_lt_of_le h.out.lg hb.size, Nat.lt_of_lt_of_le h.out.lz hb.size, fun i hi => by rw [k _ _ h.out.lz]; exact h.out.z i hi, fun i => (f _ _ h.out.lz).trans (h.out.f i), h.out.o.still hb, h.out.ge⟩
theorem RS.set {w W : World} {p : Pz.Pq} {va : Option Addr} {vn vc g : Nat} {F q1 : Int} (h : RS w W p va vn vc g F q1) (i : Nat) (hi : i < 6) (v : Value) : RS w (W.setCell ⟨w.heap.size + 2, i, none⟩ v) p va vn vc g F q1 := by
  have o : ∀ q : Addr, q.block ≠ w.heap.size + 2 → (W.setCell ⟨w.heap.size + 2, i, none⟩ v).cell? q = W.cell? q := fun q hq => World.cell?_setCell_other _ _ _ _ (fun e => hq (by rw [← e]))
  have hs : (W.setCell ⟨w.heap.size + 2, i, none⟩ v).heap.size = W.heap.size := Deep.nblk_setCell _ _ _
  have n0 : w.heap.size ≠ w.heap.size + 2 := by omega
  have hge := h.ge
  have n1 : g ≠ w.heap.size + 2 := by omega
  exact ⟨h.b.setCell (show w.heap.size ≤ w.heap.size + 2 by omega) _, ⟨by rw [hs]; exact h.h.lt, (o _ n0).trans h.h.c0, (o _ n0).trans h.h.c1, (o _ n0).trans h.h.c2, (o _ n0).trans h.h.c3, (o _ n0).trans h.h.c4, (o _ n0).trans h.h.c5⟩, (o _ n1).trans h.m0, (o _ n1).trans h.m1, by rw [hs]; exact h.lg, by rw [hs]; exact h.lz,
    fun j hj => isSome_set (h.z j hj) (h.z i hi), fun j => by rw [World.frozen?_setCell]; exact h.f j, h.o.aside ⟨w.heap.size + 2, i, none⟩ (show w.heap.size + 2 < w.heap.size + 3 by omega) v, h.ge⟩
theorem RS.six {w W : World} {p : Pz.Pq} {va : Option Addr} {vn vc g : Nat} {F q1 : Int} (h : Hid (RS w W p va vn vc g F q1)) (v0 v1 v2 v3 v4 v5 : Value) : Hid (RS w (six W (w.heap.size + 2) v0 v1 v2 v3 v4 v5) p va vn vc g F q1) :=
  (((((h.out.set 0 (by omega) v0).set 1 (by omega) v1).set 2 (by omega) v2).set 3 (by omega) v3).set 4 (by omega) v4).set 5 (by omega) v5
def RSS (w : World) (p : Pz.Pq) (va : Option Addr) (vn vc g : Nat) (F q1 : Int) (W : World) : Prop := W.cell? ⟨w.heap.size, 0, none⟩ = some (.int .i64 p.id) ∧ W.cell? ⟨w.heap.size, 1, none⟩ = some (.int .i64 p.born) ∧ W.cell? ⟨w.heap.size, 2, none⟩ = some (.int .i64 p.a) ∧ W.cell? ⟨w.heap.size, 3, none⟩ = some (.int .i64 p.b) ∧ W.cell? ⟨w.heap.size, 4, none⟩ = some (.int .i64 p.ser) ∧ W.cell? ⟨w.heap.size, 5, none⟩ = some (.slice va vn vc) ∧ W.cell? ⟨g, 0, none⟩ = some (.int .i64 F) ∧ W.cell? ⟨g, 1, none⟩ = some (.int .i64 q1)
theorem RS.S2 {w W : World} {p : Pz.Pq} {va : Option Addr} {vn vc g : Nat} {F q1 : Int} (h : Hid (RS w W p va vn vc g F q1)) : RSS w p va vn vc g F q1 W :=
  ⟨h.out.h.c0, h.out.h.c1, h.out.h.c2, h.out.h.c3, h.out.h.c4, h.out.h.c5, h.out.m0, h.out.m1⟩
theorem zqUnion (la lb : List Spn.Sp) (a b : Option Addr) (na ca nb cb : Nat) (x : Int) (w : World) (ea : la.length = na) (eb : lb.length = nb) (hla : na ≤ maxLen) (hlb : nb ≤ maxLen) (hna : a = none → ca = 0 ∧ la = []) (hnb : b = none → cb = 0 ∧ lb = [])
    (hx : Spn.code 0 la lb = x) (ra : Row2 w a la) (rb : Row2 w b lb) :
    Calls Tryz.prog 21 #[.slice a na ca, .slice b nb cb] w fun e w' => ∃ va vn vc, e = .returned (.tuple #[.slice va vn vc, .int .i64 x]) ∧ (Spn.ans 0 la lb).length = vn ∧ vn ≤ vc ∧ vn ≤ 64 ∧ (va = none → vc = 0 ∧ Spn.ans 0 la lb = []) ∧ OwnS w' w.heap.size (.slice va vn vc) (Spn.ans 0 la lb) ∧ Below w.heap.size w w' := by
  subst ea eb hx
  refine (pUnion la lb a b ca cb w hla hlb hna hnb ra rb).mono ?_
  rintro e w' ⟨v, rfl, own, hb⟩
  obtain ⟨va, vc, rfl, h1, h2, h3, h4⟩ := own.parts
  exact ⟨va, _, vc, rfl, rfl, h1, Spn.ans_len 0 la lb, h2, own, hb⟩
set_option maxRecDepth 100000 in
set_option maxHeartbeats 4000000 in
theorem pZRenew_ok (p : Pz.Pq) (a : Option Addr) (N c : Nat) (n u t : Int) (w : World) (hw : Laid w) (hN : p.days.length = N) (hl : N ≤ maxLen) (hc : N ≤ c) (hn : a = none → c = 0 ∧ p.days = []) (hr : Row2 w a p.days) (h0 : Pz.chk p = 0) (hd : ¬ Pz.noD n) :
    Calls Tryz.prog 5 #[pv p a N c, .int .i64 n, .agg #[.int .i64 u, .int .i64 t]] w (rzOwn w (Pz.renew p n u t)) := by
  have ok := (Pz.chk_ok _).1 h0
  have h64 := ((Spn.chk_zero _).1 ok.sp).1
  have HOK : Hid (Pz.Ok p ∧ ¬ Pz.noD n) := ⟨ok, hd⟩
  have T0 : Hid (TF w _ p a N c u t) := TF.new w p a N c u t
  have R : Hid (Row2 w a p.days) := hr
  have HW : Hid (Laid w) := hw
  have HN : Hid (p.days.length = N ∧ N ≤ 64 ∧ N ≤ c ∧ (a = none → c = 0 ∧ p.days = [])) := ⟨hN, by omega, hc, hn⟩
  obtain ⟨E, hE⟩ : ∃ E, Pz.pend p.days = E := ⟨_, rfl⟩
  obtain ⟨F, hF⟩ : ∃ F, Pz.from' p n = F := ⟨_, rfl⟩
  obtain ⟨q1, hq1⟩ : ∃ q, (Trm.nthF F u t 1).1 = q := ⟨_, rfl⟩
  obtain ⟨q2, hq2⟩ : ∃ q, (Trm.nthF F u t 1).2 = q := ⟨_, rfl⟩
  obtain ⟨v0, hv0⟩ : ∃ v, (if q2 = 0 then F else 0) = v := ⟨_, rfl⟩
  obtain ⟨v1, hv1⟩ : ∃ v, (if q2 = 0 then q1 else 0) = v := ⟨_, rfl⟩
  have HV : Hid ((if q2 = 0 then F else 0) = v0 ∧ (if q2 = 0 then q1 else 0) = v1) := ⟨hv0, hv1⟩
  have HQ : Hid (Pz.from' p n = F ∧ (Trm.nthF F u t 1).1 = q1 ∧ (Trm.nthF F u t 1).2 = q2) := ⟨hF, hq1, hq2⟩
  have HFI : Hid (∀ W, Laid W → Calls Tryz.prog 19 #[.int .i64 F, .agg #[.int .i64 u, .int .i64 t]] W fun e w' => e = .returned (.tuple #[.agg #[.int .i64 v0, .int .i64 v1], .int .i64 q2]) ∧ Below W.heap.size W w') := fun W hW => by
    have := zqFirst F u t q1 q2 W hW hq1 hq2
    rwa [hv0, hv1] at this
  have HEND : Hid (∀ W, Row2 W a p.days → Calls Tryz.prog 20 #[pv p a N c] W fun e w' => e = .returned (.int .i64 E) ∧ Below W.heap.size W w') := fun W hW => zqEnd p a N c E W hN (by omega) hW hE
  have HMX : Hid (max n E = F) := by
    show _ = _
    rw [← hF, ← hE]
    unfold Pz.from'
    split <;> omega
  have HON : Hid (∀ W, Row2 W a p.days → Calls Tryz.prog 18 #[pv p a N c, .int .i64 n] W fun e w' => e = .returned (.int .i64 0) ∧ Below W.heap.size W w') := fun W hW => zqOn p a N c n 0 W hN hl hc hn hW (by rw [h0, if_pos rfl, if_neg hd])
  have HE : Hid (Pz.renew p n u t = if q2 = 0 then (if Spn.code 0 p.days [(F, q1)] = 0 then (if Pz.chk (Pz.renewed p F q1) = 0 then (Pz.renewed p F q1, q1 - F, 0) else (Pz.zero, 0, Pz.chk (Pz.renewed p F q1))) else (Pz.zero, 0, Spn.code 0 p.days [(F, q1)])) else (Pz.zero, 0, q2)) := by
    show _ = _
    unfold Pz.renew
    rw [h0, if_pos rfl, if_neg hd, hF, hq1, hq2]
  clear ok h64 hw hN hl hc hn hr h0 hd hE hF hq1 hq2 hv0 hv1
  obtain ⟨id, born, pa, pb, ser, l⟩ := p
  simp only at R HN
  go_enter Tryz.func5, Tryz.ntmps5
  go_wp2_with fail
  refine (HON.out _ (R.out.below T0.out.t.b)).mono ?_
  rintro e x0 ⟨rfl, hb⟩
  have T1 : Hid (TF w x0 ⟨id, born, pa, pb, ser, l⟩ a N c u t) := T0.out.below hb
  clear hb
  obtain ⟨e0, e1, e2, e3, e4, e5, e6, e7⟩ := T1.out.S
  simp only at e0 e1 e2 e3 e4 e5
  go_wp2_with fail
  rename_i K hK
  clear e0 e1 e2 e3 e4 e5 e6 e7
  have T1d : Hid (TF w x0.drew ⟨id, born, pa, pb, ser, l⟩ a N c u t) := T1.out.below (below_drewN (Below.refl _ _) 1)
  have REST : ∀ (g : Nat) (W : World), w.heap.size + 3 ≤ g → TF w W ⟨id, born, pa, pb, ser, l⟩ a N c u t → G2 W g (.int .i64 v0) (.int .i64 v1) → K ⟨#[pv ⟨id, born, pa, pb, ser, l⟩ a N c, .int .i64 n, .agg #[.int .i64 u, .int .i64 t], .pointer (some ⟨w.heap.size, 0, none⟩), undef, .pointer (some ⟨w.heap.size + 1, 0, none⟩), .pointer (some ⟨w.heap.size + 1 + 1, 0, none⟩), .int .i64 0, .int .i64 0, .int .i64 0, .pointer (some ⟨g, 0, none⟩), .int .i64 q2, .agg #[.int .i64 id, .int .i64 born, .int .i64 pa, .int .i64 pb, .int .i64 ser, .slice a N c], .int .i64 n, .int .i64 0, .int .i64 0, .bool false, undef, undef, .tuple #[.agg #[.int .i64 v0, .int .i64 v1], .int .i64 q2], .int .i64 n, .agg #[.int .i64 id, .int .i64 born, .int .i64 pa, .int .i64 pb, .int .i64 ser, .slice a N c], .int .i64 E, .int .i64 F, .agg #[.int .i64 u, .int .i64 t], .tuple #[.agg #[.int .i64 v0, .int .i64 v1], .int .i64 q2], .agg #[.int .i64 v0, .int .i64 v1], .int .i64 q2, undef, undef, undef, undef, undef, undef, undef, undef, undef, undef, undef, undef, undef, undef, undef, undef, undef, undef, undef, undef, undef, undef, undef], []⟩ W := by
    intro g W hg hT hG
    have T2 : Hid (TF w W ⟨id, born, pa, pb, ser, l⟩ a N c u t) := hT
    have GG : Hid (G2 W g (.int .i64 v0) (.int .i64 v1)) := hG
    refine hK _ _ ?_
    clear hK hT hG T1d T1 T0
    by_cases h2 : q2 = 0
    · subst h2
      obtain rfl : F = v0 := (if_pos rfl).symm.trans HV.out.1
      obtain rfl : q1 = v1 := (if_pos rfl).symm.trans HV.out.2
      obtain ⟨x, hx⟩ : ∃ x, Spn.code 0 l [(F, q1)] = x := ⟨_, rfl⟩
      have HX : Hid (Spn.code 0 l [(F, q1)] = x) := hx
      have hup := Pz.nth_up HQ.out.2.1 HQ.out.2.2
      have hw : IntKind.i64.wrap (q1 - F) = q1 - F := by rw [IntKind.wrap_i64]; omega
      have HUP : Hid (F < q1 ∧ q1 ≤ 3652059 ∧ 1 ≤ F) := hup
      have e5 := T2.out.t.h.c5
      obtain ⟨-, m0, m1, -, -⟩ := GG.out
      clear hx hup
      go_wp2_with fail
      have BL : Hid (Below W.heap.size W (W.alloc (.cells #[.int .i64 F, .int .i64 q1] 49))) := below_box _ _
      have hr1 : Row2 (W.alloc (.cells #[.int .i64 F, .int .i64 q1] 49)) (some ⟨W.heap.size, 0, none⟩) [(F, q1)] := (one_own W F q1).row'
      refine (zqUnion l [(F, q1)] a (some ⟨W.heap.size, 0, none⟩) N c 1 1 x _ HN.out.1 rfl (by have := HN.out.2.1; unfold maxLen; omega) (by decide) HN.out.2.2.2 (fun e => by cases e) HX.out (R.out.below (below_on T2.out.t.b (Nat.le_refl _) BL.out)) hr1).mono ?_
      rintro e w3 ⟨va, vn, vc, rfl, hvl, hvc, hv64, hvn, hvo, hb⟩
      have T3 : Hid (TF w w3 ⟨id, born, pa, pb, ser, l⟩ a N c u t) := (T2.out.below BL.out).below hb
      have G3 : Hid (G2 w3 g (.int .i64 F) (.int .i64 q1)) := (GG.out.below BL.out).below hb
      have O3 : Hid (OwnS w3 (w.heap.size + 3) (.slice va vn vc) (Spn.ans 0 l [(F, q1)])) := hvo.weak (by have := T2.out.t.z.lt; rw [World.size_alloc]; omega)
      have HVN : Hid ((Spn.ans 0 l [(F, q1)]).length = vn ∧ vn ≤ vc ∧ vn ≤ 64 ∧ (va = none → vc = 0 ∧ Spn.ans 0 l [(F, q1)] = [])) := ⟨hvl, hvc, hv64, hvn⟩
      have T4 : Hid (TF w (w3.setCell ⟨w.heap.size, 5, none⟩ (.slice va vn vc)) ⟨id, born, pa, pb, ser, Spn.ans 0 l [(F, q1)]⟩ va vn vc u t) := T3.out.dys _ va vn vc
      clear hb hvl hvc hv64 hvn hvo hr1 e5 m0 m1
      have e5 := T3.out.t.h.c5
      have f5 := T3.out.f 5
      by_cases x0 : x = 0
      · subst x0
        have hok := Pz.renewed_ok HOK.out.1 HUP.out.2.2 HUP.out.2.1 HX.out
        have HEE : Hid (Pz.renew ⟨id, born, pa, pb, ser, l⟩ n u t = (⟨id, born, pa, pb, ser, Spn.ans 0 l [(F, q1)]⟩, q1 - F, 0)) := by
          show _ = _
          exact HE.out.trans ((if_pos trivial).trans ((if_pos HX.out).trans (if_pos hok)))
        clear hok
        have HR : Hid (RS w (w3.setCell ⟨w.heap.size, 5, none⟩ (.slice va vn vc)) ⟨id, born, pa, pb, ser, Spn.ans 0 l [(F, q1)]⟩ va vn vc g F q1) := by
          have G4 := G3.out.aside ⟨w.heap.size, 5, none⟩ (show w.heap.size ≠ g by omega) (.slice va vn vc)
          refine ⟨T4.out.t.b, T4.out.t.h, G4.c0, G4.c1, G4.lt, T4.out.t.z.lt, fun i hi => ?_, T4.out.t.z.g, O3.out.aside ⟨w.heap.size, 5, none⟩ (show w.heap.size < w.heap.size + 3 by omega) _, hg⟩
          obtain ⟨-, z0, z1, z2, z3, z4, z5, -⟩ := T4.out.t.z
          match i, hi with
          | 0, _ => rw [z0]; rfl
          | 1, _ => rw [z1]; rfl
          | 2, _ => rw [z2]; rfl
          | 3, _ => rw [z3]; rfl
          | 4, _ => rw [z4]; rfl
          | 5, _ => rw [z5]; rfl
        have HRd := RS.drew HR
        go_wp2_with fail
        clear e5 f5
        generalize w3.setCell ⟨w.heap.size, 5, none⟩ (.slice va vn vc) = w4 at *
        refine wp_region_noPanic ?_
        refine ord_region (S := RSS w ⟨id, born, pa, pb, ser, Spn.ans 0 l [(F, q1)]⟩ va vn vc g F q1) (by kernel_rfl) (RS.S2 HRd) ?_
        intro hS0
        clear HR
        generalize w4.drew = w5 at *
        refine ord_take (i := 0) (d := some 45) (v := ?vr0) rfl rfl (by kernel_rfl) (by kernel_rfl) (by kernel_rfl) (fun _ _ _ h => h) (by rfl) ?hyr0 (by assumption) ?restr0
        case hyr0 => (intro w' hSw; (try dsimp only [RSS] at hSw); go_simp; try with_reducible rfl)
        case restr0 =>
        (try simp only [Act.put]); (repeat first | simp only [List.setIfInBounds_toArray] | simp only [List.set_cons_zero] | simp only [List.set_cons_succ])
        refine ord_take (i := 1) (d := some 46) (v := ?vr1) rfl rfl (by kernel_rfl) (by kernel_rfl) (by kernel_rfl) (fun _ _ _ h => h) (by rfl) ?hyr1 (by assumption) ?restr1
        case hyr1 => (intro w' hSw; (try dsimp only [RSS] at hSw); go_simp; try with_reducible rfl)
        case restr1 =>
        (try simp only [Act.put]); (repeat first | simp only [List.setIfInBounds_toArray] | simp only [List.set_cons_zero] | simp only [List.set_cons_succ])
        refine ord_take (i := 2) (d := some 47) (v := ?vr2) rfl rfl (by kernel_rfl) (by kernel_rfl) (by kernel_rfl) (fun _ _ _ h => h) (by rfl) ?hyr2 (by assumption) ?restr2
        case hyr2 => (intro w' hSw; (try dsimp only [RSS] at hSw); go_simp; try with_reducible rfl)
        case restr2 =>
        (try simp only [Act.put]); (repeat first | simp only [List.setIfInBounds_toArray] | simp only [List.set_cons_zero] | simp only [List.set_cons_succ])
        refine ord_take (i := 3) (d := some 48) (v := ?vr3) rfl rfl (by kernel_rfl) (by kernel_rfl) (by kernel_rfl) (fun _ _ _ h => h) (by rfl) ?hyr3 (by assumption) ?restr3
        case hyr3 => (intro w' hSw; (try dsimp only [RSS] at hSw); go_simp; try with_reducible rfl)
        case restr3 =>
        (try simp only [Act.put]); (repeat first | simp only [List.setIfInBounds_toArray] | simp only [List.set_cons_zero] | simp only [List.set_cons_succ])
        refine ord_take (i := 4) (d := some 49) (v := ?vr4) rfl rfl (by kernel_rfl) (by kernel_rfl) (by kernel_rfl) (fun _ _ _ h => h) (by rfl) ?hyr4 (by assumption) ?restr4
        case hyr4 => (intro w' hSw; (try dsimp only [RSS] at hSw); go_simp; try with_reducible rfl)
        case restr4 =>
        (try simp only [Act.put]); (repeat first | simp only [List.setIfInBounds_toArray] | simp only [List.set_cons_zero] | simp only [List.set_cons_succ])
        refine ord_take (i := 5) (d := some 50) (v := ?vr5) rfl rfl (by kernel_rfl) (by kernel_rfl) (by kernel_rfl) (fun _ _ _ h => h) (by rfl) ?hyr5 (by assumption) ?restr5
        case hyr5 => (intro w' hSw; (try dsimp only [RSS] at hSw); go_simp; try with_reducible rfl)
        case restr5 =>
        (try simp only [Act.put]); (repeat first | simp only [List.setIfInBounds_toArray] | simp only [List.set_cons_zero] | simp only [List.set_cons_succ])
        have H6 := RS.six HRd (.int .i64 id) (.int .i64 born) (.int .i64 pa) (.int .i64 pb) (.int .i64 ser) (.slice va vn vc)
        have z0 := cellOr_is (HRd.out.z 0 (by omega))
        have z1 := cellOr_is (HRd.out.z 1 (by omega))
        have z2 := cellOr_is (HRd.out.z 2 (by omega))
        have z3 := cellOr_is (HRd.out.z 3 (by omega))
        have z4 := cellOr_is (HRd.out.z 4 (by omega))
        have z5 := cellOr_is (HRd.out.z 5 (by omega))
        have g0 := HRd.out.f 0
        have g1 := HRd.out.f 1
        have g2 := HRd.out.f 2
        have g3 := HRd.out.f 3
        have g4 := HRd.out.f 4
        have g5 := HRd.out.f 5
        have hS6 := RS.S2 H6
        refine ord_only (i := 6) rfl (by kernel_rfl) (by rfl) ?_
        refine ord_skip (d := none) (w' := six w5 (w.heap.size + 2) (.int .i64 id) (.int .i64 born) (.int .i64 pa) (.int .i64 pb) (.int .i64 ser) (.slice va vn vc)) rfl (by go_simp; try with_reducible rfl) ?_
        refine ⟨hS6, ?_⟩
        (try simp only [Act.put]); (repeat first | simp only [List.setIfInBounds_toArray] | simp only [List.set_cons_zero] | simp only [List.set_cons_succ])
        refine ord_only (i := 7) rfl (by kernel_rfl) (by rfl) ?_
        refine ord_value (d := some 7) (v := .int .i64 (q1 - F)) (w' := six w5 (w.heap.size + 2) (.int .i64 id) (.int .i64 born) (.int .i64 pa) (.int .i64 pb) (.int .i64 ser) (.slice va vn vc)) rfl (by go_simp; try with_reducible rfl) ?_
        refine ⟨hS6, ?_⟩
        (try simp only [Act.put]); (repeat first | simp only [List.setIfInBounds_toArray] | simp only [List.set_cons_zero] | simp only [List.set_cons_succ])
        refine ord_only (i := 8) rfl (by kernel_rfl) (by rfl) ?_
        refine ord_value (d := some 8) (v := .int .i64 0) (w' := six w5 (w.heap.size + 2) (.int .i64 id) (.int .i64 born) (.int .i64 pa) (.int .i64 pb) (.int .i64 ser) (.slice va vn vc)) rfl (by go_simp; try with_reducible rfl) ?_
        refine ⟨hS6, ?_⟩
        (try simp only [Act.put]); (repeat first | simp only [List.setIfInBounds_toArray] | simp only [List.set_cons_zero] | simp only [List.set_cons_succ])
        refine wpAnyH_done (by kernel_rfl) ?_ _
        refine NoPanic.normal ?_
        clear hS6 hS0
        go_wp2
        refine bodyPost_ret (v := .tuple #[pv ⟨id, born, pa, pb, ser, Spn.ans 0 l [(F, q1)]⟩ va vn vc, .int .i64 (q1 - F), .int .i64 0]) (by simp [results, Tryz.results5, go_sem, z0, z1, z2, z3, z4, z5]) rfl ?_
        rw [HEE.out]
        exact ⟨va, vn, vc, rfl, HVN.out.1, HVN.out.2.1, HVN.out.2.2.1, HVN.out.2.2.2, H6.out.o.weak (by omega), H6.out.b⟩
      · have HEE : Hid (Pz.renew ⟨id, born, pa, pb, ser, l⟩ n u t = (Pz.zero, 0, x)) := by
          show _ = _
          refine HE.out.trans ((if_pos trivial).trans ((if_neg (by rw [HX.out]; exact x0)).trans ?_))
          show (Pz.zero, (0 : Int), Spn.code 0 l [(F, q1)]) = _
          rw [HX.out]
        have x1 : (x != 0) = true := by simpa using x0
        obtain ⟨-, z0, z1, z2, z3, z4, z5, gz⟩ := T3.out.t.z
        have g0 := gz 0
        have g1 := gz 1
        have g2 := gz 2
        have g3 := gz 3
        have g4 := gz 4
        have g5 := gz 5
        clear gz
        clear x0
        go_wp2
        refine bodyPost_ret (v := .tuple #[.agg #[.int .i64 0, .int .i64 0, .int .i64 0, .int .i64 0, .int .i64 0, .slice none 0 0], .int .i64 0, .int .i64 x]) (by simp [results, Tryz.results5, go_sem, z0, z1, z2, z3, z4, z5]) rfl ?_
        exact rzOwn.bad HEE.out (six_below T4.out.t.b (show w.heap.size ≤ w.heap.size + 2 by omega) (.int .i64 0) (.int .i64 0) (.int .i64 0) (.int .i64 0) (.int .i64 0) (.slice none 0 0))
    · have HEE : Hid (Pz.renew ⟨id, born, pa, pb, ser, l⟩ n u t = (Pz.zero, 0, q2)) := by
        show _ = _
        rw [HE.out, if_neg h2]
      have h21 : (q2 != 0) = true := by simpa using h2
      obtain ⟨-, z0, z1, z2, z3, z4, z5, gz⟩ := T2.out.t.z
      have g0 := gz 0
      have g1 := gz 1
      have g2 := gz 2
      have g3 := gz 3
      have g4 := gz 4
      have g5 := gz 5
      clear gz
      clear h2
      go_wp2
      refine bodyPost_ret (v := .tuple #[.agg #[.int .i64 0, .int .i64 0, .int .i64 0, .int .i64 0, .int .i64 0, .slice none 0 0], .int .i64 0, .int .i64 q2]) (by simp [results, Tryz.results5, go_sem, z0, z1, z2, z3, z4, z5]) rfl ?_
      exact rzOwn.bad HEE.out (six_below T2.out.t.b (show w.heap.size ≤ w.heap.size + 2 by omega) (.int .i64 0) (.int .i64 0) (.int .i64 0) (.int .i64 0) (.int .i64 0) (.slice none 0 0))
  clear hK
  · skip
    refine wp_region_noPanic ?_
    refine ord_region (S := (TFS w ⟨id, born, pa, pb, ser, l⟩ a N c u t)) (by kernel_rfl) T1d.out.S ?_
    intro hS0
    have x0T := T1d
    clear T1d T1 T0
    generalize x0.drew = x0 at *
    refine ord_take (i := 0) (d := some 20) (v := ?v0x1) rfl rfl (by kernel_rfl) (by kernel_rfl) (by kernel_rfl) (fun _ _ _ h => h) (by rfl) ?hy0x1 (by assumption) ?rest0x1
    case hy0x1 => (intro w' hSw; (try dsimp only [TFS] at hSw); go_simp; try with_reducible rfl)
    case rest0x1 =>
    (try simp only [Act.put]); (repeat first | simp only [List.setIfInBounds_toArray] | simp only [List.set_cons_zero] | simp only [List.set_cons_succ])
    refine ord_take (i := 1) (d := some 21) (v := ?v1x2) rfl rfl (by kernel_rfl) (by kernel_rfl) (by kernel_rfl) (fun _ _ _ h => h) (by rfl) ?hy1x2 (by assumption) ?rest1x2
    case hy1x2 => (intro w' hSw; (try dsimp only [TFS] at hSw); go_simp; try with_reducible rfl)
    case rest1x2 =>
    (try simp only [Act.put]); (repeat first | simp only [List.setIfInBounds_toArray] | simp only [List.set_cons_zero] | simp only [List.set_cons_succ])
    refine ord_take (i := 4) (d := some 24) (v := ?v4x3) rfl rfl (by kernel_rfl) (by kernel_rfl) (by kernel_rfl) (fun _ _ _ h => h) (by rfl) ?hy4x3 (by assumption) ?rest4x3
    case hy4x3 => (intro w' hSw; (try dsimp only [TFS] at hSw); go_simp; try with_reducible rfl)
    case rest4x3 =>
    (try simp only [Act.put]); (repeat first | simp only [List.setIfInBounds_toArray] | simp only [List.set_cons_zero] | simp only [List.set_cons_succ])
    refine ord_two (i := 2) (j := 9) rfl rfl (by kernel_rfl) (by rfl) (by rfl) ?_ ?_
    · refine ord_call (d := some 22) (f := 20) (args := #[pv ⟨id, born, pa, pb, ser, l⟩ a N c]) rfl (by go_simp; try with_reducible rfl) (HEND.out _ (R.out.below x0T.out.t.b)) ?_
      rintro e x1 ⟨rfl, hb⟩
      have x1T : Hid (TF w x1 ⟨id, born, pa, pb, ser, l⟩ a N c u t) := x0T.out.below hb
      clear hb
      refine ⟨_, rfl, x1T.out.S, ?_⟩
      have hSx1 := x1T.out.S
      (try simp only [Act.put]); (repeat first | simp only [List.setIfInBounds_toArray] | simp only [List.set_cons_zero] | simp only [List.set_cons_succ])
      refine ord_take (i := 3) (d := some 23) (v := ?v3x4) rfl rfl (by kernel_rfl) (by kernel_rfl) (by kernel_rfl) (fun _ _ _ h => h) (by rfl) ?hy3x4 (by assumption) ?rest3x4
      case hy3x4 => (intro w' hSw; (try dsimp only [TFS] at hSw); go_simp; try with_reducible rfl)
      case rest3x4 =>
      (try simp only [Act.put]); (repeat first | simp only [List.setIfInBounds_toArray] | simp only [List.set_cons_zero] | simp only [List.set_cons_succ])
      rw [HMX.out]
      refine ord_two (i := 5) (j := 9) rfl rfl (by kernel_rfl) (by rfl) (by rfl) ?_ ?_
      · refine ord_call (d := some 25) (f := 19) (args := #[.int .i64 F, .agg #[.int .i64 u, .int .i64 t]]) rfl (by go_simp; try with_reducible rfl) (HFI.out _ (HW.out.below x1T.out.t.b)) ?_
        rintro e x2 ⟨rfl, hb⟩
        have x2T : Hid (TF w x2 ⟨id, born, pa, pb, ser, l⟩ a N c u t) := x1T.out.below hb
        clear hb
        refine ⟨_, rfl, x2T.out.S, ?_⟩
        have hSx2 := x2T.out.S
        (try simp only [Act.put]); (repeat first | simp only [List.setIfInBounds_toArray] | simp only [List.set_cons_zero] | simp only [List.set_cons_succ])
        refine ord_take (i := 6) (d := some 19) (v := ?v6x5) rfl rfl (by kernel_rfl) (by kernel_rfl) (by kernel_rfl) (fun _ _ _ h => h) (by rfl) ?hy6x5 (by assumption) ?rest6x5
        case hy6x5 => (intro w' hSw; (try dsimp only [TFS] at hSw); go_simp; try with_reducible rfl)
        case rest6x5 =>
        (try simp only [Act.put]); (repeat first | simp only [List.setIfInBounds_toArray] | simp only [List.set_cons_zero] | simp only [List.set_cons_succ])
        refine ord_take (i := 7) (d := some 26) (v := ?v7x6) rfl rfl (by kernel_rfl) (by kernel_rfl) (by kernel_rfl) (fun _ _ _ h => h) (by rfl) ?hy7x6 (by assumption) ?rest7x6
        case hy7x6 => (intro w' hSw; (try dsimp only [TFS] at hSw); go_simp; try with_reducible rfl)
        case rest7x6 =>
        (try simp only [Act.put]); (repeat first | simp only [List.setIfInBounds_toArray] | simp only [List.set_cons_zero] | simp only [List.set_cons_succ])
        refine ord_take (i := 8) (d := some 27) (v := ?v8x7) rfl rfl (by kernel_rfl) (by kernel_rfl) (by kernel_rfl) (fun _ _ _ h => h) (by rfl) ?hy8x7 (by assumption) ?rest8x7
        case hy8x7 => (intro w' hSw; (try dsimp only [TFS] at hSw); go_simp; try with_reducible rfl)
        case rest8x7 =>
        (try simp only [Act.put]); (repeat first | simp only [List.setIfInBounds_toArray] | simp only [List.set_cons_zero] | simp only [List.set_cons_succ])
        refine ord_only (i := 9) rfl (by kernel_rfl) (by rfl) ?_
        have x3T : Hid (TF w (x2.alloc (.cells #[.int .i64 0, .int .i64 0] 49)) ⟨id, born, pa, pb, ser, l⟩ a N c u t) := x2T.out.below (below_box _ _)
        have x3G : Hid (G2 (x2.alloc (.cells #[.int .i64 0, .int .i64 0] 49)) x2.heap.size (.int .i64 0) (.int .i64 0)) := G2.new _ _
        have x3L : w.heap.size + 3 ≤ x2.heap.size := x2T.out.t.z.lt
        refine ord_value (d := some 10) (v := .pointer (some ⟨x2.heap.size, 0, none⟩)) (w' := x2.alloc (.cells #[.int .i64 0, .int .i64 0] 49)) rfl (by go_simp; try with_reducible rfl) ?_
        refine ⟨x3T.out.S, ?_⟩
        have hSx3 := x3T.out.S
        generalize hWx3 : x2.alloc (.cells #[.int .i64 0, .int .i64 0] 49) = x3 at *
        (try simp only [Act.put]); (repeat first | simp only [List.setIfInBounds_toArray] | simp only [List.set_cons_zero] | simp only [List.set_cons_succ])
        refine ord_only (i := 10) rfl (by kernel_rfl) (by rfl) ?_
        have st := x3T.out.past2 x3G.out (by omega) (.int .i64 v0) (.int .i64 v1)
        obtain ⟨-, y0, y1, y2, y3⟩ := x3G.out
        have y4 : ((x3.setCell ⟨x2.heap.size, 0, none⟩ (.int .i64 v0)).cell? ⟨x2.heap.size, 1, none⟩) = some (.int .i64 0) := (World.cell?_setCell_other _ _ _ _ (fun e => by cases e)).trans y1
        have y5 : (x3.setCell ⟨x2.heap.size, 0, none⟩ (.int .i64 v0)).frozen? ⟨x2.heap.size, 1, none⟩ = false := by rw [World.frozen?_setCell]; exact y3
        refine ord_skip (d := none) (w' := (x3.setCell ⟨x2.heap.size, 0, none⟩ (.int .i64 v0)).setCell ⟨x2.heap.size, 1, none⟩ (.int .i64 v1)) rfl (by go_simp; try with_reducible rfl) ?_
        refine ⟨st.1.S, ?_⟩
        have hSst := st.1.S
        (try simp only [Act.put]); (repeat first | simp only [List.setIfInBounds_toArray] | simp only [List.set_cons_zero] | simp only [List.set_cons_succ])
        refine ord_only (i := 11) rfl (by kernel_rfl) (by rfl) ?_
        refine ord_value (d := some 11) (v := .int .i64 q2) (w' := (x3.setCell ⟨x2.heap.size, 0, none⟩ (.int .i64 v0)).setCell ⟨x2.heap.size, 1, none⟩ (.int .i64 v1)) rfl (by go_simp; try with_reducible rfl) ?_
        refine ⟨hSst, ?_⟩
        (try simp only [Act.put]); (repeat first | simp only [List.setIfInBounds_toArray] | simp only [List.set_cons_zero] | simp only [List.set_cons_succ])
        refine wpAnyH_done (by kernel_rfl) ?_ _
        refine NoPanic.normal ?_
        exact REST x2.heap.size _ (by omega) st.1 st.2
      · have x2T : Hid (TF w (x1.alloc (.cells #[.int .i64 0, .int .i64 0] 49)) ⟨id, born, pa, pb, ser, l⟩ a N c u t) := x1T.out.below (below_box _ _)
        have x2G : Hid (G2 (x1.alloc (.cells #[.int .i64 0, .int .i64 0] 49)) x1.heap.size (.int .i64 0) (.int .i64 0)) := G2.new _ _
        have x2L : w.heap.size + 3 ≤ x1.heap.size := x1T.out.t.z.lt
        refine ord_value (d := some 10) (v := .pointer (some ⟨x1.heap.size, 0, none⟩)) (w' := x1.alloc (.cells #[.int .i64 0, .int .i64 0] 49)) rfl (by go_simp; try with_reducible rfl) ?_
        refine ⟨x2T.out.S, ?_⟩
        have hSx2 := x2T.out.S
        generalize hWx2 : x1.alloc (.cells #[.int .i64 0, .int .i64 0] 49) = x2 at *
        (try simp only [Act.put]); (repeat first | simp only [List.setIfInBounds_toArray] | simp only [List.set_cons_zero] | simp only [List.set_cons_succ])
        refine ord_only (i := 5) rfl (by kernel_rfl) (by rfl) ?_
        refine ord_call (d := some 25) (f := 19) (args := #[.int .i64 F, .agg #[.int .i64 u, .int .i64 t]]) rfl (by go_simp; try with_reducible rfl) (HFI.out _ (HW.out.below x2T.out.t.b)) ?_
        rintro e x3 ⟨rfl, hb⟩
        have x3T : Hid (TF w x3 ⟨id, born, pa, pb, ser, l⟩ a N c u t) := x2T.out.below hb
        have x3G : Hid (G2 x3 x1.heap.size _ _) := x2G.out.below hb
        clear hb
        refine ⟨_, rfl, x3T.out.S, ?_⟩
        have hSx3 := x3T.out.S
        (try simp only [Act.put]); (repeat first | simp only [List.setIfInBounds_toArray] | simp only [List.set_cons_zero] | simp only [List.set_cons_succ])
        refine ord_take (i := 6) (d := some 19) (v := ?v6x8) rfl rfl (by kernel_rfl) (by kernel_rfl) (by kernel_rfl) (fun _ _ _ h => h) (by rfl) ?hy6x8 (by assumption) ?rest6x8
        case hy6x8 => (intro w' hSw; (try dsimp only [TFS] at hSw); go_simp; try with_reducible rfl)
        case rest6x8 =>
        (try simp only [Act.put]); (repeat first | simp only [List.setIfInBounds_toArray] | simp only [List.set_cons_zero] | simp only [List.set_cons_succ])
        refine ord_take (i := 7) (d := some 26) (v := ?v7x9) rfl rfl (by kernel_rfl) (by kernel_rfl) (by kernel_rfl) (fun _ _ _ h => h) (by rfl) ?hy7x9 (by assumption) ?rest7x9
        case hy7x9 => (intro w' hSw; (try dsimp only [TFS] at hSw); go_simp; try with_reducible rfl)
        case rest7x9 =>
        (try simp only [Act.put]); (repeat first | simp only [List.setIfInBounds_toArray] | simp only [List.set_cons_zero] | simp only [List.set_cons_succ])
        refine ord_take (i := 8) (d := some 27) (v := ?v8x10) rfl rfl (by kernel_rfl) (by kernel_rfl) (by kernel_rfl) (fun _ _ _ h => h) (by rfl) ?hy8x10 (by assumption) ?rest8x10
        case hy8x10 => (intro w' hSw; (try dsimp only [TFS] at hSw); go_simp; try with_reducible rfl)
        case rest8x10 =>
        (try simp only [Act.put]); (repeat first | simp only [List.setIfInBounds_toArray] | simp only [List.set_cons_zero] | simp only [List.set_cons_succ])
        refine ord_only (i := 10) rfl (by kernel_rfl) (by rfl) ?_
        have st := x3T.out.past2 x3G.out (by omega) (.int .i64 v0) (.int .i64 v1)
        obtain ⟨-, y0, y1, y2, y3⟩ := x3G.out
        have y4 : ((x3.setCell ⟨x1.heap.size, 0, none⟩ (.int .i64 v0)).cell? ⟨x1.heap.size, 1, none⟩) = some (.int .i64 0) := (World.cell?_setCell_other _ _ _ _ (fun e => by cases e)).trans y1
        have y5 : (x3.setCell ⟨x1.heap.size, 0, none⟩ (.int .i64 v0)).frozen? ⟨x1.heap.size, 1, none⟩ = false := by rw [World.frozen?_setCell]; exact y3
        refine ord_skip (d := none) (w' := (x3.setCell ⟨x1.heap.size, 0, none⟩ (.int .i64 v0)).setCell ⟨x1.heap.size, 1, none⟩ (.int .i64 v1)) rfl (by go_simp; try with_reducible rfl) ?_
        refine ⟨st.1.S, ?_⟩
        have hSst := st.1.S
        (try simp only [Act.put]); (repeat first | simp only [List.setIfInBounds_toArray] | simp only [List.set_cons_zero] | simp only [List.set_cons_succ])
        refine ord_only (i := 11) rfl (by kernel_rfl) (by rfl) ?_
        refine ord_value (d := some 11) (v := .int .i64 q2) (w' := (x3.setCell ⟨x1.heap.size, 0, none⟩ (.int .i64 v0)).setCell ⟨x1.heap.size, 1, none⟩ (.int .i64 v1)) rfl (by go_simp; try with_reducible rfl) ?_
        refine ⟨hSst, ?_⟩
        (try simp only [Act.put]); (repeat first | simp only [List.setIfInBounds_toArray] | simp only [List.set_cons_zero] | simp only [List.set_cons_succ])
        refine wpAnyH_done (by kernel_rfl) ?_ _
        refine NoPanic.normal ?_
        exact REST x1.heap.size _ (by omega) st.1 st.2
    · have x1T : Hid (TF w (x0.alloc (.cells #[.int .i64 0, .int .i64 0] 49)) ⟨id, born, pa, pb, ser, l⟩ a N c u t) := x0T.out.below (below_box _ _)
      have x1G : Hid (G2 (x0.alloc (.cells #[.int .i64 0, .int .i64 0] 49)) x0.heap.size (.int .i64 0) (.int .i64 0)) := G2.new _ _
      have x1L : w.heap.size + 3 ≤ x0.heap.size := x0T.out.t.z.lt
      refine ord_value (d := some 10) (v := .pointer (some ⟨x0.heap.size, 0, none⟩)) (w' := x0.alloc (.cells #[.int .i64 0, .int .i64 0] 49)) rfl (by go_simp; try with_reducible rfl) ?_
      refine ⟨x1T.out.S, ?_⟩
      have hSx1 := x1T.out.S
      generalize hWx1 : x0.alloc (.cells #[.int .i64 0, .int .i64 0] 49) = x1 at *
      (try simp only [Act.put]); (repeat first | simp only [List.setIfInBounds_toArray] | simp only [List.set_cons_zero] | simp only [List.set_cons_succ])
      refine ord_only (i := 2) rfl (by kernel_rfl) (by rfl) ?_
      refine ord_call (d := some 22) (f := 20) (args := #[pv ⟨id, born, pa, pb, ser, l⟩ a N c]) rfl (by go_simp; try with_reducible rfl) (HEND.out _ (R.out.below x1T.out.t.b)) ?_
      rintro e x2 ⟨rfl, hb⟩
      have x2T : Hid (TF w x2 ⟨id, born, pa, pb, ser, l⟩ a N c u t) := x1T.out.below hb
      have x2G : Hid (G2 x2 x0.heap.size _ _) := x1G.out.below hb
      clear hb
      refine ⟨_, rfl, x2T.out.S, ?_⟩
      have hSx2 := x2T.out.S
      (try simp only [Act.put]); (repeat first | simp only [List.setIfInBounds_toArray] | simp only [List.set_cons_zero] | simp only [List.set_cons_succ])
      refine ord_take (i := 3) (d := some 23) (v := ?v3x11) rfl rfl (by kernel_rfl) (by kernel_rfl) (by kernel_rfl) (fun _ _ _ h => h) (by rfl) ?hy3x11 (by assumption) ?rest3x11
      case hy3x11 => (intro w' hSw; (try dsimp only [TFS] at hSw); go_simp; try with_reducible rfl)
      case rest3x11 =>
      (try simp only [Act.put]); (repeat first | simp only [List.setIfInBounds_toArray] | simp only [List.set_cons_zero] | simp only [List.set_cons_succ])
      rw [HMX.out]
      refine ord_only (i := 5) rfl (by kernel_rfl) (by rfl) ?_
      refine ord_call (d := some 25) (f := 19) (args := #[.int .i64 F, .agg #[.int .i64 u, .int .i64 t]]) rfl (by go_simp; try with_reducible rfl) (HFI.out _ (HW.out.below x2T.out.t.b)) ?_
      rintro e x3 ⟨rfl, hb⟩
      have x3T : Hid (TF w x3 ⟨id, born, pa, pb, ser, l⟩ a N c u t) := x2T.out.below hb
      have x3G : Hid (G2 x3 x0.heap.size _ _) := x2G.out.below hb
      clear hb
      refine ⟨_, rfl, x3T.out.S, ?_⟩
      have hSx3 := x3T.out.S
      (try simp only [Act.put]); (repeat first | simp only [List.setIfInBounds_toArray] | simp only [List.set_cons_zero] | simp only [List.set_cons_succ])
      refine ord_take (i := 6) (d := some 19) (v := ?v6x12) rfl rfl (by kernel_rfl) (by kernel_rfl) (by kernel_rfl) (fun _ _ _ h => h) (by rfl) ?hy6x12 (by assumption) ?rest6x12
      case hy6x12 => (intro w' hSw; (try dsimp only [TFS] at hSw); go_simp; try with_reducible rfl)
      case rest6x12 =>
      (try simp only [Act.put]); (repeat first | simp only [List.setIfInBounds_toArray] | simp only [List.set_cons_zero] | simp only [List.set_cons_succ])
      refine ord_take (i := 7) (d := some 26) (v := ?v7x13) rfl rfl (by kernel_rfl) (by kernel_rfl) (by kernel_rfl) (fun _ _ _ h => h) (by rfl) ?hy7x13 (by assumption) ?rest7x13
      case hy7x13 => (intro w' hSw; (try dsimp only [TFS] at hSw); go_simp; try with_reducible rfl)
      case rest7x13 =>
      (try simp only [Act.put]); (repeat first | simp only [List.setIfInBounds_toArray] | simp only [List.set_cons_zero] | simp only [List.set_cons_succ])
      refine ord_take (i := 8) (d := some 27) (v := ?v8x14) rfl rfl (by kernel_rfl) (by kernel_rfl) (by kernel_rfl) (fun _ _ _ h => h) (by rfl) ?hy8x14 (by assumption) ?rest8x14
      case hy8x14 => (intro w' hSw; (try dsimp only [TFS] at hSw); go_simp; try with_reducible rfl)
      case rest8x14 =>
      (try simp only [Act.put]); (repeat first | simp only [List.setIfInBounds_toArray] | simp only [List.set_cons_zero] | simp only [List.set_cons_succ])
      refine ord_only (i := 10) rfl (by kernel_rfl) (by rfl) ?_
      have st := x3T.out.past2 x3G.out (by omega) (.int .i64 v0) (.int .i64 v1)
      obtain ⟨-, y0, y1, y2, y3⟩ := x3G.out
      have y4 : ((x3.setCell ⟨x0.heap.size, 0, none⟩ (.int .i64 v0)).cell? ⟨x0.heap.size, 1, none⟩) = some (.int .i64 0) := (World.cell?_setCell_other _ _ _ _ (fun e => by cases e)).trans y1
      have y5 : (x3.setCell ⟨x0.heap.size, 0, none⟩ (.int .i64 v0)).frozen? ⟨x0.heap.size, 1, none⟩ = false := by rw [World.frozen?_setCell]; exact y3
      refine ord_skip (d := none) (w' := (x3.setCell ⟨x0.heap.size, 0, none⟩ (.int .i64 v0)).setCell ⟨x0.heap.size, 1, none⟩ (.int .i64 v1)) rfl (by go_simp; try with_reducible rfl) ?_
      refine ⟨st.1.S, ?_⟩
      have hSst := st.1.S
      (try simp only [Act.put]); (repeat first | simp only [List.setIfInBounds_toArray] | simp only [List.set_cons_zero] | simp only [List.set_cons_succ])
      refine ord_only (i := 11) rfl (by kernel_rfl) (by rfl) ?_
      refine ord_value (d := some 11) (v := .int .i64 q2) (w' := (x3.setCell ⟨x0.heap.size, 0, none⟩ (.int .i64 v0)).setCell ⟨x0.heap.size, 1, none⟩ (.int .i64 v1)) rfl (by go_simp; try with_reducible rfl) ?_
      refine ⟨hSst, ?_⟩
      (try simp only [Act.put]); (repeat first | simp only [List.setIfInBounds_toArray] | simp only [List.set_cons_zero] | simp only [List.set_cons_succ])
      refine wpAnyH_done (by kernel_rfl) ?_ _
      refine NoPanic.normal ?_
      exact REST x0.heap.size _ (by omega) st.1 st.2
set_option maxRecDepth 100000 in
set_option maxHeartbeats 4000000 in
theorem pZRenew_bad (p : Pz.Pq) (a : Option Addr) (N c : Nat) (n u t d : Int) (w : World) (hN : p.days.length = N) (hl : N ≤ maxLen) (hc : N ≤ c) (hn : a = none → c = 0 ∧ p.days = []) (hr : Row2 w a p.days) (h0 : (if Pz.chk p = 0 then (if Pz.noD n then 3 else 0) else Pz.chk p) = d) (hd : d ≠ 0) :
    Calls Tryz.prog 5 #[pv p a N c, .int .i64 n, .agg #[.int .i64 u, .int .i64 t]] w (rzOwn w (Pz.renew p n u t)) := by
  have T0 : Hid (TF w _ p a N c u t) := TF.new w p a N c u t
  have R : Hid (Row2 w a p.days) := hr
  have HON : Hid (∀ W, Row2 W a p.days → Calls Tryz.prog 18 #[pv p a N c, .int .i64 n] W fun e w' => e = .returned (.int .i64 d) ∧ Below W.heap.size W w') := fun W hW => zqOn p a N c n d W hN hl hc hn hW h0
  have HE : Hid (Pz.renew p n u t = (Pz.zero, 0, d)) := by
    show _ = _
    unfold Pz.renew
    by_cases k : Pz.chk p = 0
    · rw [if_pos k] at h0
      by_cases k2 : Pz.noD n
      · rw [if_pos k2] at h0
        rw [if_pos k, if_pos k2, ← h0]
      · rw [if_neg k2] at h0
        exact absurd h0.symm hd
    · rw [if_neg k] at h0
      rw [if_neg k, h0]
  have d2 : (d != 0) = true := by simpa using hd
  clear hr hN hd h0 hl hc hn
  obtain ⟨id, born, pa, pb, ser, l⟩ := p
  simp only at R
  go_enter Tryz.func5, Tryz.ntmps5
  go_wp2_with fail
  refine (HON.out _ (R.out.below T0.out.t.b)).mono ?_
  rintro e w1 ⟨rfl, hb⟩
  have T1 : Hid (TF w w1 ⟨id, born, pa, pb, ser, l⟩ a N c u t) := T0.out.below hb
  clear hb T0
  obtain ⟨-, z0, z1, z2, z3, z4, z5, g⟩ := T1.out.t.z
  have g0 := g 0
  have g1 := g 1
  have g2 := g 2
  have g3 := g 3
  have g4 := g 4
  have g5 := g 5
  clear g
  go_wp2
  refine bodyPost_ret (v := .tuple #[.agg #[.int .i64 0, .int .i64 0, .int .i64 0, .int .i64 0, .int .i64 0, .slice none 0 0], .int .i64 0, .int .i64 d]) (by simp [results, Tryz.results5, go_sem, z0, z1, z2, z3, z4, z5]) rfl ?_
  exact rzOwn.bad HE.out (six_below T1.out.t.b (show w.heap.size ≤ w.heap.size + 2 by omega) (.int .i64 0) (.int .i64 0) (.int .i64 0) (.int .i64 0) (.int .i64 0) (.slice none 0 0))
theorem pZRenew_own (p : Pz.Pq) (a : Option Addr) (N c : Nat) (n u t : Int) (w : World) (hw : Laid w) (hN : p.days.length = N) (hl : N ≤ maxLen) (hc : N ≤ c) (hn : a = none → c = 0 ∧ p.days = []) (hr : Row2 w a p.days) :
    Calls Tryz.prog 5 #[pv p a N c, .int .i64 n, .agg #[.int .i64 u, .int .i64 t]] w (rzOwn w (Pz.renew p n u t)) := by
  by_cases h0 : Pz.chk p = 0
  · by_cases hd : Pz.noD n
    · exact pZRenew_bad p a N c n u t 3 w hN hl hc hn hr (by rw [if_pos h0, if_pos hd]) (by decide)
    · exact pZRenew_ok p a N c n u t w hw hN hl hc hn hr h0 hd
  · exact pZRenew_bad p a N c n u t _ w hN hl hc hn hr (if_neg h0) h0
end Go.Proofs.YtandlmnbnjkklaaGreatDoor
