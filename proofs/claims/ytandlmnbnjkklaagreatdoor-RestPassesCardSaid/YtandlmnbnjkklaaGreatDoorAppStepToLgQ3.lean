/- A whole slice appended to a slice of the call's own, at a step of a region that draws its order. 'append(append([]T{}, x...), y)' in one statement that draws its order: what the arms want, at whatever type. The document's words on ledgers: a posting more; one turned round. The document's word that turns a posting of a ledger round, and what the statements begin with. The program's place of a posting by its id; its look over a ledger. -/
import Derived.Test.YtandlmnbnjkklaaGreatDoorBaseToAppAll
import Derived.Laws.OwnMore
import Derived.Deep.AppendLies
import Derived.Deep.RegionHeld3
import Derived.Test.YtandlmnbnjkklaaGreatDoorLgQ2ToLgW4
import Derived.Shelf.Abstract
namespace Go.Proofs.YtandlmnbnjkklaaGreatDoor
open Go.RowKit
section
variable {P : Program} (w : World)
/-- 'append(s, x...)', s a slice of the call's own, x whatever slice: nil, empty or not. -/
theorem step_append_any {ops : Array Oper} {o : Oper} {a : Act} {K : Act → World → Prop} {Q : Exit → Act → World → Prop} {E : Prop} (hgd : o.guard = none) (s x : Operand) (t : TypeId)
    (ho : o.op = .call { callee := .builtin .append, args := #[s, x], argTypes := #[t, t] })
    (base : Nat) (e : TypeId) (i : TypeInfo) (z : Value) (size bytes : Nat) (ht : P.underlying t = some (.slice e)) (hi : P.info? e = some i) (hz : i.zero = some z)
    (hsize : i.size = size) (hby : i.bytes = bytes) (hzs : z.cells.size = size) (hsz : 0 < size)
    (v : Value) (n : Nat) (xs : List Value) (hs : a.eval s = v) (hown : w.ownsRow base e size v n xs)
    (ao : Option Addr) (m c : Nat) (news : List Value) (hx : a.eval x = .slice ao m c) (hnil : ao = none → m = 0 ∧ c = 0) (hl : news.length = m * size) (hnews : ∀ ad, ao = some ad → ∀ j u, news[j]? = some u → w.cell? (ad.add j) = some u) (h1 : ∀ u ∈ news, u.oneCell' = true)
    (h63 : n + m ≤ maxLen) (hbytes : (n + m) * bytes ≤ 140737488355328) (hbase : base ≤ w.heap.size)
    (h : ∀ v' w', w'.ownsRow base e size v' (n + m) (xs ++ news) → w.grownBy w' v.ownBlock → K (a.put o.dst v') w') :
    if Region.wanted o (yielded ops a.tmps) = true then Oper.wp P o a w K Q else E := by
  have hw : Region.wanted o (yielded ops a.tmps) = true := by simp [Region.wanted, hgd]
  rw [if_pos hw]
  cases ao with
  | some ad => exact wp_append_own w s x t ho base e i z size bytes ht hi hz hsize hby hzs hsz v n xs hs hown ad m c news hx hl (hnews ad rfl) h1 h63 hbytes hbase fun v' w' a b _ => h v' w' a b
  | none =>
    obtain ⟨rfl, rfl⟩ := hnil rfl
    have hn : news = [] := List.eq_nil_of_length_eq_zero (by simpa using hl)
    subst hn
    have hr := run_append_owned_none (P := P) (w := w) base t o.type e i size ht hi v n xs hown
    unfold Oper.wp execOp
    simp only [ho, resolve, invoke, builtin, Sem.run_bind, Sem.run_pure, Result.andThen_ok, List.map_toArray, List.map_cons, List.map_nil, hs, hx, hr]
    exact h v w (by simpa using hown) (World.grownBy.refl w _)
end
end Go.Proofs.YtandlmnbnjkklaaGreatDoor
namespace Go.Proofs.YtandlmnbnjkklaaGreatDoor
open Go.RowKit
section
variable {w3 X Z w4 w5 : World} {T : TypeId} {sz : Nat}
/-- behind the first append, onto the empty row at block gE -/
theorem ap_one {v1 : Value} {n gE : Nat} {xs : List Value} (hb : Below w3.heap.size w3 X) (hg : w3.heap.size ≤ gE)
    (hown : w4.ownsRow w3.heap.size T sz v1 (0 + n) ([] ++ xs)) (hgrow : X.grownBy w4 (Value.ownBlock (.slice (some ⟨gE, 0, none⟩) 0 0))) :
    w4.ownsRow w3.heap.size T sz v1 n xs ∧ Below w3.heap.size w3 w4 := by
  rw [Nat.zero_add, List.nil_append] at hown
  exact ⟨hown, hb.grown hgrow hb.size (fun j hj => by cases hj; exact hg)⟩
/-- behind the second -/
theorem ap_two {v1 v2 : Value} {n : Nat} {xs ys : List Value} (hb : Below w3.heap.size w3 Z) (h1 : Z.ownsRow w3.heap.size T sz v1 n xs)
    (hown : w5.ownsRow w3.heap.size T sz v2 (n + 1) (xs ++ ys)) (hgrow : Z.grownBy w5 v1.ownBlock) :
    w5.ownsRow w3.heap.size T sz v2 (n + 1) (xs ++ ys) ∧ Below w3.heap.size w3 w5 :=
  ⟨hown, hb.grown hgrow hb.size (fun j hj => (World.ownsRow.lt h1 j hj).1)⟩
theorem ap_e1 (w3 : World) (T sz : Nat) : ((w3.alloc (.cells #[] T)).drew).ownsRow w3.heap.size T sz (.slice (some ⟨w3.heap.size, 0, none⟩) 0 0) 0 [] :=
  World.ownsRow.drew (World.ownsRow_made w3 #[] 0 (Nat.le_refl _) (Nat.zero_le _) (by simp))
theorem ap_e1' (w3 : World) (T sz : Nat) (M : Obj) : (((w3.alloc (.cells #[] T)).alloc M).drew).ownsRow w3.heap.size T sz (.slice (some ⟨w3.heap.size, 0, none⟩) 0 0) 0 [] :=
  World.ownsRow.drew (World.ownsRow.alloc (World.ownsRow_made w3 #[] 0 (Nat.le_refl _) (Nat.zero_le _) (by simp)) _)
theorem ap_e2 (w3 : World) (T sz : Nat) (M : Obj) : (((w3.alloc M).alloc (.cells #[] T)).drew).ownsRow w3.heap.size T sz (.slice (some ⟨w3.heap.size + 1, 0, none⟩) 0 0) 0 [] := by
  have h := World.ownsRow_made (base := w3.heap.size) (e := T) (size := sz) (w3.alloc M) #[] 0 (by simp) (Nat.zero_le _) (by simp)
  rw [World.size_alloc] at h
  exact World.ownsRow.drew h
/-- the one more, laid ahead of the empty row -/
theorem ap_m1 {M E : Obj} {n c : Nat} (h : (((w3.alloc M).alloc E).drew).grownBy w4 (Value.ownBlock (.slice (some ⟨w3.heap.size + 1, 0, none⟩) n c))) : w4.heap[w3.heap.size]? = some M :=
  (h.block w3.heap.size (by show _ < ((w3.alloc M).alloc E).heap.size; simp; omega) (fun e => by have e2 : w3.heap.size = w3.heap.size + 1 := Option.some.inj e; omega)).trans (heap_alloc2_old w3 M E)
/-- .. or behind it -/
theorem ap_m2 {M E : Obj} {n c : Nat} (h : (((w3.alloc E).alloc M).drew).grownBy w4 (Value.ownBlock (.slice (some ⟨w3.heap.size, 0, none⟩) n c))) : w4.heap[w3.heap.size + 1]? = some M :=
  (h.block (w3.heap.size + 1) (by show _ < ((w3.alloc E).alloc M).heap.size; simp) (fun e => by have e2 : w3.heap.size + 1 = w3.heap.size := Option.some.inj e; omega)).trans (heap_alloc2_new w3 E M)
/-- two cells of an old block -/
theorem ap_keep {W0 w' : World} {bx : Nat} {x y : Value} (h : W0.cell? ⟨bx, 0, none⟩ = some x ∧ W0.cell? ⟨bx, 1, none⟩ = some y) (hlt : bx < W0.heap.size) (hb : Below W0.heap.size W0 w') :
    w'.cell? ⟨bx, 0, none⟩ = some x ∧ w'.cell? ⟨bx, 1, none⟩ = some y :=
  ⟨(hb.cell (p := ⟨bx, 0, none⟩) hlt).trans h.1, (hb.cell (p := ⟨bx, 1, none⟩) hlt).trans h.2⟩
end
end Go.Proofs.YtandlmnbnjkklaaGreatDoor
namespace Go.Proofs.YtandlmnbnjkklaaGreatDoor
open Go.RowKit Go.BigFrame

theorem infoG : ∃ i : TypeInfo, Tryz.prog.info? 34 = some i ∧ i.zero = some (.agg #[.int .i64 0, .slice none 0 0]) ∧ i.size = 2 ∧ i.bytes = 32 := by
  have h := infoPs
  cases hq : Tryz.prog.info? 34 with
  | none => simp [hq] at h
  | some i => simp [hq] at h; exact ⟨i, rfl, h.1, h.2.1, h.2.2⟩
theorem RowG.news {w : World} {a : Option Addr} {l : List Lg.Ps} (h : RowG w a l) : ∃ us, RdAll w us l ∧ ∀ W, Below w.heap.size w W → ∀ ad, a = some ad → ∀ (j : Nat) (u : Value), (flatP us)[j]? = some u → W.cell? (ad.add j) = some u := by
  obtain ⟨us, h1, h2⟩ := h
  refine ⟨us, h1, fun W hW ad had j u hj => ?_⟩
  rcases h2 with rfl | ⟨b, off, e, hlt, hc⟩
  · have : us = [] := List.eq_nil_of_length_eq_zero h1.1
    subst this
    simp [flatP] at hj
  · obtain rfl := Option.some.inj (had.symm.trans e)
    have := (hW.cell (p := ⟨b, off + j, none⟩) hlt).trans (hc j u hj)
    cases j with
    | zero => exact this
    | succ j => simpa [Addr.add] using this
/-- behind both appends -/
theorem post_end {w0 w5 : World} {us : List Pu} {l : List Lg.Ps} {id : Int} {ls : List Lg.Ln} {pa : Option Addr} {q pc g2 c2 k : Nat} (hk : us.length = k) (hq : ls.length = q) (hqc : ls.length ≤ pc) (hrd : RdAll w0 us l) (hp : RowL w0 pa ls)
    (hown : w5.ownsRow w0.heap.size 34 2 (.slice (some ⟨g2, 0, none⟩) (k + 1) c2) (k + 1) (flatP us ++ [.int .i64 id, .slice pa q pc])) (hb : Below w0.heap.size w0 w5) :
    (l ++ [(id, ls)]).length = k + 1 ∧ k + 1 ≤ c2 ∧ RowG w5 (some ⟨g2, 0, none⟩) (l ++ [(id, ls)]) := by
  subst hk hq
  have ho : OwnG w5 w0.heap.size (.slice (some ⟨g2, 0, none⟩) (us.length + 1) c2) (us ++ [(id, .slice pa ls.length pc)]) := by
    unfold OwnG; rw [flatP_append, List.length_append]; exact hown
  have hr : RdAll w5 (us ++ [(id, .slice pa ls.length pc)]) (l ++ [(id, ls)]) := (hrd.below hb).snoc ⟨rfl, pa, pc, rfl, hqc, hp.below hb⟩
  obtain ⟨a, cap, e, h1, _, h2⟩ := ho.row hr
  have hlen : (l ++ [(id, ls)]).length = us.length + 1 := by rw [List.length_append, ← hrd.1]; rfl
  rw [hlen] at e h1
  cases e
  exact ⟨hlen, h1, h2⟩
theorem Fit.snoc {l : List Lg.Ps} (h : Fit l) {p : Lg.Ps} (hp : p.2.length ≤ maxLen) : Fit (l ++ [p]) := by
  intro q hq
  rcases List.mem_append.1 hq with hq | hq
  · exact h q hq
  · rw [List.mem_singleton] at hq; subst hq; exact hp
/-- what a ledger is answered as: it lies there -/
def ldgPost (w : World) (r : List Lg.Ps × Int) (e : Ending) (w' : World) : Prop := ∃ a cap, e = .returned (.tuple #[.slice a r.1.length cap, .int .i64 r.2]) ∧ r.1.length ≤ cap ∧ (a = none → r.1 = [] ∧ cap = 0) ∧ Fit r.1 ∧ RowG w' a r.1 ∧ Below w.heap.size w w'
theorem ldgPost.bad {w w' : World} {r : List Lg.Ps × Int} {c : Int} (h : r = ([], c)) (hb : Below w.heap.size w w') : ldgPost w r (.returned (.tuple #[.slice none 0 0, .int .i64 c])) w' := by
  subst h
  exact ⟨none, 0, rfl, Nat.le_refl _, fun _ => ⟨rfl, rfl⟩, fun p hp => (by cases hp), RowG.nil _ _, hb⟩
/-- the first of an id, looked for -/
def noId (l : List Lg.Ps) (id : Int) (k : Nat) : Prop := ∀ (j : Nat) (p : Lg.Ps), j < k → l[j]? = some p → p.1 ≠ id
theorem noId.look {l : List Lg.Ps} {id : Int} {k : Nat} (h : noId l id k) {p : Lg.Ps} (hk : l[k]? = some p) (hp : p.1 = id) : Lg.look l id = some p := by
  unfold Lg.look
  rw [List.find?_eq_some_iff_getElem]
  have hlt : k < l.length := by
    rcases Nat.lt_or_ge k l.length with c | c
    · exact c
    · rw [List.getElem?_eq_none c] at hk; cases hk
  refine ⟨decide_eq_true hp, k, hlt, by rw [List.getElem?_eq_getElem hlt] at hk; exact Option.some.inj hk, fun j hj => ?_⟩
  have := h j _ hj (List.getElem?_eq_getElem (by omega))
  simpa using this
theorem noId.none {l : List Lg.Ps} {id : Int} {k : Nat} (h : noId l id k) (hk : l.length ≤ k) : Lg.look l id = none := by
  unfold Lg.look
  rw [List.find?_eq_none]
  intro p hp
  obtain ⟨j, hj, rfl⟩ := List.mem_iff_getElem.1 hp
  have := h j _ (by omega) (List.getElem?_eq_getElem hj)
  simpa using this
theorem noId.next {l : List Lg.Ps} {id : Int} {k : Nat} (h : noId l id k) {p : Lg.Ps} (hk : l[k]? = some p) (hp : p.1 ≠ id) : noId l id (k + 1) := by
  intro j q hj hq
  rcases Nat.lt_or_ge j k with c | c
  · exact h j q c hq
  · obtain rfl : j = k := by omega
    obtain rfl := Option.some.inj (hk.symm.trans hq)
    exact hp
end Go.Proofs.YtandlmnbnjkklaaGreatDoor
namespace Go.Proofs.YtandlmnbnjkklaaGreatDoor
open Go.RowKit Go.BigFrame

theorem OwnL.fits {w : World} {B : Nat} {v : Value} {xs : List Lg.Ln} (h : OwnL w B v xs) {a : Option Addr} {n k : Nat} (e : v = .slice a n k) : xs.length ≤ k := by
  rcases h.2 with ⟨h1, h0⟩ | ⟨g, cap, cur, h1, _, _, h3, _⟩
  · omega
  · rw [h1] at e
    cases e
    exact h3
theorem ldgPost.mono {w w1 w' : World} {r : List Lg.Ps × Int} {e : Ending} (h : ldgPost w1 r e w') (hb : Below w.heap.size w w1) : ldgPost w r e w' := by
  obtain ⟨a, cap, h1, h2, h3, h4, h5, h6⟩ := h
  exact ⟨a, cap, h1, h2, h3, h4, h5, below_on hb (Nat.le_refl _) h6⟩
end Go.Proofs.YtandlmnbnjkklaaGreatDoor
namespace Go.Proofs.YtandlmnbnjkklaaGreatDoor
open Go.RowKit Go.BigFrame

namespace Lg
def plcr (id : Int) : List Ps → Nat → Int
  | [], _ => -1
  | p :: r, k => if p.1 = id then (k : Int) else plcr id r (k + 1)
/-- the place of the first posting of an id, -1 where there is none -/
def plc (l : List Ps) (id : Int) : Int := plcr id l 0
def plat (l : List Ps) (id : Int) (k : Nat) : Int := plcr id (l.drop k) k
theorem plat_end (l : List Ps) (id : Int) : plat l id l.length = -1 := by unfold plat; rw [List.drop_length]; rfl
theorem plat_step (l : List Ps) (id : Int) (k : Nat) (p : Ps) (h : l[k]? = some p) : plat l id k = if p.1 = id then (k : Int) else plat l id (k + 1) := by
  unfold plat
  rw [drop_cons l k p h]
  rfl
theorem plcr_is (id : Int) : ∀ (l : List Ps) (k : Nat), (plcr id l k = -1 ∧ look l id = none ∧ hasI l id = false) ∨ ∃ (j : Nat) (ls : List Ln), plcr id l k = (k + j : Nat) ∧ l[j]? = some (id, ls) ∧ look l id = some (id, ls) ∧ hasI l id = true
  | [], k => .inl ⟨rfl, rfl, rfl⟩
  | p :: r, k => by
    by_cases h : p.1 = id
    · refine .inr ⟨0, p.2, ?_, ?_, ?_, ?_⟩
      · unfold plcr; rw [if_pos h]; rfl
      · subst h; rfl
      · unfold look; rw [List.find?_cons, decide_eq_true h]; subst h; rfl
      · unfold hasI; rw [List.any_cons, decide_eq_true h]; rfl
    · have e1 : plcr id (p :: r) k = plcr id r (k + 1) := by
        show (if p.1 = id then (k : Int) else plcr id r (k + 1)) = _
        rw [if_neg h]
      have e2 : look (p :: r) id = look r id := by unfold look; rw [List.find?_cons, decide_eq_false h]
      have e3 : hasI (p :: r) id = hasI r id := by unfold hasI; rw [List.any_cons, decide_eq_false h]; rfl
      rw [e1, e2, e3]
      rcases plcr_is id r (k + 1) with h1 | ⟨j, ls, h1, h2, h3, h4⟩
      · exact .inl h1
      · exact .inr ⟨j + 1, ls, by rw [h1]; congr 1; omega, by simpa using h2, h3, h4⟩
theorem plc_is (l : List Ps) (id : Int) : (plc l id = -1 ∧ look l id = none ∧ hasI l id = false) ∨ ∃ (j : Nat) (ls : List Ln), plc l id = j ∧ l[j]? = some (id, ls) ∧ look l id = some (id, ls) ∧ hasI l id = true := by
  rcases plcr_is id l 0 with h | ⟨j, ls, h1, h2⟩
  · exact .inl h
  · exact .inr ⟨j, ls, by unfold plc; rw [h1]; congr 1; omega, h2⟩
end Lg
theorem isPs (id n : Int) (v : Value) (b : Nat) (w : World) (hb : b < w.heap.size) (hc : w.cell? ⟨b, 0, none⟩ = some (.int .i64 id)) :
    Calls Tryz.prog 59 #[.agg #[.int .i64 n, v], .pointer (some ⟨b, 0, none⟩)] w fun e w' => e = .returned (.bool (decide (n = id))) ∧ Below w.heap.size w w' := by
  have hne : b ≠ w.heap.size := by omega
  by_cases h : n = id
  · subst h
    go_enter Tryz.func59, Tryz.ntmps59
    go_wp2
    go_ret
    exact ⟨ret_bool (by simp), below_box w _⟩
  · have h' : (n == id) = false := by simpa using h
    go_enter Tryz.func59, Tryz.ntmps59
    go_wp2
    go_ret
    exact ⟨ret_bool (by simp [h]), below_box w _⟩
set_option maxRecDepth 100000 in
set_option maxHeartbeats 1000000 in
theorem lindex_any (l : List Lg.Ps) (a : Option Addr) (cap : Nat) (id : Int) (b : Nat) (w : World) (hl : l.length ≤ maxLen) (hr : RowG w a l) (hbl : b < w.heap.size) (hc : w.cell? ⟨b, 0, none⟩ = some (.int .i64 id)) :
    Calls Tryz.prog 58 #[.slice a l.length cap, .func (.func 59) #[] #[.pointer (some ⟨b, 0, none⟩)]] w fun e w' => e = .returned (.int .i64 (Lg.plc l id)) ∧ Below w.heap.size w w' := by
  unfold maxLen at hl
  have eg : ∀ args w, (callFunc 59 args).run Tryz.prog w = .ok (.enter 59 args) w := enters_of Tryz.func59 (by kernel_rfl) rfl
  have HR : Hid (RowG w a l) := hr
  have HC : Hid (w.cell? ⟨b, 0, none⟩ = some (.int .i64 id)) := hc
  clear hr hc
  go_enter Tryz.func58, Tryz.ntmps58
  go_wp2
  go_loopw [5, 8] (fun _ i wr => ∃ (k : Nat), k ≤ l.length ∧ i = .int .i64 k ∧ Lg.plc l id = Lg.plat l id k ∧ Below w.heap.size w wr) (fun _ i _ => l.length - (intOf i).toNat)
  case atStart => exact ⟨0, Nat.zero_le _, rfl, rfl, Below.refl _ _⟩
  case round =>
    obtain ⟨k, hk, rfl, hm, hb⟩ := hrel
    have HM : Hid (Lg.plc l id = Lg.plat l id k) := hm
    have HB : Hid (Below w.heap.size w wr) := hb
    clear hm
    by_cases hlt : k < l.length
    · have hlt' : (k : Int) < (l.length : Int) := by omega
      obtain ⟨b', off, n, ls, la, lc, rfl, hbs, hx, c1, c2, -, -⟩ := (HR.out.below hb).at hlt
      have HS : Hid (_) := Lg.plat_step l id k (n, ls) hx
      have hcl := isPs id n (.slice la ls.length lc) b wr (Nat.lt_of_lt_of_le hbl hb.size) ((hb.cell (p := ⟨b, 0, none⟩) hbl).trans HC.out)
      clear hx hb
      by_cases h1 : n = id
      · have HE : Hid ((k : Int) = Lg.plc l id) := by show _ = _; rw [HM.out, HS.out, if_pos h1]
        rw [show decide (n = id) = true by simpa using h1] at hcl
        clear h1
        go_wp2_with (go_at_fn 59; refine hcl.mono ?_; rintro e w3 ⟨rfl, hb3⟩; have HB3 : Hid (Below wr.heap.size wr w3) := hb3; clear hb3)
        go_ret
        exact ⟨ret_int HE.out, below_on HB.out (Nat.le_refl _) HB3.out⟩
      · have HE : Hid (Lg.plc l id = Lg.plat l id (k + 1)) := by show _ = _; rw [HM.out, HS.out, if_neg h1]
        rw [show decide (n = id) = false by simpa using h1] at hcl
        clear h1
        go_wp2_with (go_at_fn 59; refine hcl.mono ?_; rintro e w3 ⟨rfl, hb3⟩; have HB3 : Hid (Below wr.heap.size wr w3) := hb3; clear hb3)
        go_roundw
        case rel => exact ⟨k + 1, by omega, by go_num, HE.out, below_on HB.out (Nat.le_refl _) HB3.out⟩
        case measure => simp [intOf]; omega
    · have HE : Hid (-1 = Lg.plc l id) := by
        have : k = l.length := by omega
        show _ = _; rw [HM.out, this]; exact (Lg.plat_end l id).symm
      go_wp2
      go_ret
      exact ⟨ret_int HE.out, HB.out⟩
set_option maxHeartbeats 1000000 in
theorem lfind_at (l : List Lg.Ps) (n : Nat) (K : Int) (a : Option Addr) (cap : Nat) (id : Int) (w : World) (hn : l.length = n) (hl : n ≤ maxLen) (hk : Lg.plc l id = K) (hr : RowG w a l) :
    Calls Tryz.prog 31 #[.slice a n cap, .int .i64 id] w fun e w' => e = .returned (.int .i64 K) ∧ Below w.heap.size w w' := by
  subst hn hk
  have hi := lindex_any l a cap id w.heap.size (w.alloc (.cells #[.int .i64 id] 3)) hl (hr.below (below_box w _)) (by simp) (by simp)
  have HB : Hid (Below w.heap.size w (w.alloc (.cells #[.int .i64 id] 3))) := below_box w _
  clear hr
  go_enter Tryz.func31, Tryz.ntmps31
  go_wp2_with (go_at_call 58; refine hi.mono ?_; rintro e w3 ⟨rfl, hb3⟩; have HB3 : Hid (Below _ _ w3) := hb3; clear hb3)
  go_ret
  exact ⟨rfl, below_on HB.out (Nat.le_refl _) HB3.out⟩
theorem RowG.take {w : World} {a : Option Addr} {l : List Lg.Ps} (h : RowG w a l) (k : Nat) : RowG w a (l.take k) := by
  obtain ⟨us, h1, h2⟩ := h
  refine ⟨us.take k, ⟨by simp [h1.1], fun i u p hu hp => ?_⟩, ?_⟩
  · have hi : i < k := by
      rcases Nat.lt_or_ge i k with c | c
      · exact c
      · rw [List.getElem?_eq_none (by simp; omega)] at hu; cases hu
    rw [List.getElem?_take_of_lt hi] at hu hp
    exact h1.2 i u p hu hp
  · rcases h2 with rfl | ⟨b, off, e, hlt, hc⟩
    · exact .inl (by simp)
    · refine .inr ⟨b, off, e, hlt, fun j v hj => hc j v ?_⟩
      have e2 : flatP us = flatP (us.take k) ++ flatP (us.drop k) := by rw [← flatP_append, List.take_append_drop]
      have hjl : j < (flatP (us.take k)).length := by
        rcases Nat.lt_or_ge j (flatP (us.take k)).length with c | c
        · exact c
        · rw [List.getElem?_eq_none c] at hj; cases hj
      rw [e2, List.getElem?_append_left hjl]
      exact hj
end Go.Proofs.YtandlmnbnjkklaaGreatDoor
