/- Small facts that every walk uses: an answer is what it equals; what lay there stays. Slices of whole numbers: read, and made by append. Walks over slices of spans (two whole numbers each) that are only read. Whole slices appended to a slice of the call's own. -/
import Derived.Test.YtandlmnbnjkklaaGreatDoorProg
import Derived.WalkKit
import Derived.WalkSpells
import Derived.WalkLawsBesides
import Derived.Deep.QuietTactic
import Derived.BigQuiet
import Derived.Lib.QuietBelow
import Derived.Laws.OwnMore
import Derived.Test.YtandlmnbnjkklaaGreatDoorSpn
namespace Go.Proofs.YtandlmnbnjkklaaGreatDoor
open Go.RowKit

theorem ret_int {k : IntKind} {a b : Int} (h : a = b) : Ending.returned (.int k a) = .returned (.int k b) := by rw [h]
theorem ret_two {k : IntKind} {a b : Int} {v : Value} (h : a = b) : Ending.returned (.tuple #[.int k a, v]) = .returned (.tuple #[.int k b, v]) := by rw [h]
theorem ret_bool {a b : Bool} (h : a = b) : Ending.returned (.bool a) = .returned (.bool b) := by rw [h]
theorem ret_err {k : IntKind} {v : Value} {a b : Int} (h : a = b) : Ending.returned (.tuple #[v, .int k a]) = .returned (.tuple #[v, .int k b]) := by rw [h]
theorem drewN_below {w w' : World} (h : ∃ m, w' = w.drewN m) : Below w.heap.size w w' := by
  obtain ⟨m, rfl⟩ := h
  exact below_drewN (Below.refl _ _) m
theorem bcell {W w1 : World} (hb : Below W.heap.size W w1) : (∀ b o, b < W.heap.size → w1.cell? ⟨b, o, none⟩ = W.cell? ⟨b, o, none⟩) ∧ (∀ b o, b < W.heap.size → w1.frozen? ⟨b, o, none⟩ = W.frozen? ⟨b, o, none⟩) :=
  ⟨fun b o h => hb.cell (p := ⟨b, o, none⟩) h, fun b o h => hb.frozen (p := ⟨b, o, none⟩) h⟩
theorem below_box (w : World) (o : Obj) : Below w.heap.size w (w.alloc o) := (Below.refl _ _).alloc (Nat.le_refl _) _
theorem below_boxN (w : World) (o : Obj) (n : Nat) : Below w.heap.size w ((w.alloc o).drewN n) := below_drewN (below_box w o) n
theorem below_on {B : Nat} {a W w' : World} (h : Below B a W) (hB : B ≤ a.heap.size) (hb : Below W.heap.size W w') : Below B a w' :=
  h.trans (hb.mono (Nat.le_trans hB h.size))
end Go.Proofs.YtandlmnbnjkklaaGreatDoor
namespace Go.Proofs.YtandlmnbnjkklaaGreatDoor
open Go.RowKit

theorem infoInt : (Tryz.prog.info? 3).map (fun i => (i.zero, i.size, i.bytes)) = some (some (.int .i64 0), 1, 8) := by kernel_rfl
/-- A slice of whole numbers that lies there. -/
def Row1 (w : World) (a : Option Addr) (l : List Int) : Prop :=
  l = [] ∨ ∃ b off, a = some ⟨b, off, none⟩ ∧ b < w.heap.size ∧ ∀ i : Nat, i < l.length → w.cell? ⟨b, off + i, none⟩ = some (.int .i64 (l.getD i 0))
theorem Row1.at {w : World} {a : Option Addr} {l : List Int} (hr : Row1 w a l) {k : Nat} (hlt : k < l.length) :
    ∃ b off x, a = some ⟨b, off, none⟩ ∧ b < w.heap.size ∧ l[k]? = some x ∧ w.cell? ⟨b, off + k, none⟩ = some (.int .i64 x) := by
  rcases hr with rfl | ⟨b, off, rfl, hb, hc⟩
  · simp at hlt
  exact ⟨b, off, _, rfl, hb, by simp [List.getD, List.getElem?_eq_getElem hlt], hc k hlt⟩
/-- A slice of whole numbers that the call has made. -/
def OwnI (w : World) (B : Nat) (v : Value) (xs : List Int) : Prop := w.ownsRow B 3 1 v xs.length (xs.map (Value.int .i64))
theorem OwnI.nil (w : World) (B : Nat) : OwnI w B (.slice none 0 0) [] := World.ownsRow_nil _ _ _ _
/-- Behind an append of one number. -/
theorem OwnI.keep {w wr w1 : World} {B : Nat} {v v' : Value} {xs : List Int} {x : Int} {o : Obj} (hB : B ≤ wr.heap.size) (hown : OwnI wr B v xs) (hnx : Below B w wr)
    (hown' : w1.ownsRow B 3 1 v' (xs.length + 1) (xs.map (Value.int .i64) ++ [.int .i64 x])) (hgrow : (wr.alloc o).grownBy w1 v.ownBlock) :
    OwnI w1 B v' (xs ++ [x]) ∧ Below B w w1 :=
  ⟨by unfold OwnI; simpa using hown', (hnx.alloc hB o).grown hgrow (by simp; omega) (fun j hj => by have := (World.ownsRow.lt hown j hj).1; omega)⟩
/-- What was made can be read. -/
theorem OwnI.row {w : World} {B : Nat} {v : Value} {xs : List Int} (h : OwnI w B v xs) : ∃ a cap, v = .slice a xs.length cap ∧ Row1 w a xs := by
  unfold OwnI at h
  have hc := fun g hg => h.cells (g := g) hg
  have hlt := h.lt
  rcases h.2 with ⟨rfl, h0⟩ | ⟨g, cap, cur, rfl, _⟩
  · have : xs = [] := List.eq_nil_of_length_eq_zero h0
    subst this
    exact ⟨_, _, rfl, .inl rfl⟩
  · refine ⟨_, _, rfl, .inr ⟨g, 0, rfl, (hlt g rfl).2, fun i hi => ?_⟩⟩
    have := hc g rfl i (.int .i64 (xs.getD i 0)) (by simp [List.getD, List.getElem?_eq_getElem hi])
    rw [Nat.zero_add]
    cases i with
    | zero => exact this
    | succ i => simpa [Addr.add] using this
theorem cell1_new (w : World) (a : Value) (t : TypeId) : ∀ j u, [a][j]? = some u → (w.alloc (.cells #[a] t)).cell? ((⟨w.heap.size, 0, none⟩ : Addr).add j) = some u := by
  intro j u hj
  match j, hj with
  | 0, hj => simp at hj; subst hj; simp [Addr.add]
  | j + 1, hj => simp at hj
theorem one1 (x : Int) : ∀ u ∈ [Value.int .i64 x], u.oneCell' = true := by intro u hu; simp at hu; subst hu; rfl
theorem OwnI.weak {w : World} {B B' : Nat} {v : Value} {xs : List Int} (h : OwnI w B v xs) (hB : B' ≤ B) : OwnI w B' v xs := by
  obtain ⟨h1, h2⟩ := h
  refine ⟨h1, ?_⟩
  rcases h2 with h2 | ⟨g, cap, cur, a, b, c⟩
  · exact .inl h2
  · exact .inr ⟨g, cap, cur, a, Nat.le_trans hB b, c⟩
theorem OwnI.alloc {w : World} {B : Nat} {v : Value} {xs : List Int} (h : OwnI w B v xs) (o : Obj) : OwnI (w.alloc o) B v xs := World.ownsRow.alloc h o
theorem Row1.below {w w' : World} {a : Option Addr} {l : List Int} (h : Row1 w a l) (hb : Below w.heap.size w w') : Row1 w' a l := by
  rcases h with h | ⟨b, off, rfl, hlt, hc⟩
  · exact .inl h
  · exact .inr ⟨b, off, rfl, Nat.lt_of_lt_of_le hlt hb.size, fun i hi => (hb.cell (p := ⟨b, _, none⟩) hlt).trans (hc i hi)⟩
theorem OwnI.still {w w' : World} {B : Nat} {v : Value} {xs : List Int} (h : OwnI w B v xs) (hb : Below w.heap.size w w') : OwnI w' B v xs := by
  have hlt := World.ownsRow.lt h
  obtain ⟨h1, h2⟩ := h
  refine ⟨h1, ?_⟩
  rcases h2 with h2 | ⟨g, cap, cur, rfl, b, c, d⟩
  · exact .inl h2
  · exact .inr ⟨g, cap, cur, rfl, b, (hb.block g (hlt g rfl).2).trans c, d⟩
end Go.Proofs.YtandlmnbnjkklaaGreatDoor
namespace Go.Proofs.YtandlmnbnjkklaaGreatDoor
open Go.RowKit

/-- A slice of spans that lies there: what its elements read as. -/
def Row2 (w : World) (a : Option Addr) (l : List Spn.Sp) : Prop :=
  l = [] ∨ ∃ b off, a = some ⟨b, off, none⟩ ∧ b < w.heap.size ∧ ∀ i : Nat, i < l.length → w.cell? ⟨b, off + i * 2, none⟩ = some (.int .i64 (l.getD i (0, 0)).1) ∧ w.cell? ⟨b, off + i * 2 + 1, none⟩ = some (.int .i64 (l.getD i (0, 0)).2)

theorem Row2.at {w : World} {a : Option Addr} {l : List Spn.Sp} (hr : Row2 w a l) {k : Nat} (hlt : k < l.length) :
    ∃ b off x y, a = some ⟨b, off, none⟩ ∧ l[k]? = some (x, y) ∧ w.cell? ⟨b, off + k * 2, none⟩ = some (.int .i64 x) ∧ w.cell? ⟨b, off + k * 2 + 1, none⟩ = some (.int .i64 y) := by
  rcases hr with rfl | ⟨b, off, rfl, hb, hc⟩
  · simp at hlt
  obtain ⟨c1, c2⟩ := hc k hlt
  exact ⟨b, off, _, _, rfl, by simp [List.getD, List.getElem?_eq_getElem hlt], c1, c2⟩
namespace Spn
theorem memB_append (a b : List Sp) (n : Int) : memB (a ++ b) n = (memB a n || memB b n) := by unfold memB; rw [List.any_append]
theorem take_succ_of (l : List Sp) (k : Nat) (x y : Int) (h : l[k]? = some (x, y)) : l.take (k + 1) = l.take k ++ [(x, y)] := by
  rw [List.take_add_one, h]; rfl
theorem memB_no (l : List Sp) (k : Nat) (x y n : Int) (h : l[k]? = some (x, y)) (h0 : memB (l.take k) n = false) (hn : ¬ (x ≤ n ∧ n < y)) : memB (l.take (k + 1)) n = false := by
  rw [take_succ_of l k x y h, memB_append, h0]
  simp [memB]; omega
theorem memB_yes (l : List Sp) (k : Nat) (x y n : Int) (h : l[k]? = some (x, y)) (h1 : x ≤ n) (h2 : n < y) : memB l n = true := by
  rw [memB_iff]
  exact ⟨(x, y), List.mem_of_getElem? h, h1, h2⟩
end Spn
theorem ext_take (l r : List Spn.Sp) (h : l.length = r.length) (k : Nat) (hk : l.length ≤ k) (e : l.take k = r.take k) : l = r := by
  rw [List.take_of_length_le hk, List.take_of_length_le (by omega)] at e; exact e
set_option maxHeartbeats 1000000 in
theorem sameSpans_any (l r : List Spn.Sp) (a a' : Option Addr) (cap cap' : Nat) (w : World) (hl : l.length ≤ maxLen) (hl' : r.length ≤ maxLen) (hr : Row2 w a l) (hr' : Row2 w a' r) :
    Calls Tryz.prog 38 #[.slice a l.length cap, .slice a' r.length cap'] w fun e w' => e = .returned (.bool (decide (l = r))) ∧ ∃ m, w' = w.drewN m := by
  unfold maxLen at hl hl'
  by_cases hlen : l.length = r.length
  · have HL : Hid (l.length = r.length) := hlen
    go_enter Tryz.func38, Tryz.ntmps38
    rw [← hlen]
    clear hlen
    go_wp2
    go_loopw [5] (fun i wr => ∃ k : Nat, k ≤ l.length ∧ i = .int .i64 k ∧ l.take k = r.take k ∧ ∃ m, wr = w.drewN m) (fun i _ => l.length - (intOf i).toNat)
    case atStart => exact ⟨0, Nat.zero_le _, rfl, rfl, 0, rfl⟩
    case round =>
      obtain ⟨k, hk, rfl, hm, m, rfl⟩ := hrel
      have HM : Hid (l.take k = r.take k) := hm
      clear hm
      by_cases hlt : k < l.length
      · have hlt' : (k : Int) < (l.length : Int) := by omega
        obtain ⟨b, off, x, y, rfl, hx, c1, c2⟩ := hr.at hlt
        obtain ⟨b', off', x', y', rfl, hx', c1', c2'⟩ := hr'.at (k := k) (by have := HL.out; omega)
        have HX : Hid (l[k]? = some (x, y) ∧ r[k]? = some (x', y')) := ⟨hx, hx'⟩
        clear hx hx'
        by_cases e1 : x = x'
        · by_cases e2 : y = y'
          · subst e1 e2
            have HE : Hid (l.take (k + 1) = r.take (k + 1)) := by
              unfold Hid; rw [Spn.take_succ_of l k x y HX.out.1, Spn.take_succ_of r k x y HX.out.2, HM.out]
            go_wp2
            go_quiet (fail)
            go_wp2
            go_roundw
            case rel => exact ⟨k + 1, by omega, by go_num, HE.out, _, by first | rfl | simp only [World.drewN_drewN]⟩
            case measure => simp [intOf]; omega
          · subst e1
            have HE : Hid (decide (l = r) = false) := by
              unfold Hid
              simp only [decide_eq_false_iff_not]
              rintro rfl
              have := HX.out.1.symm.trans HX.out.2
              simp at this
              exact e2 this
            go_wp2
            go_quiet (fail)
            go_wp2
            go_ret
            refine ⟨ret_bool HE.out.symm, ?_⟩
            first | exact ⟨_, rfl⟩ | (rw [World.drewN_drewN]; exact ⟨_, rfl⟩)
        · have HE : Hid (decide (l = r) = false) := by
            unfold Hid
            simp only [decide_eq_false_iff_not]
            rintro rfl
            have := HX.out.1.symm.trans HX.out.2
            simp at this
            exact e1 this.1
          go_wp2
          go_quiet (fail)
          go_wp2
          go_ret
          refine ⟨ret_bool HE.out.symm, ?_⟩
          first | exact ⟨_, rfl⟩ | (rw [World.drewN_drewN]; exact ⟨_, rfl⟩)
      · go_wp2
        go_ret
        exact ⟨ret_bool (by simpa using ext_take l r HL.out k (by omega) HM.out), m, rfl⟩
  · have HE : Hid (decide (l = r) = false) := by
      unfold Hid
      simp only [decide_eq_false_iff_not]
      rintro rfl
      exact hlen rfl
    have hne : ((l.length : Int) != (r.length : Int)) = true := by simp; omega
    go_enter Tryz.func38, Tryz.ntmps38
    go_wp2
    go_ret
    exact ⟨ret_bool HE.out.symm, 0, rfl⟩
end Go.Proofs.YtandlmnbnjkklaaGreatDoor
namespace Go.Proofs.YtandlmnbnjkklaaGreatDoor
open Go.RowKit
section
variable {P : Program} (w : World)
/-- 'append(s, x...)', s a slice of the call's own, x whatever slice: nil, empty or not. -/
theorem wpList_append_all {ops : Array Oper} {rest : List Oper} {o : Oper} {a : Act} {Q : Exit → Act → World → Prop} (hgd : o.guard = none) (s x : Operand) (t : TypeId)
    (ho : o.op = .call { callee := .builtin .append, args := #[s, x], argTypes := #[t, t] })
    (base : Nat) (e : TypeId) (i : TypeInfo) (z : Value) (size bytes : Nat) (ht : P.underlying t = some (.slice e)) (hi : P.info? e = some i) (hz : i.zero = some z)
    (hsize : i.size = size) (hby : i.bytes = bytes) (hzs : z.cells.size = size) (hsz : 0 < size)
    (v : Value) (n : Nat) (xs : List Value) (hs : a.eval s = v) (hown : w.ownsRow base e size v n xs)
    (ao : Option Addr) (m c : Nat) (news : List Value) (hx : a.eval x = .slice ao m c) (hnil : ao = none → m = 0 ∧ c = 0) (hl : news.length = m * size) (hnews : ∀ ad, ao = some ad → ∀ j u, news[j]? = some u → w.cell? (ad.add j) = some u) (h1 : ∀ u ∈ news, u.oneCell' = true)
    (h63 : n + m ≤ maxLen) (hbytes : (n + m) * bytes ≤ 140737488355328) (hbase : base ≤ w.heap.size)
    (h : ∀ v' w', w'.ownsRow base e size v' (n + m) (xs ++ news) → w.grownBy w' v.ownBlock → wpList P ops Q rest (a.put o.dst v') w') : wpList P ops Q (o :: rest) a w := by
  cases ao with
  | some ad => exact wpList_append_own w hgd s x t ho base e i z size bytes ht hi hz hsize hby hzs hsz v n xs hs hown ad m c news hx hl (hnews ad rfl) h1 h63 hbytes hbase fun v' w' a b _ => h v' w' a b
  | none =>
    obtain ⟨rfl, rfl⟩ := hnil rfl
    have hn : news = [] := List.eq_nil_of_length_eq_zero (by simpa using hl)
    subst hn
    have hr := run_append_owned_none (P := P) (w := w) base t o.type e i size ht hi v n xs hown
    refine wpList_plain hgd fun K hK => ?_
    unfold Oper.wp execOp
    simp only [ho, resolve, invoke, builtin, Sem.run_bind, Sem.run_pure, Result.andThen_ok, List.map_toArray, List.map_cons, List.map_nil, hs, hx, hr]
    exact hK _ _ (h v w (by simpa using hown) (World.grownBy.refl w _))
end
end Go.Proofs.YtandlmnbnjkklaaGreatDoor
