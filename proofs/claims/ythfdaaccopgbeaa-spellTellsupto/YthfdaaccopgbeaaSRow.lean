/- Slices of small numbers (bytes, fives): read, and made by append; shifts of small numbers. -/
import Derived.Test.YthfdaaccopgbeaaSp
import Derived.Laws.OwnMore
import Derived.Laws.Bits64b
import Derived.Laws.BitsAllLaws
namespace Go.Proofs.Ythfdaaccopgbeaa
open Go.RowKit

/-- A slice of small numbers that lies there. -/
def RowB (w : World) (a : Option Addr) (l : List Nat) : Prop :=
  l = [] ∨ ∃ b off, a = some ⟨b, off, none⟩ ∧ b < w.heap.size ∧ ∀ i : Nat, i < l.length → w.cell? ⟨b, off + i, none⟩ = some (.int .u8 ((l.getD i 0 : Nat) : Int))
theorem RowB.at {w : World} {a : Option Addr} {l : List Nat} (hr : RowB w a l) {k : Nat} (hlt : k < l.length) :
    ∃ b off x, a = some ⟨b, off, none⟩ ∧ b < w.heap.size ∧ l[k]? = some x ∧ w.cell? ⟨b, off + k, none⟩ = some (.int .u8 (x : Int)) := by
  rcases hr with rfl | ⟨b, off, rfl, hb, hc⟩
  · simp at hlt
  exact ⟨b, off, _, rfl, hb, by simp [List.getD, List.getElem?_eq_getElem hlt], hc k hlt⟩
def cbs (xs : List Nat) : List Value := xs.map fun (n : Nat) => Value.int .u8 (n : Int)
theorem cbs_append (a b : List Nat) : cbs (a ++ b) = cbs a ++ cbs b := by simp [cbs]
/-- A slice of small numbers that the call has made. -/
def OwnB (w : World) (t : TypeId) (B : Nat) (v : Value) (xs : List Nat) : Prop := w.ownsRow B t 1 v xs.length (cbs xs)
theorem OwnB.nil (w : World) (t : TypeId) (B : Nat) : OwnB w t B (.slice none 0 0) [] := World.ownsRow_nil _ _ _ _
theorem OwnB.keep {w wr w1 : World} {t : TypeId} {B : Nat} {v v' : Value} {xs : List Nat} {x : Nat} {o : Obj} (hB : B ≤ wr.heap.size) (hown : OwnB wr t B v xs) (hnx : Below B w wr)
    (hown' : w1.ownsRow B t 1 v' (xs.length + 1) (cbs xs ++ [.int .u8 (x : Int)])) (hgrow : (wr.alloc o).grownBy w1 v.ownBlock) :
    OwnB w1 t B v' (xs ++ [x]) ∧ Below B w w1 :=
  ⟨by unfold OwnB; rw [cbs_append, List.length_append]; exact hown', (hnx.alloc hB o).grown hgrow (by simp; omega) (fun j hj => by have := (World.ownsRow.lt hown j hj).1; omega)⟩
theorem OwnB.row {w : World} {t : TypeId} {B : Nat} {v : Value} {xs : List Nat} (h : OwnB w t B v xs) : ∃ a cap, v = .slice a xs.length cap ∧ RowB w a xs := by
  unfold OwnB at h
  have hc := fun g hg => h.cells (g := g) hg
  have hlt := h.lt
  rcases h.2 with ⟨rfl, h0⟩ | ⟨g, cap, cur, rfl, _⟩
  · have : xs = [] := List.eq_nil_of_length_eq_zero h0
    subst this
    exact ⟨_, _, rfl, .inl rfl⟩
  · refine ⟨_, _, rfl, .inr ⟨g, 0, rfl, (hlt g rfl).2, fun i hi => ?_⟩⟩
    have := hc g rfl i (.int .u8 ((xs.getD i 0 : Nat) : Int)) (by simp [cbs, List.getD, List.getElem?_eq_getElem hi])
    rw [Nat.zero_add]
    cases i with
    | zero => exact this
    | succ i => simpa [Addr.add] using this
theorem cellB_new (w : World) (a : Value) (t : TypeId) : ∀ j u, [a][j]? = some u → (w.alloc (.cells #[a] t)).cell? ((⟨w.heap.size, 0, none⟩ : Addr).add j) = some u := by
  intro j u hj
  match j, hj with
  | 0, hj => simp at hj; subst hj; simp [Addr.add]
  | j + 1, hj => simp at hj
theorem oneB (x : Int) : ∀ u ∈ [Value.int .u8 x], u.oneCell' = true := by intro u hu; simp at hu; subst hu; rfl
theorem OwnB.weak {w : World} {t : TypeId} {B B' : Nat} {v : Value} {xs : List Nat} (h : OwnB w t B v xs) (hB : B' ≤ B) : OwnB w t B' v xs := by
  obtain ⟨h1, h2⟩ := h
  refine ⟨h1, ?_⟩
  rcases h2 with h2 | ⟨g, cap, cur, a, b, c⟩
  · exact .inl h2
  · exact .inr ⟨g, cap, cur, a, Nat.le_trans hB b, c⟩
theorem OwnB.alloc {w : World} {t : TypeId} {B : Nat} {v : Value} {xs : List Nat} (h : OwnB w t B v xs) (o : Obj) : OwnB (w.alloc o) t B v xs := World.ownsRow.alloc h o
theorem RowB.below {w w' : World} {a : Option Addr} {l : List Nat} (h : RowB w a l) (hb : Below w.heap.size w w') : RowB w' a l := by
  rcases h with h | ⟨b, off, rfl, hlt, hc⟩
  · exact .inl h
  · exact .inr ⟨b, off, rfl, Nat.lt_of_lt_of_le hlt hb.size, fun i hi => (hb.cell (p := ⟨b, _, none⟩) hlt).trans (hc i hi)⟩
theorem OwnB.still {w w' : World} {t : TypeId} {B : Nat} {v : Value} {xs : List Nat} (h : OwnB w t B v xs) (hb : Below w.heap.size w w') : OwnB w' t B v xs := by
  have hlt := World.ownsRow.lt h
  obtain ⟨h1, h2⟩ := h
  refine ⟨h1, ?_⟩
  rcases h2 with h2 | ⟨g, cap, cur, rfl, b, c, d⟩
  · exact .inl h2
  · exact .inr ⟨g, cap, cur, rfl, b, (hb.block g (hlt g rfl).2).trans c, d⟩

theorem sh_up (x K A : Nat) (xi yi : Int) (hx : xi = (x : Int)) (hy : yi = (K : Int)) (hK : K < 64) (hA : x * 2 ^ K = A) (h : A < 18446744073709551616) : Op.shift .shl .u64 xi .i64 yi = pure (.int .u64 (A : Int)) := by
  subst hx hy
  rw [shift_shl_any _ _ _ _ (by omega), IntKind.wrap_u64, Int.toNat_natCast]
  congr 2
  rw [show min K IntKind.u64.bits = K from Nat.min_eq_left (by show K ≤ 64; omega)]
  have e : (x : Int) * 2 ^ K = ((x * 2 ^ K : Nat) : Int) := by rw [Int.natCast_mul, Int.natCast_pow]; rfl
  rw [e, hA]
  omega
theorem sh_down (x K A : Nat) (hK : K < 64) (hA : x / 2 ^ K = A) : Op.shift .shr .u64 (x : Int) .i64 (K : Int) = pure (.int .u64 (A : Int)) := by
  rw [shift_shr_any _ _ _ _ (by omega), Int.toNat_natCast]
  congr 2
  rw [show min K IntKind.u64.bits = K from Nat.min_eq_left (by show K ≤ 64; omega), ← hA, Int.natCast_ediv, Int.natCast_pow]
  rfl
theorem or_is (x K n Y : Nat) (hn : n < 2 ^ K) (hY : x * 2 ^ K + n = Y) (h : Y < 18446744073709551616) : bits .or .u64 ((x * 2 ^ K : Nat) : Int) (n : Int) = (Y : Int) := by
  rw [bits_or_u64_nat _ _ (by omega) (by omega), Nat.mul_comm, ← Nat.two_pow_add_eq_or_of_lt hn, Nat.mul_comm, hY]
theorem and_is (x K Q Z : Nat) (hQ : 2 ^ K = Q + 1) (hZ : x % 2 ^ K = Z) (hx : x < 18446744073709551616) (hq : Q < 18446744073709551616) : bits .and .u64 (x : Int) (Q : Int) = (Z : Int) := by
  rw [bits_and_u64_nat _ _ hx hq, show Q = 2 ^ K - 1 by omega, Nat.and_two_pow_sub_one_eq_mod, hZ]
end Go.Proofs.Ythfdaaccopgbeaa
