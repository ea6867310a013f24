/- Walks over slices of whole numbers: read, and built by append. -/
import Derived.Test.YtmhmdjlongimaaaRow2
namespace Go.Proofs.Ytmhmdjlongimaaa
open Go.RowKit

theorem infoInt : (Try.prog.info? 3).map (fun i => (i.zero, i.size, i.bytes)) = some (some (.int .i64 0), 1, 8) := by kernel_rfl
/-- A slice of whole numbers that lies there. -/
def Row1 (w : World) (a : Option Addr) (l : List Int) : Prop :=
  l = [] ∨ ∃ b off, a = some ⟨b, off, none⟩ ∧ b < w.heap.size ∧ ∀ i : Nat, i < l.length → w.cell? ⟨b, off + i, none⟩ = some (.int .i64 (l.getD i 0))
theorem Row1.at {w : World} {a : Option Addr} {l : List Int} (hr : Row1 w a l) {k : Nat} (hlt : k < l.length) :
    ∃ b off x, a = some ⟨b, off, none⟩ ∧ b < w.heap.size ∧ l[k]? = some x ∧ w.cell? ⟨b, off + k, none⟩ = some (.int .i64 x) := by
  rcases hr with rfl | ⟨b, off, rfl, hb, hc⟩
  · simp at hlt
  exact ⟨b, off, _, rfl, hb, by simp [List.getD, List.getElem?_eq_getElem hlt], hc k hlt⟩
/-- A slice of whole numbers that the call has made. -/
def OwnI (w : World) (B : Nat) (v : Value) (xs : List Int) : Prop := w.ownsRow B 3 1 v xs.length (xs.map (Value.int .i64))
theorem OwnI.nil (w : World) (B : Nat) : OwnI w B (.slice none 0 0) [] := World.ownsRow_nil _ _ _ _
/-- Behind an append of one number. -/
theorem OwnI.keep {w wr w1 : World} {B : Nat} {v v' : Value} {xs : List Int} {x : Int} {o : Obj} (hB : B ≤ wr.heap.size) (hown : OwnI wr B v xs) (hnx : Below B w wr)
    (hown' : w1.ownsRow B 3 1 v' (xs.length + 1) (xs.map (Value.int .i64) ++ [.int .i64 x])) (hgrow : (wr.alloc o).grownBy w1 v.ownBlock) :
    OwnI w1 B v' (xs ++ [x]) ∧ Below B w w1 :=
  ⟨by unfold OwnI; simpa using hown', (hnx.alloc hB o).grown hgrow (by simp; omega) (fun j hj => by have := (World.ownsRow.lt hown j hj).1; omega)⟩
/-- What was made can be read. -/
theorem OwnI.row {w : World} {B : Nat} {v : Value} {xs : List Int} (h : OwnI w B v xs) : ∃ a cap, v = .slice a xs.length cap ∧ Row1 w a xs := by
  unfold OwnI at h
  have hc := fun g hg => h.cells (g := g) hg
  have hlt := h.lt
  rcases h.2 with ⟨rfl, h0⟩ | ⟨g, cap, cur, rfl, _⟩
  · have : xs = [] := List.eq_nil_of_length_eq_zero h0
    subst this
    exact ⟨_, _, rfl, .inl rfl⟩
  · refine ⟨_, _, rfl, .inr ⟨g, 0, rfl, (hlt g rfl).2, fun i hi => ?_⟩⟩
    have := hc g rfl i (.int .i64 (xs.getD i 0)) (by simp [List.getD, List.getElem?_eq_getElem hi])
    rw [Nat.zero_add]
    cases i with
    | zero => exact this
    | succ i => simpa [Addr.add] using this
theorem cell1_new (w : World) (a : Value) (t : TypeId) : ∀ j u, [a][j]? = some u → (w.alloc (.cells #[a] t)).cell? ((⟨w.heap.size, 0, none⟩ : Addr).add j) = some u := by
  intro j u hj
  match j, hj with
  | 0, hj => simp at hj; subst hj; simp [Addr.add]
  | j + 1, hj => simp at hj
theorem one1 (x : Int) : ∀ u ∈ [Value.int .i64 x], u.oneCell' = true := by intro u hu; simp at hu; subst hu; rfl
namespace Spn
def insStep (n : Int) (s : List Int × Bool) (x : Int) : List Int × Bool :=
  ((if s.2 = false ∧ n ≤ x then s.1 ++ [n] else s.1) ++ (if x = n then [] else [x]), s.2 || decide (n ≤ x))
def insAt (l : List Int) (n : Int) (k : Nat) : List Int × Bool := (l.take k).foldl (insStep n) ([], false)
/-- a rising list with a number, once -/
def ins (l : List Int) (n : Int) : List Int := if (insAt l n l.length).2 = true then (insAt l n l.length).1 else (insAt l n l.length).1 ++ [n]
theorem insAt_succ (l : List Int) (n : Int) (k : Nat) (x : Int) (h : l[k]? = some x) : insAt l n (k + 1) = insStep n (insAt l n k) x := by
  unfold insAt; rw [List.take_add_one, h, List.foldl_append]; rfl
theorem insStep_len (n : Int) (s : List Int × Bool) (x : Int) : (insStep n s x).1.length ≤ s.1.length + 2 := by
  unfold insStep; split <;> split <;> simp
theorem insAt_len (l : List Int) (n : Int) : ∀ k, (insAt l n k).1.length ≤ 2 * k
  | 0 => by simp [insAt]
  | k + 1 => by
    have ih := insAt_len l n k
    cases h : l[k]? with
    | none =>
      have : insAt l n (k + 1) = insAt l n k := by unfold insAt; rw [List.take_add_one, h]; simp
      rw [this]; omega
    | some x =>
      rw [insAt_succ l n k x h]
      have := insStep_len n (insAt l n k) x; omega
end Spn
set_option maxHeartbeats 1000000 in
theorem withInt_any (l : List Int) (a : Option Addr) (cap : Nat) (n : Int) (w : World) (hl : l.length ≤ 100000) (hr : Row1 w a l) :
    Calls Try.prog 56 #[.slice a l.length cap, .int .i64 n] w fun e w' => ∃ v, e = .returned v ∧ OwnI w' w.heap.size v (Spn.ins l n) ∧ Below w.heap.size w w' := by
  obtain ⟨i0, hi, hz0, hz1, hz2⟩ := info_parts infoInt
  go_enter Try.func56, Try.ntmps56
  go_wp2
  go_loopw [5, 6, 7] (fun v dn i wr => ∃ k : Nat, k ≤ l.length ∧ i = .int .i64 k ∧ dn = .bool (Spn.insAt l n k).2 ∧ OwnI wr w.heap.size v (Spn.insAt l n k).1 ∧ Below w.heap.size w wr) (fun _ _ i _ => l.length - (intOf i).toNat)
  case atStart => exact ⟨0, Nat.zero_le _, rfl, rfl, OwnI.nil _ _, Below.refl _ _⟩
  case round =>
    obtain ⟨k, hk, rfl, rfl, hown, hnx⟩ := hrel
    have hlen := Spn.insAt_len l n k
    by_cases hlt : k < l.length
    · obtain ⟨b, off, x, rfl, hb, hx, c1⟩ := hr.at hlt
      have c1r : wr.cell? ⟨b, off + k, none⟩ = some (.int .i64 x) := (hnx.cell (p := ⟨b, off + k, none⟩) hb).trans c1
      have hlt' : (k : Int) < (l.length : Int) := by omega
      have hS := Spn.insAt_succ l n k x hx
      have HS : Hid (Spn.insAt l n (k + 1) = Spn.insStep n (Spn.insAt l n k) x) := hS
      have hsz : w.heap.size ≤ wr.heap.size := hnx.size
      clear hS hx
      obtain ⟨out, dn, hD⟩ : ∃ out dn, Spn.insAt l n k = (out, dn) := ⟨_, _, rfl⟩
      rw [hD] at hown hlen HS ⊢
      clear hD
      dsimp only at hown hlen ⊢
      have HL : Hid (out.length ≤ 2 * k) := hlen
      cases dn with
      | true =>
        by_cases hxn : x = n
        · have HE : Hid (Spn.insAt l n (k + 1) = (out, true)) := by unfold Hid; rw [HS.out]; simp [Spn.insStep, hxn]
          have hxn' : (x != n) = false := by simpa using hxn
          go_wp2
          go_roundw
          case rel => exact ⟨k + 1, by omega, by go_num, by rw [HE.out], by rw [HE.out]; exact hown, hnx⟩
          case measure => simp [intOf]; omega
        · have HE : Hid (Spn.insAt l n (k + 1) = (out ++ [x], true)) := by unfold Hid; rw [HS.out]; simp [Spn.insStep, hxn]
          have hxn' : (x != n) = true := by simpa using hxn
          go_wp2_with (at_builtin; refine wpList_append_own _ rfl (.tmp 34) (.tmp 39) 57 rfl w.heap.size 3 i0 (.int .i64 0) 1 8 Try.underlying57 hi hz0 hz1 hz2 rfl (by decide) _ _ _ rfl (World.ownsRow.alloc hown _) ⟨wr.heap.size, 0, none⟩ 1 1 [.int .i64 x] rfl rfl (cell1_new _ _ _) (one1 _) (by unfold maxLen; omega) (by omega) (by first | omega | (simp; omega)) ?_; intro v1 w1 own1 grow1 _)
          have R := OwnI.keep hsz hown hnx own1 grow1
          clear own1 grow1 hown
          go_wp2
          go_roundw
          case rel => exact ⟨k + 1, by omega, by go_num, by rw [HE.out], by rw [HE.out]; exact R.1, R.2⟩
          case measure => simp [intOf]; omega
      | false =>
        by_cases hnx1 : n ≤ x
        · by_cases hxn : x = n
          · have HE : Hid (Spn.insAt l n (k + 1) = (out ++ [n], true)) := by unfold Hid; rw [HS.out]; simp [Spn.insStep, hxn]
            have hxn' : (x != n) = false := by simpa using hxn
            have HC : Hid (w.cell? ⟨b, off + k, none⟩ = some (.int .i64 x)) := c1
            clear c1
            go_wp2_with (at_builtin; refine wpList_append_own _ rfl (.tmp 24) (.tmp 26) 57 rfl w.heap.size 3 i0 (.int .i64 0) 1 8 Try.underlying57 hi hz0 hz1 hz2 rfl (by decide) _ _ _ rfl (World.ownsRow.alloc hown _) ⟨wr.heap.size, 0, none⟩ 1 1 [.int .i64 n] rfl rfl (cell1_new _ _ _) (one1 _) (by unfold maxLen; omega) (by omega) (by first | omega | (simp; omega)) ?_; intro v1 w1 own1 grow1 _; have R := OwnI.keep hsz hown hnx own1 grow1; clear own1 grow1 hown; have c2 := (R.2.cell (p := ⟨b, off + k, none⟩) hb).trans HC.out)
            go_roundw
            case rel => exact ⟨k + 1, by omega, by go_num, by rw [HE.out], by rw [HE.out]; exact R.1, R.2⟩
            case measure => simp [intOf]; omega
          · have HE : Hid (Spn.insAt l n (k + 1) = (out ++ [n] ++ [x], true)) := by unfold Hid; rw [HS.out]; simp [Spn.insStep, hxn, hnx1]
            have hxn' : (x != n) = true := by simpa using hxn
            have HC : Hid (w.cell? ⟨b, off + k, none⟩ = some (.int .i64 x)) := c1
            clear c1
            have hlen1 : (out ++ [n]).length ≤ 2 * k + 1 := by simp; omega
            go_wp2_with (first
              | (at_builtin; refine wpList_append_own _ rfl (.tmp 24) (.tmp 26) 57 rfl w.heap.size 3 i0 (.int .i64 0) 1 8 Try.underlying57 hi hz0 hz1 hz2 rfl (by decide) _ _ _ rfl (World.ownsRow.alloc hown _) ⟨wr.heap.size, 0, none⟩ 1 1 [.int .i64 n] rfl rfl (cell1_new _ _ _) (one1 _) (by unfold maxLen; omega) (by omega) (by first | omega | (simp; omega)) ?_; intro v1 w1 own1 grow1 _; have R := OwnI.keep hsz hown hnx own1 grow1; clear own1 grow1 hown; have c2 := (R.2.cell (p := ⟨b, off + k, none⟩) hb).trans HC.out; have hsz1 := R.2.size)
              | (at_builtin; refine wpList_append_own _ rfl (.tmp 34) (.tmp 39) 57 rfl w.heap.size 3 i0 (.int .i64 0) 1 8 Try.underlying57 hi hz0 hz1 hz2 rfl (by decide) _ _ _ rfl (World.ownsRow.alloc R.1 _) ⟨w1.heap.size, 0, none⟩ 1 1 [.int .i64 x] rfl rfl (cell1_new _ _ _) (one1 _) (by unfold maxLen; omega) (by omega) (by first | omega | (simp; omega)) ?_; intro v2 w2 own2 grow2 _))
            have R2 := OwnI.keep hsz1 R.1 R.2 own2 grow2
            clear own2 grow2
            go_roundw
            case rel => exact ⟨k + 1, by omega, by go_num, by rw [HE.out], by rw [HE.out]; exact R2.1, R2.2⟩
            case measure => simp [intOf]; omega
        · have hxn : ¬ x = n := by omega
          have HE : Hid (Spn.insAt l n (k + 1) = (out ++ [x], false)) := by unfold Hid; rw [HS.out]; simp [Spn.insStep, hxn, hnx1]
          have hxn' : (x != n) = true := by simpa using hxn
          have hnx2 : decide (n ≤ x) = false := by simpa using hnx1
          go_wp2_with (at_builtin; refine wpList_append_own _ rfl (.tmp 34) (.tmp 39) 57 rfl w.heap.size 3 i0 (.int .i64 0) 1 8 Try.underlying57 hi hz0 hz1 hz2 rfl (by decide) _ _ _ rfl (World.ownsRow.alloc hown _) ⟨wr.heap.size, 0, none⟩ 1 1 [.int .i64 x] rfl rfl (cell1_new _ _ _) (one1 _) (by unfold maxLen; omega) (by omega) (by first | omega | (simp; omega)) ?_; intro v1 w1 own1 grow1 _)
          have R := OwnI.keep hsz hown hnx own1 grow1
          clear own1 grow1 hown
          go_wp2
          go_roundw
          case rel => exact ⟨k + 1, by omega, by go_num, by rw [HE.out], by rw [HE.out]; exact R.1, R.2⟩
          case measure => simp [intOf]; omega
    · obtain rfl : k = l.length := by omega
      have hsz : w.heap.size ≤ wr.heap.size := hnx.size
      cases hD : (Spn.insAt l n l.length).2 with
      | true =>
        have HE : Hid (Spn.ins l n = (Spn.insAt l n l.length).1) := by unfold Hid Spn.ins; rw [if_pos hD]
        go_wp2
        go_ret
        exact ⟨_, rfl, by rw [HE.out]; exact hown, hnx⟩
      | false =>
        have HE : Hid (Spn.ins l n = (Spn.insAt l n l.length).1 ++ [n]) := by unfold Hid Spn.ins; rw [if_neg (by rw [hD]; decide)]
        go_wp2_with (at_builtin; refine wpList_append_own _ rfl (.tmp 43) (.tmp 45) 57 rfl w.heap.size 3 i0 (.int .i64 0) 1 8 Try.underlying57 hi hz0 hz1 hz2 rfl (by decide) _ _ _ rfl (World.ownsRow.alloc hown _) ⟨wr.heap.size, 0, none⟩ 1 1 [.int .i64 n] rfl rfl (cell1_new _ _ _) (one1 _) (by unfold maxLen; omega) (by omega) (by first | omega | (simp; omega)) ?_; intro v1 w1 own1 grow1 _)
        have R := OwnI.keep hsz hown hnx own1 grow1
        clear own1 grow1 hown
        go_wp2
        go_ret
        exact ⟨_, rfl, by rw [HE.out]; exact R.1, R.2⟩
end Go.Proofs.Ytmhmdjlongimaaa
