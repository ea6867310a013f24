/- Slices of epochs (a number and two words each): read, and made by a call. The walks over rings that are only read: is a ring right, an epoch's key, are two rings one. The walks over rings that are only read, further: the place of an epoch; are two rings one. -/
import Derived.Test.YtandlmnbnjkklaaGreatDoorRg
import Derived.Test.YtandlmnbnjkklaaGreatDoorGWk
import Derived.Test.YtandlmnbnjkklaaGreatDoorBaseToAppAll
import Derived.Laws.OwnMore
import Derived.Laws.StructEq
import Derived.Shelf.Abstract
namespace Go.Proofs.YtandlmnbnjkklaaGreatDoor
open Go.RowKit

/-- A slice of epochs that lies there. -/
def Row3 (w : World) (a : Option Addr) (l : List Rg.Ep) : Prop :=
  l = [] ∨ ∃ b off, a = some ⟨b, off, none⟩ ∧ b < w.heap.size ∧ ∀ i : Nat, i < l.length → w.cell? ⟨b, off + i * 3, none⟩ = some (.int .i64 (l.getD i (0, 0, 0)).1) ∧ w.cell? ⟨b, off + i * 3 + 1, none⟩ = some (.int .u64 (wd (l.getD i (0, 0, 0)).2.1)) ∧ w.cell? ⟨b, off + i * 3 + 2, none⟩ = some (.int .u64 (wd (l.getD i (0, 0, 0)).2.2))
theorem Row3.at {w : World} {a : Option Addr} {l : List Rg.Ep} (hr : Row3 w a l) {k : Nat} (hlt : k < l.length) :
    ∃ b off n A B, a = some ⟨b, off, none⟩ ∧ b < w.heap.size ∧ l[k]? = some (n, A, B) ∧ w.cell? ⟨b, off + k * 3, none⟩ = some (.int .i64 n) ∧ w.cell? ⟨b, off + k * 3 + 1, none⟩ = some (.int .u64 (wd A)) ∧ w.cell? ⟨b, off + k * 3 + 2, none⟩ = some (.int .u64 (wd B)) := by
  rcases hr with rfl | ⟨b, off, rfl, hb, hc⟩
  · simp at hlt
  obtain ⟨c1, c2, c3⟩ := hc k hlt
  exact ⟨b, off, _, _, _, rfl, hb, by simp [List.getD, List.getElem?_eq_getElem hlt], c1, c2, c3⟩
theorem Row3.below {w w' : World} {a : Option Addr} {l : List Rg.Ep} (h : Row3 w a l) (hb : Below w.heap.size w w') : Row3 w' a l := by
  rcases h with h | ⟨b, off, rfl, hlt, hc⟩
  · exact .inl h
  · exact .inr ⟨b, off, rfl, Nat.lt_of_lt_of_le hlt hb.size, fun i hi => ⟨(hb.cell (p := ⟨b, _, none⟩) hlt).trans (hc i hi).1, (hb.cell (p := ⟨b, _, none⟩) hlt).trans (hc i hi).2.1, (hb.cell (p := ⟨b, _, none⟩) hlt).trans (hc i hi).2.2⟩⟩
theorem infoEp : (Tryz.prog.info? 52).map (fun i => (i.zero, i.size, i.bytes)) = some (some (.agg #[.int .i64 0, .int .u64 0, .int .u64 0]), 3, 24) := by kernel_rfl
def fl3 (l : List Rg.Ep) : List Value := l.flatMap fun s => [.int .i64 s.1, .int .u64 (wd s.2.1), .int .u64 (wd s.2.2)]
theorem fl3_append (a b : List Rg.Ep) : fl3 (a ++ b) = fl3 a ++ fl3 b := by unfold fl3; rw [List.flatMap_append]
theorem fl3_len : ∀ l : List Rg.Ep, (fl3 l).length = l.length * 3
  | [] => rfl
  | s :: l => by
    have := fl3_len l
    unfold fl3 at *
    rw [List.flatMap_cons, List.length_append, this, List.length_cons]; simp; omega
theorem fl3_at : ∀ (l : List Rg.Ep) (i : Nat) (s : Rg.Ep), l[i]? = some s → (fl3 l)[i * 3]? = some (.int .i64 s.1) ∧ (fl3 l)[i * 3 + 1]? = some (.int .u64 (wd s.2.1)) ∧ (fl3 l)[i * 3 + 2]? = some (.int .u64 (wd s.2.2))
  | [], i, s, h => by simp at h
  | t :: l, 0, s, h => by
    simp at h; subst h
    exact ⟨rfl, rfl, rfl⟩
  | t :: l, i + 1, s, h => by
    have := fl3_at l i s (by simpa using h)
    have e : fl3 (t :: l) = [.int .i64 t.1, .int .u64 (wd t.2.1), .int .u64 (wd t.2.2)] ++ fl3 l := rfl
    have e1 : (i + 1) * 3 = i * 3 + 3 := by omega
    rw [e, e1]
    exact ⟨by simpa using this.1, by simpa [Nat.add_right_comm] using this.2.1, by simpa [Nat.add_right_comm] using this.2.2⟩
theorem fl3_one (l : List Rg.Ep) : ∀ u ∈ fl3 l, u.oneCell' = true := by
  intro u hu
  unfold fl3 at hu
  rw [List.mem_flatMap] at hu
  obtain ⟨s, _, hu⟩ := hu
  simp at hu
  rcases hu with rfl | rfl | rfl <;> rfl
theorem add_none (b off k : Nat) : (⟨b, off, none⟩ : Addr).add k = ⟨b, off + k, none⟩ := by
  cases k with
  | zero => rfl
  | succ k => simp [Addr.add]
theorem Row3.news {w : World} {a : Option Addr} {l : List Rg.Ep} (h : Row3 w a l) : ∀ ad, a = some ad → ∀ j u, (fl3 l)[j]? = some u → w.cell? (ad.add j) = some u := by
  rintro ad rfl j u hj
  have hjl : j < l.length * 3 := by
    rcases Nat.lt_or_ge j (l.length * 3) with c | c
    · exact c
    · rw [List.getElem?_eq_none (by rw [fl3_len]; exact c)] at hj; cases hj
  have hi : j / 3 < l.length := by omega
  rcases h with rfl | ⟨b, off, e, hlt, hc⟩
  · simp at hi
  · cases e
    have hs : l[j / 3]? = some (l.getD (j / 3) (0, 0, 0)) := by simp [List.getD, List.getElem?_eq_getElem hi]
    have hf := fl3_at l (j / 3) _ hs
    have hcc := hc (j / 3) hi
    rw [add_none]
    have h3 : j % 3 = 0 ∨ j % 3 = 1 ∨ j % 3 = 2 := by omega
    rcases h3 with c | c | c
    · have e : j = j / 3 * 3 := by omega
      rw [e] at hj ⊢
      rw [hf.1] at hj
      rw [← Option.some.inj hj]
      exact hcc.1
    · have e : j = j / 3 * 3 + 1 := by omega
      rw [e] at hj ⊢
      rw [hf.2.1] at hj
      rw [← Option.some.inj hj]
      exact hcc.2.1
    · have e : j = j / 3 * 3 + 2 := by omega
      rw [e] at hj ⊢
      rw [hf.2.2] at hj
      rw [← Option.some.inj hj]
      exact hcc.2.2
/-- A slice of epochs that the call has made. -/
def OwnE (w : World) (B : Nat) (v : Value) (xs : List Rg.Ep) : Prop := w.ownsRow B 52 3 v xs.length (fl3 xs)
theorem OwnE.nil (w : World) (B : Nat) : OwnE w B (.slice none 0 0) [] := World.ownsRow_nil _ _ _ _
theorem OwnE.weak {w : World} {B B' : Nat} {v : Value} {xs : List Rg.Ep} (h : OwnE w B v xs) (hB : B' ≤ B) : OwnE w B' v xs := by
  obtain ⟨h1, h2⟩ := h
  refine ⟨h1, ?_⟩
  rcases h2 with h2 | ⟨g, cap, cur, a, b, c⟩
  · exact .inl h2
  · exact .inr ⟨g, cap, cur, a, Nat.le_trans hB b, c⟩
theorem OwnE.row {w : World} {B : Nat} {v : Value} {xs : List Rg.Ep} (h : OwnE w B v xs) : ∃ a cap, v = .slice a xs.length cap ∧ Row3 w a xs := by
  have hlt := World.ownsRow.lt h
  rcases h.2 with ⟨rfl, h0⟩ | ⟨g, cap, cur, rfl, _⟩
  · have : xs = [] := List.eq_nil_of_length_eq_zero h0
    subst this
    exact ⟨_, _, rfl, .inl rfl⟩
  · refine ⟨_, _, rfl, .inr ⟨g, 0, rfl, (hlt g rfl).2, fun i hi => ?_⟩⟩
    have hs : xs[i]? = some (xs.getD i (0, 0, 0)) := by simp [List.getD, List.getElem?_eq_getElem hi]
    have hf := fl3_at xs i _ hs
    have c1 := World.ownsRow.cellAt h (i * 3) (by omega)
    have c2 := World.ownsRow.cellAt h (i * 3 + 1) (by omega)
    have c3 := World.ownsRow.cellAt h (i * 3 + 2) (by omega)
    rw [Nat.zero_add]
    exact ⟨c1.trans hf.1, c2.trans hf.2.1, c3.trans hf.2.2⟩
theorem OwnE.still {w w' : World} {B : Nat} {v : Value} {xs : List Rg.Ep} (h : OwnE w B v xs) (hb : Below w.heap.size w w') : OwnE w' B v xs := by
  have hlt := World.ownsRow.lt h
  obtain ⟨h1, h2⟩ := h
  refine ⟨h1, ?_⟩
  rcases h2 with h2 | ⟨g, cap, cur, rfl, b, c, d⟩
  · exact .inl h2
  · exact .inr ⟨g, cap, cur, rfl, b, (hb.block g (hlt g rfl).2).trans c, d⟩
/-- Behind an append of whatever epochs. -/
theorem OwnE.join {w wr w1 : World} {B : Nat} {v v' : Value} {xs ys : List Rg.Ep} (hB : B ≤ wr.heap.size) (hown : OwnE wr B v xs) (hnx : Below B w wr)
    (hown' : w1.ownsRow B 52 3 v' (xs.length + ys.length) (fl3 xs ++ fl3 ys)) (hgrow : wr.grownBy w1 v.ownBlock) :
    OwnE w1 B v' (xs ++ ys) ∧ Below B w w1 :=
  ⟨by unfold OwnE; rw [fl3_append, List.length_append]; exact hown', hnx.grown hgrow hB (fun j hj => (World.ownsRow.lt hown j hj).1)⟩
theorem cell3_new (w : World) (a b c : Value) (t : TypeId) : ∀ j u, [a, b, c][j]? = some u → (w.alloc (.cells #[a, b, c] t)).cell? ((⟨w.heap.size, 0, none⟩ : Addr).add j) = some u := by
  intro j u hj
  match j, hj with
  | 0, hj => simp at hj; subst hj; simp [Addr.add]
  | 1, hj => simp at hj; subst hj; simp [Addr.add]
  | 2, hj => simp at hj; subst hj; simp [Addr.add]
  | j + 3, hj => simp at hj
theorem Row3.lit (w : World) (l : List Rg.Ep) (cs : Array Value) (h : cs.toList = fl3 l) (hl : l.length ≤ maxLen) : Row3 (w.alloc (.cells cs 52)) (some ⟨w.heap.size, 0, none⟩) l := by
  have hs : cs.size = l.length * 3 := by rw [← Array.length_toList, h, fl3_len]
  have o : OwnE (w.alloc (.cells cs 52)) w.heap.size (.slice (some ⟨w.heap.size, 0, none⟩) l.length l.length) l := by
    have := World.ownsRow_lit (base := w.heap.size) (e := 52) (size := 3) w cs l.length (Nat.le_refl _) hl hs
    unfold OwnE; rw [← h]; exact this
  obtain ⟨a, c, e, r⟩ := o.row
  cases e
  exact r
/-- a part of a slice -/
theorem Row3.part {w : World} {b off : Nat} {l : List Rg.Ep} (h : Row3 w (some ⟨b, off, none⟩) l) (i n : Nat) (hn : i + n ≤ l.length) : Row3 w (some ⟨b, off + i * 3, none⟩) ((l.drop i).take n) := by
  by_cases h0 : n = 0
  · subst h0; exact .inl (by simp)
  rcases h with rfl | ⟨b', off', e, hlt, hc⟩
  · simp at hn; omega
  · cases e
    refine .inr ⟨b, _, rfl, hlt, fun j hj => ?_⟩
    have hj' : j < n := by have := hj; rw [List.length_take] at this; omega
    have hcc := hc (i + j) (by omega)
    have e : ((l.drop i).take n).getD j (0, 0, 0) = l.getD (i + j) (0, 0, 0) := by
      rw [List.getD_eq_getElem?_getD, List.getD_eq_getElem?_getD, List.getElem?_take, if_pos hj', List.getElem?_drop]
    rw [e, show off + i * 3 + j * 3 = off + (i + j) * 3 by omega]
    exact hcc
end Go.Proofs.YtandlmnbnjkklaaGreatDoor
namespace Go.Proofs.YtandlmnbnjkklaaGreatDoor
open Go.RowKit

theorem Rg.drop_at {l : List Rg.Ep} {k : Nat} {e : Rg.Ep} (h : l[k]? = some e) : l.drop k = e :: l.drop (k + 1) := by
  obtain ⟨hk, he⟩ := List.getElem?_eq_some_iff.1 h
  rw [List.drop_eq_getElem_cons hk, he]
theorem Rg.chkAt_cons (last : Int) (e : Rg.Ep) (r : List Rg.Ep) : Rg.chkAt last (e :: r) = if e.1 < 1 ∨ 255 < e.1 then 3 else if e.1 ≤ last then 4 else Rg.chkAt e.1 r := rfl
set_option maxRecDepth 100000 in
set_option maxHeartbeats 1000000 in
theorem check_any (l : List Rg.Ep) (a : Option Addr) (cap : Nat) (w : World) (hl : l.length ≤ maxLen) (hr : Row3 w a l) :
    Calls Tryz.prog 27 #[.slice a l.length cap] w fun e w' => e = .returned (.int .i64 (Rg.chk l)) ∧ Below w.heap.size w w' := by
  unfold maxLen at hl
  by_cases h8 : 8 < l.length
  · have e : Rg.chk l = 2 := by unfold Rg.chk; rw [if_pos h8]
    rw [e]; clear e
    have h8' : (8 : Int) < (l.length : Int) := by omega
    go_enter Tryz.func27, Tryz.ntmps27
    go_wp2
    go_ret
    exact ⟨rfl, Below.refl _ _⟩
  · have e : Rg.chk l = Rg.chkAt 0 l := by unfold Rg.chk; rw [if_neg h8]
    rw [e]; clear e
    have h8' : (l.length : Int) ≤ 8 := by omega
    have HR : Hid (Row3 w a l) := hr
    clear hr
    go_enter Tryz.func27, Tryz.ntmps27
    go_wp2
    go_loopw [3, 11] (fun z i wr => ∃ (k : Nat) (last : Int), k ≤ l.length ∧ z = .int .i64 last ∧ i = .int .i64 k ∧ Rg.chkAt 0 l = Rg.chkAt last (l.drop k) ∧ Below w.heap.size w wr) (fun _ i _ => l.length - (intOf i).toNat)
    case atStart => exact ⟨0, 0, Nat.zero_le _, rfl, rfl, rfl, Below.refl _ _⟩
    case round =>
      obtain ⟨k, last, hk, rfl, rfl, hm, hb⟩ := hrel
      have HM : Hid (Rg.chkAt 0 l = Rg.chkAt last (l.drop k)) := hm
      have HB : Hid (Below w.heap.size w wr) := hb
      clear hm
      by_cases hlt : k < l.length
      · have hlt' : (k : Int) < (l.length : Int) := by omega
        obtain ⟨b, off, n, A, B, rfl, hbs, hx, c1, c2, c3⟩ := (HR.out.below hb).at hlt
        have HS : Hid (Rg.chkAt 0 l = if n < 1 ∨ 255 < n then 3 else if n ≤ last then 4 else Rg.chkAt n (l.drop (k + 1))) := by show _ = _; rw [HM.out, Rg.drop_at hx, Rg.chkAt_cons]
        clear hx hb HM
        have HB2 : Hid (Below w.heap.size w (wr.alloc (.cells #[.int .i64 n, .int .u64 (wd A), .int .u64 (wd B)] 52))) := below_on HB.out (Nat.le_refl _) (below_box wr _)
        by_cases h1 : n < 1
        · have HE : Hid (Rg.chkAt 0 l = 3) := by show _ = _; rw [HS.out, if_pos (.inl h1)]
          go_wp2
          go_ret
          exact ⟨ret_int HE.out.symm, HB2.out⟩
        · have h1' : decide (n < 1) = false := by simpa using h1
          by_cases h2 : 255 < n
          · have HE : Hid (Rg.chkAt 0 l = 3) := by show _ = _; rw [HS.out, if_pos (.inr h2)]
            go_wp2
            go_ret
            exact ⟨ret_int HE.out.symm, HB2.out⟩
          · by_cases h3 : n ≤ last
            · have HE : Hid (Rg.chkAt 0 l = 4) := by show _ = _; rw [HS.out, if_neg (by omega), if_pos h3]
              go_wp2
              go_ret
              exact ⟨ret_int HE.out.symm, HB2.out⟩
            · have HE : Hid (Rg.chkAt 0 l = Rg.chkAt n (l.drop (k + 1))) := by show _ = _; rw [HS.out, if_neg (by omega), if_neg h3]
              go_wp2
              go_roundw
              case rel => exact ⟨k + 1, n, by omega, rfl, by go_num, HE.out, HB2.out⟩
              case measure => simp [intOf]; omega
      · have HE : Hid (Rg.chkAt 0 l = 0) := by show _ = _; rw [HM.out, List.drop_eq_nil_of_le (by omega)]; rfl
        go_wp2
        go_ret
        exact ⟨ret_int HE.out.symm, HB.out⟩
end Go.Proofs.YtandlmnbnjkklaaGreatDoor
namespace Go.Proofs.YtandlmnbnjkklaaGreatDoor
open Go.RowKit

theorem isEp (no n : Int) (A B : Tg.W) (b : Nat) (w : World) (hb : b < w.heap.size) (hc : w.cell? ⟨b, 0, none⟩ = some (.int .i64 no)) :
    Calls Tryz.prog 79 #[.agg #[.int .i64 n, .int .u64 (wd A), .int .u64 (wd B)], .pointer (some ⟨b, 0, none⟩)] w fun e w' => e = .returned (.bool (decide (n = no))) ∧ Below w.heap.size w w' := by
  have hne : b ≠ w.heap.size := by omega
  by_cases h : n = no
  · subst h
    go_enter Tryz.func79, Tryz.ntmps79
    go_wp2
    go_ret
    exact ⟨ret_bool (by simp), below_box w _⟩
  · have h' : (n == no) = false := by simpa using h
    go_enter Tryz.func79, Tryz.ntmps79
    go_wp2
    go_ret
    exact ⟨ret_bool (by simp [h]), below_box w _⟩
def Rg.plc (no : Int) (l : List Rg.Ep) : Int := match Rg.find no l with
  | none => -1
  | some p => (p.1 : Int)
set_option maxRecDepth 100000 in
set_option maxHeartbeats 1000000 in
theorem index_any (l : List Rg.Ep) (a : Option Addr) (cap : Nat) (no : Int) (b : Nat) (w : World) (hl : l.length ≤ maxLen) (hr : Row3 w a l) (hbl : b < w.heap.size) (hc : w.cell? ⟨b, 0, none⟩ = some (.int .i64 no)) :
    Calls Tryz.prog 78 #[.slice a l.length cap, .func (.func 79) #[] #[.pointer (some ⟨b, 0, none⟩)]] w fun e w' => e = .returned (.int .i64 (Rg.plc no l)) ∧ Below w.heap.size w w' := by
  unfold maxLen at hl
  have eg : ∀ args w, (callFunc 79 args).run Tryz.prog w = .ok (.enter 79 args) w := enters_of Tryz.func79 (by kernel_rfl) rfl
  have HR : Hid (Row3 w a l) := hr
  have HC : Hid (w.cell? ⟨b, 0, none⟩ = some (.int .i64 no)) := hc
  clear hr hc
  go_enter Tryz.func78, Tryz.ntmps78
  go_wp2
  go_loopw [5, 8] (fun _ i wr => ∃ (k : Nat), k ≤ l.length ∧ i = .int .i64 k ∧ (∀ j, j < k → ∀ e, l[j]? = some e → e.1 ≠ no) ∧ Below w.heap.size w wr) (fun _ i _ => l.length - (intOf i).toNat)
  case atStart => exact ⟨0, Nat.zero_le _, rfl, fun j hj => by omega, Below.refl _ _⟩
  case round =>
    obtain ⟨k, hk, rfl, hm, hb⟩ := hrel
    have HM : Hid (∀ j, j < k → ∀ e, l[j]? = some e → e.1 ≠ no) := hm
    have HB : Hid (Below w.heap.size w wr) := hb
    clear hm
    by_cases hlt : k < l.length
    · have hlt' : (k : Int) < (l.length : Int) := by omega
      obtain ⟨b', off, n, A, B, rfl, hbs, hx, c1, c2, c3⟩ := (HR.out.below hb).at hlt
      have HX : Hid (l[k]? = some (n, A, B)) := hx
      have hcl := isEp no n A B b wr (Nat.lt_of_lt_of_le hbl hb.size) ((hb.cell (p := ⟨b, 0, none⟩) hbl).trans HC.out)
      clear hx hb
      by_cases h1 : n = no
      · have HE : Hid ((k : Int) = Rg.plc no l) := by show _ = _; unfold Rg.plc; rw [Rg.find_is l no k (A, B) (by rw [← h1]; exact HX.out) HM.out]
        rw [show decide (n = no) = true by simpa using h1] at hcl
        clear h1
        go_wp2_with (go_at_fn 79; refine hcl.mono ?_; rintro e w3 ⟨rfl, hb3⟩; have HB3 : Hid (Below wr.heap.size wr w3) := hb3; clear hb3)
        go_ret
        exact ⟨ret_int HE.out, below_on HB.out (Nat.le_refl _) HB3.out⟩
      · have HE : Hid (∀ j, j < k + 1 → ∀ e, l[j]? = some e → e.1 ≠ no) := by
          intro j hj e he
          by_cases c : j = k
          · subst c; rw [HX.out] at he; cases he; exact h1
          · exact HM.out j (by omega) e he
        rw [show decide (n = no) = false by simpa using h1] at hcl
        clear h1
        go_wp2_with (go_at_fn 79; refine hcl.mono ?_; rintro e w3 ⟨rfl, hb3⟩; have HB3 : Hid (Below wr.heap.size wr w3) := hb3; clear hb3)
        go_roundw
        case rel => exact ⟨k + 1, by omega, by go_num, HE.out, below_on HB.out (Nat.le_refl _) HB3.out⟩
        case measure => simp [intOf]; omega
    · have HE : Hid (-1 = Rg.plc no l) := by
        show _ = _
        unfold Rg.plc
        rw [(Rg.find_none l no).2 fun e he => by
          obtain ⟨j, hj, he⟩ := List.getElem_of_mem he
          exact HM.out j (by omega) e (by rw [List.getElem?_eq_getElem hj, he])]
      go_wp2
      go_ret
      exact ⟨ret_int HE.out, HB.out⟩
set_option maxHeartbeats 1000000 in
theorem place_any (l : List Rg.Ep) (a : Option Addr) (cap : Nat) (no : Int) (w : World) (hl : l.length ≤ maxLen) (hr : Row3 w a l) :
    Calls Tryz.prog 63 #[.slice a l.length cap, .int .i64 no] w fun e w' => e = .returned (.int .i64 (Rg.plc no l)) ∧ Below w.heap.size w w' := by
  have hi := index_any l a cap no w.heap.size (w.alloc (.cells #[.int .i64 no] 3)) hl (hr.below (below_box w _)) (by simp) (by simp)
  have HB : Hid (Below w.heap.size w (w.alloc (.cells #[.int .i64 no] 3))) := below_box w _
  clear hr
  go_enter Tryz.func63, Tryz.ntmps63
  go_wp2_with (go_at_call 78; refine hi.mono ?_; rintro e w3 ⟨rfl, hb3⟩; have HB3 : Hid (Below _ _ w3) := hb3; clear hb3)
  go_ret
  exact ⟨rfl, below_on HB.out (Nat.le_refl _) HB3.out⟩
theorem Rg.plc_none {no : Int} {l : List Rg.Ep} (h : Rg.find no l = none) : Rg.plc no l = -1 := by unfold Rg.plc; rw [h]
theorem Rg.plc_some {no : Int} {l : List Rg.Ep} {p : Nat × Tg.W × Tg.W} (h : Rg.find no l = some p) : Rg.plc no l = (p.1 : Int) := by unfold Rg.plc; rw [h]
end Go.Proofs.YtandlmnbnjkklaaGreatDoor
