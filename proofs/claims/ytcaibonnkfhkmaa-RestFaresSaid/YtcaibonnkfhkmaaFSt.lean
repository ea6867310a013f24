/- Mended fares that are written over, row by row, while others lie there. -/
import Derived.Test.YtcaibonnkfhkmaaFRm
import Derived.Test.YtcaibonnkfhkmaaFMe
import Derived.Test.YtcaibonnkfhkmaaOpenM
import Derived.Test.YtcaibonnkfhkmaaFSm
namespace Go.Proofs.Ytcaibonnkfhkmaa
open Go.RowKit

/-- what has been written over: all rows ahead of i, of row i the first j -/
def Fr.mx (C : Nat → Nat → Int) (i j : Nat) : Nat → Nat → Int := fun x y => if x < i ∨ (x = i ∧ y < i + j) then -5 else C x y
structure FSt (W : World) (s t n : Nat) (C : Nat → Nat → Int) (i j : Nat) (w : World) : Prop where
  hs : W.heap.size = s
  st : s + 3 + n ≤ t
  m : Out w (s + 1) n (fun k => s + 3 + k) (Fr.mx C i j)
  again : Out w (t + 1) n (fun k => t + 3 + k) C
  below : Below s W w
theorem FSt.set {W w : World} {s t n : Nat} {C : Nat → Nat → Int} {i j : Nat} (h : FSt W s t n C i j w) (hi : i < n) (_hj : j < n - i) : FSt W s t n C i (j + 1) (w.setCell ⟨s + 3 + i, j, none⟩ (.int .i64 (-5))) := by
  have hst := h.st
  refine ⟨h.hs, h.st, ?_, ?_, ?_⟩
  · refine (h.m.set (fun k hk e => ?_) (fun a b _ _ e => ?_) hi (t := j) (-5)).congr fun x y hxy hy => ?_
    · have : s + 3 + k = s + 1 := e
      omega
    · have : s + 3 + a = s + 3 + b := e
      omega
    · unfold Fr.mx
      by_cases c1 : x = i ∧ y = i + j
      · rw [if_pos c1, if_pos (by omega)]
      · rw [if_neg c1]
        by_cases c2 : x < i ∨ (x = i ∧ y < i + j)
        · rw [if_pos c2, if_pos (by omega)]
        · rw [if_neg c2, if_neg (by omega)]
  · refine ⟨World.rowIs.setOther h.again.1 (a := ⟨s + 3 + i, j, none⟩) (fun e => ?_) _, fun k hk => World.rowIs.setOther (h.again.2 k hk) (a := ⟨s + 3 + i, j, none⟩) (fun e => ?_) _⟩
    · have : t + 1 = s + 3 + i := e
      omega
    · have : t + 3 + k = s + 3 + i := e
      omega
  · exact h.below.setCell (by dsimp only; omega) _
theorem FSt.next {W w : World} {s t n : Nat} {C : Nat → Nat → Int} {i : Nat} (h : FSt W s t n C i (n - i) w) (hi : i < n) : FSt W s t n C (i + 1) 0 w :=
  ⟨h.hs, h.st, h.m.congr fun x y hxy hy => by
    unfold Fr.mx
    by_cases c2 : x < i ∨ (x = i ∧ y < i + (n - i))
    · rw [if_pos c2, if_pos (by omega)]
    · rw [if_neg c2, if_neg (by omega)], h.again, h.below⟩
theorem FSt.drewN {W w : World} {s t n : Nat} {C : Nat → Nat → Int} {i j : Nat} (h : FSt W s t n C i j w) (q : Nat) : FSt W s t n C i j (w.drewN q) :=
  ⟨h.hs, h.st, h.m.below (below_drewN (Below.refl _ _) q), h.again.below (below_drewN (Below.refl _ _) q), below_drewN h.below q⟩
theorem FSt.head {W w : World} {s t n : Nat} {C : Nat → Nat → Int} {i j : Nat} (h : FSt W s t n C i j w) {k : Nat} (hk : k < n) : w.cell? ⟨s + 1, k, none⟩ = some (.slice (some ⟨s + 3 + k, 0, none⟩) (n - k) (n - k)) := World.rowIs.cell h.m.1 hk
theorem FSt.headA {W w : World} {s t n : Nat} {C : Nat → Nat → Int} {i j : Nat} (h : FSt W s t n C i j w) {k : Nat} (hk : k < n) : w.cell? ⟨t + 1, k, none⟩ = some (.slice (some ⟨t + 3 + k, 0, none⟩) (n - k) (n - k)) := World.rowIs.cell h.again.1 hk
theorem FSt.one {W w : World} {s t n : Nat} {C : Nat → Nat → Int} {i j : Nat} (h : FSt W s t n C i j w) (hi : i < n) {k : Nat} (hk : k < n - i) : ∃ x, w.cell? ⟨s + 3 + i, k, none⟩ = some (.int .i64 x) ∧ w.frozen? ⟨s + 3 + i, k, none⟩ = false :=
  ⟨_, RowI.cell (h.m.2 i hi) hk, RowI.frozen (h.m.2 i hi) k⟩
theorem FSt.rowM {W w : World} {s t n : Nat} {C : Nat → Nat → Int} {i : Nat} (h : FSt W s t n C i 0 w) {k : Nat} (hk : k < n) (hik : i ≤ k) : Row1 w (some ⟨s + 3 + k, 0, none⟩) ((List.range (n - k)).map fun y => C k (k + y)) := by
  refine RowI.row1 (n := n - k) ((h.m.2 k hk).congr fun y hy => ?_)
  unfold Fr.mx
  rw [if_neg (by omega)]
theorem FSt.rowA {W w : World} {s t n : Nat} {C : Nat → Nat → Int} {i j : Nat} (h : FSt W s t n C i j w) {k : Nat} (hk : k < n) : Row1 w (some ⟨t + 3 + k, 0, none⟩) ((List.range (n - k)).map fun y => C k (k + y)) :=
  RowI.row1 (n := n - k) (h.again.2 k hk)
/-- two rows that are alike -/
theorem FSt.same {W w : World} {s t n : Nat} {C : Nat → Nat → Int} {i : Nat} (h : FSt W s t n C i 0 w) (hn : n ≤ 1000) {k : Nat} (hk : k < n) (hik : i ≤ k) (q : Nat) :
    Calls Try.prog 20 #[.slice (some ⟨s + 3 + k, 0, none⟩) (n - k) (n - k), .slice (some ⟨t + 3 + k, 0, none⟩) (n - k) (n - k)] (w.drewN q) fun e w' => e = .returned (.bool true) ∧ ∃ q2, w' = (w.drewN q).drewN q2 := by
  have hl : ((List.range (n - k)).map fun y => C k (k + y)).length = n - k := by simp
  have := sameInts_any _ _ (some ⟨s + 3 + k, 0, none⟩) (some ⟨t + 3 + k, 0, none⟩) (n - k) (n - k) (w.drewN q) (by rw [hl]; unfold maxLen; omega) (by rw [hl]; unfold maxLen; omega) ((h.drewN q).rowM hk hik) ((h.drewN q).rowA hk)
  rw [hl, decide_eq_true rfl] at this
  exact this
theorem MatN.at {w : World} {a : Option Addr} {f : List (List Int)} (h : MatN w a f) {k : Nat} (hlt : k < f.length) :
    ∃ b off ai ci, a = some ⟨b, off, none⟩ ∧ b < w.heap.size ∧ w.cell? ⟨b, off + k, none⟩ = some (.slice ai (f.getD k []).length ci) ∧ Row1 w ai (f.getD k []) ∧ (f.getD k []).length ≤ maxLen ∧ (ai = none → ci = 0 ∧ f.getD k [] = []) := by
  rcases h with rfl | ⟨b, off, rfl, hb, hc⟩
  · simp at hlt
  · obtain ⟨ai, ci, h1, h2, h3, h4⟩ := hc k hlt
    exact ⟨b, off, ai, ci, rfl, hb, h1, h2, h3, h4⟩
theorem MatN.below {w w' : World} {a : Option Addr} {f : List (List Int)} (h : MatN w a f) (hb : Below w.heap.size w w') : MatN w' a f := by
  rcases h with h | ⟨b, off, rfl, hlt, hc⟩
  · exact .inl h
  · refine .inr ⟨b, off, rfl, Nat.lt_of_lt_of_le hlt hb.size, fun i hi => ?_⟩
    obtain ⟨ai, ci, h1, h2, h3, h4⟩ := hc i hi
    exact ⟨ai, ci, (hb.cell (p := ⟨b, _, none⟩) hlt).trans h1, h2.below hb, h3, h4⟩
theorem take_next (f : List (List Int)) (k : Nat) (h : k < f.length) : f.take (k + 1) = f.take k ++ [f.getD k []] := by
  rw [List.take_succ_eq_append_getElem h]
  congr 2
  simp [List.getD, List.getElem?_eq_getElem h]
theorem Row1.news1 {w : World} {a : Option Addr} {l : List Int} (h : Row1 w a l) : ∀ ad, a = some ad → ∀ j u, (l.map (Value.int .i64))[j]? = some u → w.cell? (ad.add j) = some u := by
  rintro ad rfl j u hj
  have hjl : j < l.length := by
    rcases Nat.lt_or_ge j l.length with c | c
    · exact c
    · rw [List.getElem?_eq_none (by simpa using c)] at hj; cases hj
  rcases h with rfl | ⟨b, off, e, hlt, hc⟩
  · simp at hjl
  · cases e
    have := hc j hjl
    have e2 : (⟨b, off, none⟩ : Addr).add j = ⟨b, off + j, none⟩ := by cases j with
      | zero => rfl
      | succ j => simp [Addr.add]
    rw [e2, this]
    simp [List.getElem?_eq_getElem hjl] at hj
    subst hj
    simp [List.getD, List.getElem?_eq_getElem hjl]
theorem ints_one1 (l : List Int) : ∀ u ∈ l.map (Value.int .i64), u.oneCell' = true := by
  intro u hu
  simp only [List.mem_map] at hu
  obtain ⟨x, _, rfl⟩ := hu
  rfl
theorem OwnI.join1 {w wr w1 : World} {B : Nat} {v v' : Value} {xs ys : List Int} (hB : B ≤ wr.heap.size) (hown : OwnI wr B v xs) (hnx : Below B w wr)
    (hown' : w1.ownsRow B 3 1 v' (xs.length + ys.length) (xs.map (Value.int .i64) ++ ys.map (Value.int .i64))) (hgrow : wr.grownBy w1 v.ownBlock) :
    OwnI w1 B v' (xs ++ ys) ∧ Below B w w1 :=
  ⟨by unfold OwnI; rw [List.map_append, List.length_append]; exact hown', hnx.grown hgrow hB (fun j hj => (World.ownsRow.lt hown j hj).1)⟩
end Go.Proofs.Ytcaibonnkfhkmaa
