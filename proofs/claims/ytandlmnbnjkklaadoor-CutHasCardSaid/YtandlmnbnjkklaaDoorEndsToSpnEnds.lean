/- The walk of the reference's ends of spans. Plain mathematics of the ends of spans: rising, each once; between two neighbours nothing turns. -/
import Derived.Test.YtandlmnbnjkklaaDoorInts
import Derived.Deep.RegionHeld3
namespace Go.Proofs.YtandlmnbnjkklaaDoor
open Go.RowKit

namespace Spn
/-- the ends of spans, rising, each once -/
def ends (l : List Sp) : List Int := l.foldl (fun o s => ins (ins o s.1) s.2) []
theorem ends_succ (l : List Sp) (k : Nat) (x y : Int) (h : l[k]? = some (x, y)) : ends (l.take (k + 1)) = ins (ins (ends (l.take k)) x) y := by
  unfold ends; rw [take_succ_of l k x y h, List.foldl_append]; rfl
theorem ins_len (l : List Int) (n : Int) : (ins l n).length ≤ 2 * l.length + 1 := by
  have := insAt_len l n l.length
  unfold ins; split <;> simp <;> omega
end Spn
set_option maxHeartbeats 1000000 in
theorem endsOf_any (l : List Spn.Sp) (a : Option Addr) (cap : Nat) (w : World) (hl : l.length ≤ 1000) (hlen : ∀ k, (Spn.ends (l.take k)).length ≤ 10000) (hlen2 : ∀ k x, (Spn.ins (Spn.ends (l.take k)) x).length ≤ 30000) (hr : Row2 w a l) :
    Calls Tryd.prog 69 #[.slice a l.length cap] w fun e w' => ∃ v, e = .returned v ∧ OwnI w' w.heap.size v (Spn.ends l) ∧ Below w.heap.size w w' := by
  go_enter Tryd.func69, Tryd.ntmps69
  go_wp2
  go_loopw [3, 4] (fun v i wr => ∃ k : Nat, k ≤ l.length ∧ i = .int .i64 k ∧ OwnI wr w.heap.size v (Spn.ends (l.take k)) ∧ Below w.heap.size w wr) (fun _ i _ => l.length - (intOf i).toNat)
  case atStart => exact ⟨0, Nat.zero_le _, rfl, OwnI.nil _ _, Below.refl _ _⟩
  case round =>
    obtain ⟨k, hk, rfl, hown, hnx⟩ := hrel
    by_cases hlt : k < l.length
    · obtain ⟨b, off, x, y, rfl, hx, c1, c2⟩ := hr.at hlt
      have hb : b < w.heap.size := by
        rcases hr with rfl | ⟨b', off', e, hb, _⟩
        · simp at hlt
        · simp at e; obtain ⟨rfl, rfl⟩ := e; exact hb
      have hlt' : (k : Int) < (l.length : Int) := by omega
      have HS : Hid (Spn.ends (l.take (k + 1)) = Spn.ins (Spn.ins (Spn.ends (l.take k)) x) y) := Spn.ends_succ l k x y hx
      have d1 : wr.cell? ⟨b, off + k * 2, none⟩ = some (.int .i64 x) := (hnx.cell (p := ⟨b, off + k * 2, none⟩) hb).trans c1
      have d2 : wr.cell? ⟨b, off + k * 2 + 1, none⟩ = some (.int .i64 y) := (hnx.cell (p := ⟨b, off + k * 2 + 1, none⟩) hb).trans c2
      clear hx c1 c2 hr
      obtain ⟨ar, cr, rfl, rowr⟩ := hown.row
      have hl1 := hlen k
      have hl2 := hlen2 k x
      have tok1 : True := trivial
      have hbr : b < wr.drew.heap.size := Nat.lt_of_lt_of_le hb hnx.size
      go_wp2
      go_region_held3 (fun w' => w'.cell? ⟨b, off + k * 2, none⟩ = some (.int .i64 x) ∧ w'.cell? ⟨b, off + k * 2 + 1, none⟩ = some (.int .i64 y)) (go_keep)
        (first
          | (go_at_call 77; have _t := tok1; refine (withInt_any _ _ _ _ wr.drew (by omega) rowr).mono ?_; rintro e w1 ⟨v1, rfl, own1, b1⟩; clear tok1; obtain ⟨a1, k1, rfl, row1⟩ := own1.row; have e1 := (b1.cell (p := ⟨b, off + k * 2, none⟩) hbr).trans d1; have e2 := (b1.cell (p := ⟨b, off + k * 2 + 1, none⟩) hbr).trans d2)
          | (go_at_call 77; refine (withInt_any _ _ _ _ w1 (by omega) row1).mono ?_; rintro e w2 ⟨v2, rfl, own2, b2⟩; have f1 := (b2.cell (p := ⟨b, off + k * 2, none⟩) (Nat.lt_of_lt_of_le hbr b1.size)).trans e1; have f2 := (b2.cell (p := ⟨b, off + k * 2 + 1, none⟩) (Nat.lt_of_lt_of_le hbr b1.size)).trans e2))
      go_wp2
      go_roundw
      case rel => exact ⟨k + 1, by omega, by go_num, by rw [HS.out]; exact own2.weak (Nat.le_trans hnx.size b1.size), below_on (below_on hnx.drew (Nat.le_refl _) b1) (Nat.le_refl _) b2⟩
      case measure => simp [intOf]; omega
    · obtain rfl : k = l.length := by omega
      go_wp2
      go_ret
      rw [List.take_length] at hown
      exact ⟨_, rfl, hown, hnx⟩
end Go.Proofs.YtandlmnbnjkklaaDoor
namespace Go.Proofs.YtandlmnbnjkklaaDoor
namespace Spn
def insR (n : Int) : List Int → List Int
  | [] => [n]
  | x :: l => if n < x then n :: x :: l else if n = x then x :: l else x :: insR n l
theorem fold_true (n : Int) : ∀ (l : List Int) (out : List Int), l.foldl (insStep n) (out, true) = (out ++ l.filter (fun x => !decide (x = n)), true)
  | [], out => by simp
  | x :: l, out => by
    have e : insStep n (out, true) x = (out ++ (if x = n then [] else [x]), true) := by simp [insStep]
    rw [List.foldl_cons, e, fold_true n l]
    by_cases h : x = n <;> simp [h]
theorem fold_false (n : Int) : ∀ (l : List Int) (out : List Int), l.Pairwise (· < ·) →
    (if (l.foldl (insStep n) (out, false)).2 = true then (l.foldl (insStep n) (out, false)).1 else (l.foldl (insStep n) (out, false)).1 ++ [n]) = out ++ insR n l
  | [], out, _ => by simp [insR]
  | x :: l, out, h => by
    rw [List.pairwise_cons] at h
    by_cases c : n ≤ x
    · have e : insStep n (out, false) x = (out ++ [n] ++ (if x = n then [] else [x]), true) := by simp [insStep, c]
      have ef : l.filter (fun y => !decide (y = n)) = l := by
        rw [List.filter_eq_self]
        intro y hy
        have := h.1 y hy
        simp; omega
      rw [List.foldl_cons, e, fold_true n l]
      simp only [if_true, ef]
      by_cases d : x = n
      · subst d; simp [insR]
      · have : n < x := by omega
        simp [insR, d, this]
    · have e : insStep n (out, false) x = (out ++ [x], false) := by
        have : ¬ x = n := by omega
        simp [insStep, c, this]
      have ih := fold_false n l (out ++ [x]) h.2
      rw [List.foldl_cons, e, ih]
      have d1 : ¬ n < x := by omega
      have d2 : ¬ n = x := by omega
      simp [insR, d1, d2]
theorem ins_eq (l : List Int) (n : Int) (h : l.Pairwise (· < ·)) : ins l n = insR n l := by
  have := fold_false n l [] h
  unfold ins insAt
  rw [List.take_length]
  simpa using this
theorem insR_mem (n : Int) : ∀ (l : List Int) (x : Int), x ∈ insR n l ↔ x = n ∨ x ∈ l
  | [], x => by simp [insR]
  | y :: l, x => by
    unfold insR
    by_cases c : n < y
    · rw [if_pos c]; simp
    · rw [if_neg c]
      by_cases d : n = y
      · rw [if_pos d]; subst d; simp
      · rw [if_neg d, List.mem_cons, List.mem_cons, insR_mem n l]
        constructor
        · rintro (a | a | a)
          · exact .inr (.inl a)
          · exact .inl a
          · exact .inr (.inr a)
        · rintro (a | a | a)
          · exact .inr (.inl a)
          · exact .inl a
          · exact .inr (.inr a)
theorem insR_sorted (n : Int) : ∀ (l : List Int), l.Pairwise (· < ·) → (insR n l).Pairwise (· < ·)
  | [], _ => by simp [insR]
  | y :: l, h => by
    rw [List.pairwise_cons] at h
    unfold insR
    by_cases c : n < y
    · rw [if_pos c, List.pairwise_cons, List.pairwise_cons]
      refine ⟨?_, h⟩
      intro x hx
      rcases List.mem_cons.1 hx with rfl | hx
      · exact c
      · have := h.1 x hx; omega
    · rw [if_neg c]
      by_cases d : n = y
      · rw [if_pos d, List.pairwise_cons]; exact h
      · rw [if_neg d, List.pairwise_cons]
        refine ⟨?_, insR_sorted n l h.2⟩
        intro x hx
        rcases (insR_mem n l x).1 hx with rfl | hx
        · omega
        · exact h.1 x hx
theorem insR_len (n : Int) : ∀ (l : List Int), (insR n l).length ≤ l.length + 1
  | [] => by simp [insR]
  | y :: l => by
    have := insR_len n l
    unfold insR; split
    · simp
    · split <;> simp <;> omega
theorem ends_all (l : List Sp) : (ends l).Pairwise (· < ·) ∧ (∀ x, x ∈ ends l ↔ ∃ s ∈ l, x = s.1 ∨ x = s.2) ∧ (ends l).length ≤ 2 * l.length := by
  have key : ∀ (l : List Sp) (o : List Int), o.Pairwise (· < ·) → (l.foldl (fun o s => ins (ins o s.1) s.2) o).Pairwise (· < ·) ∧ (∀ x, x ∈ l.foldl (fun o s => ins (ins o s.1) s.2) o ↔ x ∈ o ∨ ∃ s ∈ l, x = s.1 ∨ x = s.2) ∧ (l.foldl (fun o s => ins (ins o s.1) s.2) o).length ≤ o.length + 2 * l.length := by
    intro l
    induction l with
    | nil => intro o h; exact ⟨h, fun x => by simp, by simp⟩
    | cons s l ih =>
      intro o h
      have s1 : (ins o s.1).Pairwise (· < ·) := by rw [ins_eq o s.1 h]; exact insR_sorted s.1 o h
      have s2 : (ins (ins o s.1) s.2).Pairwise (· < ·) := by rw [ins_eq _ s.2 s1]; exact insR_sorted s.2 _ s1
      obtain ⟨a, b, c⟩ := ih _ s2
      refine ⟨a, fun x => ?_, ?_⟩
      · rw [List.foldl_cons, b, ins_eq _ s.2 s1, insR_mem, ins_eq o s.1 h, insR_mem]
        simp only [List.mem_cons, exists_eq_or_imp]
        constructor
        · rintro ((h | h | h) | h)
          · exact .inr (.inl (.inr h))
          · exact .inr (.inl (.inl h))
          · exact .inl h
          · exact .inr (.inr h)
        · rintro (h | (h | h) | h)
          · exact .inl (.inr (.inr h))
          · exact .inl (.inr (.inl h))
          · exact .inl (.inl h)
          · exact .inr h
      · rw [List.foldl_cons]
        have l1 := insR_len s.1 o
        have l2 := insR_len s.2 (ins o s.1)
        rw [← ins_eq o s.1 h] at l1
        rw [← ins_eq _ s.2 s1] at l2
        simp only [List.length_cons]
        omega
  have k := key l [] List.Pairwise.nil
  refine ⟨k.1, fun x => ?_, ?_⟩
  · have := k.2.1 x; simpa [ends] using this
  · have := k.2.2; simpa [ends] using this
theorem ins_ends_len (l : List Sp) (x : Int) : (ins (ends l) x).length ≤ 2 * l.length + 1 := by
  have h := ends_all l
  rw [ins_eq _ _ h.1]
  have := insR_len x (ends l)
  omega
/-- where no end lies between, nothing turns -/
theorem mem_still (l : List Sp) (e n : Int) (hen : e ≤ n) (h : ∀ s ∈ l, ¬ (e < s.1 ∧ s.1 ≤ n) ∧ ¬ (e < s.2 ∧ s.2 ≤ n)) : mem l n ↔ mem l e := by
  constructor
  · rintro ⟨s, hs, h1, h2⟩
    have := h s hs
    exact ⟨s, hs, by omega, by omega⟩
  · rintro ⟨s, hs, h1, h2⟩
    have := h s hs
    exact ⟨s, hs, by omega, by omega⟩
theorem memB_still (l : List Sp) (e n : Int) (hen : e ≤ n) (h : ∀ s ∈ l, ¬ (e < s.1 ∧ s.1 ≤ n) ∧ ¬ (e < s.2 ∧ s.2 ≤ n)) : memB l n = memB l e := by
  rw [Bool.eq_iff_iff, memB_iff, memB_iff]; exact mem_still l e n hen h
/-- neighbours of a rising list: no member lies between -/
theorem none_between (es : List Int) (hs : es.Pairwise (· < ·)) (k : Nat) (x y : Int) (hx : es[k]? = some x) (hy : es[k + 1]? = some y) : x < y ∧ ∀ z ∈ es, z ≤ x ∨ y ≤ z := by
  have hk1 : k + 1 < es.length := by
    rcases Nat.lt_or_ge (k + 1) es.length with c | c
    · exact c
    · rw [List.getElem?_eq_none c] at hy; cases hy
  rw [List.getElem?_eq_getElem (by omega)] at hx
  rw [List.getElem?_eq_getElem hk1] at hy
  have ex := Option.some.inj hx
  have ey := Option.some.inj hy
  have lt : ∀ i j (hi : i < es.length) (hj : j < es.length), i < j → es[i] < es[j] := fun i j hi hj h => List.pairwise_iff_getElem.1 hs i j hi hj h
  refine ⟨by rw [← ex, ← ey]; exact lt k (k + 1) _ _ (by omega), ?_⟩
  intro z hz
  obtain ⟨i, hi, rfl⟩ := List.getElem_of_mem hz
  rcases Nat.lt_trichotomy i k with c | c | c
  · left; have := lt i k hi (by omega) c; omega
  · left; subst c; omega
  · right
    by_cases d : i = k + 1
    · subst d; omega
    · have := lt (k + 1) i hk1 hi (by omega); omega
end Spn
end Go.Proofs.YtandlmnbnjkklaaDoor
