/- Plain mathematics of the laws on sets of days: an answer is right again; a Boolean algebra; inclusion and exclusion; one form alone. The walks of the small functions of the calendar: each returns what the plain mathematics says, and leaves the world as it was. -/
import Derived.Test.YtandlmnbnjkklaaGreatDoorIntsToSpnBy
import Derived.Test.YtandlmnbnjkklaaGreatDoorBaseToAppAll
import Derived.Test.YtandlmnbnjkklaaGreatDoorCal
import Derived.WalkKit
import Derived.WalkSpells
import Derived.WalkLawsBesides
namespace Go.Proofs.YtandlmnbnjkklaaGreatDoor
namespace Spn
theorem push_ends (out : List Sp) (x y : Int) (p : Int → Prop) (h : ∀ s ∈ out, p s.1 ∧ p s.2) (hx : p x) (hy : p y) : ∀ s ∈ push out x y, p s.1 ∧ p s.2 := by
  rcases List.eq_nil_or_concat out with rfl | ⟨l, t, rfl⟩
  · intro s hs
    rw [push_nil] at hs
    rcases List.mem_singleton.1 hs with rfl
    exact ⟨hx, hy⟩
  · rw [List.concat_eq_append] at h ⊢
    by_cases e : t.2 = x
    · rw [push_same l t x y e]
      intro s hs
      rcases List.mem_append.1 hs with hs | hs
      · exact h s (List.mem_append_left _ hs)
      · rcases List.mem_singleton.1 hs with rfl
        exact ⟨(h t (by simp)).1, hy⟩
    · rw [push_other l t x y e]
      intro s hs
      rcases List.mem_append.1 hs with hs | hs
      · exact h s hs
      · rcases List.mem_singleton.1 hs with rfl
        exact ⟨hx, hy⟩
theorem byAt_ends (op : Int) (a b : List Sp) : ∀ k, ∀ s ∈ byAt op a b k, s.1 ∈ ends (a ++ b) ∧ s.2 ∈ ends (a ++ b)
  | 0 => fun s hs => by cases hs
  | k + 1 => by
    have ih := byAt_ends op a b k
    unfold byAt
    split
    · rename_i x y hx hy
      split
      · exact push_ends _ x y (fun z => z ∈ ends (a ++ b)) ih (List.mem_of_getElem? hx) (List.mem_of_getElem? hy)
      · exact ih
    · exact ih
theorem both_near (op : Int) (a b : List Sp) (ha : ∀ s ∈ a, far s.1 = false ∧ far s.2 = false) (hb : ∀ s ∈ b, far s.1 = false ∧ far s.2 = false) : ∀ s ∈ both op a b, far s.1 = false ∧ far s.2 = false := by
  have key : ∀ z ∈ ends (a ++ b), far z = false := by
    intro z hz
    obtain ⟨s, hs, h⟩ := ((ends_all (a ++ b)).2.1 z).1 hz
    rcases List.mem_append.1 hs with hs | hs
    · rcases h with rfl | rfl
      · exact (ha s hs).1
      · exact (ha s hs).2
    · rcases h with rfl | rfl
      · exact (hb s hs).1
      · exact (hb s hs).2
  intro s hs
  have := byAt_ends op a b _ s hs
  exact ⟨key _ this.1, key _ this.2⟩
theorem code_zero (op : Int) (a b : List Sp) (h : code op a b = 0) : chk a = 0 ∧ chk b = 0 ∧ (both op a b).length ≤ 64 := by
  unfold code at h
  by_cases h1 : chk a = 0
  · rw [if_pos h1] at h
    by_cases h2 : chk b = 0
    · rw [if_pos h2] at h
      by_cases h3 : 64 < (both op a b).length
      · rw [if_pos h3] at h; cases h
      · exact ⟨h1, h2, by omega⟩
    · rw [if_neg h2] at h; exact absurd h h2
  · rw [if_neg h1] at h; exact absurd h h1
/-- an answer is a set that is right -/
theorem ans_chk (op : Int) (a b : List Sp) (h : code op a b = 0) : chk (ans op a b) = 0 ∧ ∀ n, memB (ans op a b) n = opB op (memB a n) (memB b n) := by
  obtain ⟨h1, h2, h3⟩ := code_zero op a b h
  have e : ans op a b = both op a b := by unfold ans; rw [if_pos h]
  have s := both_spec op a b
  rw [e]
  refine ⟨?_, s.2⟩
  rw [chk_zero]
  exact ⟨h3, both_near op a b ((chk_zero a).1 h1).2.1 ((chk_zero b).1 h2).2.1, s.1⟩
theorem ext_chk (a b : List Sp) (ha : chk a = 0) (hb : chk b = 0) (h : ∀ n, memB a n = memB b n) : a = b :=
  canon_unique a b ((chk_zero a).1 ha).2.2 ((chk_zero b).1 hb).2.2 fun n => by rw [← memB_iff, ← memB_iff, h n]
theorem both_comm (op : Int) (a b : List Sp) (h : ∀ x y, opB op x y = opB op y x) : both op a b = both op b a := by
  have s := both_spec op a b
  have t := both_spec op b a
  exact canon_unique _ _ s.1 t.1 fun n => by rw [← memB_iff, ← memB_iff, s.2 n, t.2 n, h]
/-- how many days two answers have together -/
theorem size_cnt_chk (l : List Sp) (h : chk l = 0) : size l = cnt (memB l) (-1099511627776) 2199023255552 := by
  obtain ⟨_, h2, h3⟩ := (chk_zero l).1 h
  refine size_cnt l _ _ ?_ ?_
  · cases l with
    | nil => trivial
    | cons s l =>
      have := far_bd s.1 (h2 s List.mem_cons_self).1
      exact ⟨by omega, h3.1, h3.2⟩
  · intro s hs
    have := far_bd s.2 (h2 s hs).2
    omega
theorem size_pair (p q r t : List Sp) (hp : chk p = 0) (hq : chk q = 0) (hr : chk r = 0) (ht : chk t = 0)
    (h : ∀ n, (if memB p n = true then (1 : Int) else 0) + (if memB q n = true then 1 else 0) = (if memB r n = true then 1 else 0) + (if memB t n = true then 1 else 0)) : size p + size q = size r + size t := by
  rw [size_cnt_chk p hp, size_cnt_chk q hq, size_cnt_chk r hr, size_cnt_chk t ht]
  exact cnt_pair _ _ _ _ _ h _
theorem chk_order (l : List Sp) (h : chk l = 0) : ∀ s ∈ l, far s.1 = false ∧ far s.2 = false ∧ s.1 ≤ s.2 := by
  obtain ⟨_, h2, h3⟩ := (chk_zero l).1 h
  intro s hs
  have := ((canon_iff_pair l).1 h3).1 s hs
  exact ⟨(h2 s hs).1, (h2 s hs).2, by omega⟩
theorem size_chk (l : List Sp) (h : chk l = 0) : 0 ≤ size l ∧ size l ≤ 140737488355328 := by
  have b := size_bd l (chk_order l h)
  have := ((chk_zero l).1 h).1
  omega
/-- a list without anything twice whose members are all another's is no longer -/
theorem length_le_of_mem : ∀ (xs ys : List Int), xs.Nodup → (∀ x ∈ xs, x ∈ ys) → xs.length ≤ ys.length
  | [], _, _, _ => Nat.zero_le _
  | x :: xs, ys, hn, hm => by
    rw [List.nodup_cons] at hn
    have hx := hm x List.mem_cons_self
    have ih := length_le_of_mem xs (ys.erase x) hn.2 (fun z hz => by
      have hne : z ≠ x := by rintro rfl; exact hn.1 hz
      exact (List.mem_erase_of_ne hne).2 (hm z (List.mem_cons_of_mem _ hz)))
    have := List.length_erase_of_mem hx
    have hp : 0 < ys.length := List.length_pos_of_mem hx
    simp only [List.length_cons]
    omega
/-- each span of the one form begins where one of the spans begins -/
theorem both_starts (l : List Sp) : ∀ s ∈ both 0 l [], ∃ t ∈ l, t.1 = s.1 := by
  intro s hs
  have sp := both_spec 0 l []
  have hm : ∀ n, mem (both 0 l []) n ↔ mem l n := fun n => by rw [← memB_iff, ← memB_iff, sp.2 n]; simp [opB, memB]
  have hp := (canon_iff_pair _).1 sp.1
  have hlt := hp.1 s hs
  obtain ⟨t, ht, t1, t2⟩ := (hm s.1).1 ⟨s, hs, Int.le_refl _, hlt⟩
  refine ⟨t, ht, ?_⟩
  rcases Int.lt_or_eq_of_le t1 with c | c
  · exfalso
    obtain ⟨u, hu, u1, u2⟩ := (hm (s.1 - 1)).2 ⟨t, ht, by omega, by omega⟩
    obtain ⟨i, hi, rfl⟩ := List.getElem_of_mem hs
    obtain ⟨j, hj, rfl⟩ := List.getElem_of_mem hu
    have pw := List.pairwise_iff_getElem.1 hp.2
    rcases Nat.lt_trichotomy i j with d | d | d
    · have := pw i j hi hj d; omega
    · subst d; omega
    · have := pw j i hj hi d; omega
  · exact c
theorem both_few (l : List Sp) : (both 0 l []).length ≤ l.length := by
  have sp := both_spec 0 l []
  have hp := (canon_iff_pair _).1 sp.1
  have := length_le_of_mem ((both 0 l []).map (·.1)) (l.map (·.1)) (by
    unfold List.Nodup
    rw [List.pairwise_map]
    refine hp.2.imp_of_mem fun {s t} hs _ h => ?_
    have := hp.1 s hs
    omega) (fun x hx => by
      obtain ⟨s, hs, rfl⟩ := List.mem_map.1 hx
      obtain ⟨t, ht, e⟩ := both_starts l s hs
      exact List.mem_map.2 ⟨t, ht, e⟩)
  simpa using this
theorem chkO_zero : ∀ l : List Sp, chkO l = 0 ↔ ∀ s ∈ l, far s.1 = false ∧ far s.2 = false ∧ s.1 ≤ s.2
  | [] => by simp [chkO]
  | s :: l => by
    have ih := chkO_zero l
    unfold chkO
    cases hf : far s.1 <;> cases hg : far s.2 <;> simp [hf, hg]
    by_cases h1 : s.2 < s.1
    · rw [if_pos h1]; simp; intro; omega
    · rw [if_neg h1, ih]
      constructor
      · intro a; exact ⟨by omega, fun x y h => a (x, y) h⟩
      · rintro ⟨_, a⟩ t ht; exact a t.1 t.2 ht
theorem chkOf_zero (l : List Sp) : chkOf l = 0 ↔ l.length ≤ 64 ∧ ∀ s ∈ l, far s.1 = false ∧ far s.2 = false ∧ s.1 ≤ s.2 := by
  unfold chkOf
  by_cases h : 64 < l.length
  · rw [if_pos h]; simp; intro; omega
  · rw [if_neg h, chkO_zero]; exact ⟨fun a => ⟨by omega, a⟩, fun a => a.2⟩
theorem setOf_chk (l : List Sp) (h : chkOf l = 0) : chk (setOf l) = 0 ∧ ∀ n, memB (setOf l) n = memB l n := by
  obtain ⟨h1, h2⟩ := (chkOf_zero l).1 h
  have e : setOf l = both 0 l [] := by unfold setOf; rw [if_pos h]
  have sp := both_spec 0 l []
  rw [e]
  refine ⟨?_, fun n => by rw [sp.2 n]; simp [opB, memB]⟩
  rw [chk_zero]
  exact ⟨Nat.le_trans (both_few l) h1, both_near 0 l [] (fun s hs => ⟨(h2 s hs).1, (h2 s hs).2.1⟩) (fun s hs => by cases hs), sp.1⟩
theorem setOf_self (l : List Sp) (h : chk l = 0) : chkOf l = 0 ∧ setOf l = l := by
  have h0 : chkOf l = 0 := (chkOf_zero l).2 ⟨((chk_zero l).1 h).1, chk_order l h⟩
  have s := setOf_chk l h0
  exact ⟨h0, ext_chk _ _ s.1 h s.2⟩
end Spn
end Go.Proofs.YtandlmnbnjkklaaGreatDoor
namespace Go.Proofs.YtandlmnbnjkklaaGreatDoor
open Go.RowKit

theorem within_yes (n a b : Int) (w : World) (h1 : a ≤ n) (h2 : n ≤ b) :
    Calls Tryz.prog 120 #[.int .i64 n, .int .i64 a, .int .i64 b] w fun e w' => e = .returned (.bool true) ∧ w' = w := by
  go_enter Tryz.func120, Tryz.ntmps120
  go_wp2
  go_ret
  exact ⟨rfl, rfl⟩
theorem within_no (n a b : Int) (w : World) (h : n < a ∨ b < n) :
    Calls Tryz.prog 120 #[.int .i64 n, .int .i64 a, .int .i64 b] w fun e w' => e = .returned (.bool false) ∧ w' = w := by
  by_cases h1 : a ≤ n
  · have h2 : ¬ n ≤ b := by omega
    clear h
    go_enter Tryz.func120, Tryz.ntmps120
    go_wp2
    go_ret
    exact ⟨rfl, rfl⟩
  · clear h
    go_enter Tryz.func120, Tryz.ntmps120
    go_wp2
    go_ret
    exact ⟨rfl, rfl⟩
theorem year_yes (n : Int) (w : World) (h1 : 1 ≤ n) (h2 : n ≤ 9999) :
    Calls Tryz.prog 131 #[.int .i64 n] w fun e w' => e = .returned (.bool true) ∧ w' = w := by
  go_enter Tryz.func131, Tryz.ntmps131
  go_wp2
  go_ret
  exact ⟨rfl, rfl⟩
theorem year_no (n : Int) (w : World) (h : n < 1 ∨ 9999 < n) :
    Calls Tryz.prog 131 #[.int .i64 n] w fun e w' => e = .returned (.bool false) ∧ w' = w := by
  go_enter Tryz.func131, Tryz.ntmps131
  go_wp2_with (go_at_call 120; refine (within_no _ _ _ _ h).mono ?_; rintro e w' ⟨rfl, rfl⟩)
  go_ret
  exact ⟨rfl, rfl⟩
theorem day_yes (n : Int) (w : World) (h1 : 1 ≤ n) (h2 : n ≤ 3652059) :
    Calls Tryz.prog 102 #[.int .i64 n] w fun e w' => e = .returned (.bool true) ∧ w' = w := by
  go_enter Tryz.func102, Tryz.ntmps102
  go_wp2
  go_ret
  exact ⟨rfl, rfl⟩
theorem day_no (n : Int) (w : World) (h : n < 1 ∨ 3652059 < n) :
    Calls Tryz.prog 102 #[.int .i64 n] w fun e w' => e = .returned (.bool false) ∧ w' = w := by
  go_enter Tryz.func102, Tryz.ntmps102
  go_wp2_with (go_at_call 120; refine (within_no _ _ _ _ h).mono ?_; rintro e w' ⟨rfl, rfl⟩)
  go_ret
  exact ⟨rfl, rfl⟩
theorem ahead_any (y : Int) (w : World) (h1 : 1 ≤ y) (h2 : y ≤ 20000) :
    Calls Tryz.prog 104 #[.int .i64 y] w fun e w' => e = .returned (.int .i64 (Cal.ahead y)) ∧ w' = w := by
  go_enter Tryz.func104, Tryz.ntmps104
  go_wp2
  go_ret
  exact ⟨rfl, rfl⟩
theorem yearOf_any (n : Int) (w : World) (h1 : 1 ≤ n) (h2 : n ≤ 3652059) :
    Calls Tryz.prog 103 #[.int .i64 n] w fun e w' => e = .returned (.int .i64 (Cal.yr n)) ∧ w' = w := by
  have g := Cal.guess_in n h1 h2
  unfold Cal.guess at g
  by_cases h : Cal.ahead (Cal.guess n + 1) < n
  · have e : Cal.yr n = Cal.guess n + 1 := by unfold Cal.yr; rw [if_pos h]
    rw [e]; clear e
    unfold Cal.guess at h
    go_enter Tryz.func103, Tryz.ntmps103
    go_wp2_with (go_at_call 104; refine (ahead_any _ _ (by omega) (by omega)).mono ?_; rintro e w' ⟨rfl, rfl⟩)
    go_ret
    exact ⟨rfl, rfl⟩
  · have e : Cal.yr n = Cal.guess n := by unfold Cal.yr; rw [if_neg h]
    rw [e]; clear e
    unfold Cal.guess at h
    go_enter Tryz.func103, Tryz.ntmps103
    go_wp2_with (go_at_call 104; refine (ahead_any _ _ (by omega) (by omega)).mono ?_; rintro e w' ⟨rfl, rfl⟩)
    go_ret
    exact ⟨rfl, rfl⟩
theorem tmod_zero (y k : Int) : (y.tmod k == 0) = decide (y % k = 0) := by
  rw [Bool.eq_iff_iff]; simp [← Int.dvd_iff_tmod_eq_zero, ← Int.dvd_iff_emod_eq_zero]
theorem tmod_not (y k : Int) : (y.tmod k != 0) = !decide (y % k = 0) := by
  rw [bne, tmod_zero]
theorem leap_any (y : Int) (w : World) :
    Calls Tryz.prog 121 #[.int .i64 y] w fun e w' => e = .returned (.bool (Cal.leap y)) ∧ w' = w := by
  have E : Cal.leap y = (((y.tmod 4 == 0) && (y.tmod 100 != 0)) || (y.tmod 400 == 0)) := by unfold Cal.leap; rw [tmod_zero, tmod_not, tmod_zero]
  rw [E]; clear E
  cases h4 : (y.tmod 4 == 0) <;> cases h100 : (y.tmod 100 != 0) <;> cases h400 : (y.tmod 400 == 0)
  all_goals
    go_enter Tryz.func121, Tryz.ntmps121
    go_wp2
    go_ret
    exact ⟨rfl, rfl⟩
/-- The table of the months' lengths lies in block 0. -/
def lens : List Int := [31, 28, 31, 30, 31, 30, 31, 31, 30, 31, 30, 31]
def Laid (w : World) : Prop := 0 < w.heap.size ∧ ∀ k : Nat, k < 12 → w.cell? ⟨0, k, none⟩ = some (.int .i64 (lens.getD k 0))
theorem lens_mlen (y m : Int) (h1 : 1 ≤ m) (h2 : m ≤ 12) : Cal.mlen y m = lens.getD (m.toNat - 1) 0 + if m = 2 then Cal.lp y else 0 := by
  have : m = 1 ∨ m = 2 ∨ m = 3 ∨ m = 4 ∨ m = 5 ∨ m = 6 ∨ m = 7 ∨ m = 8 ∨ m = 9 ∨ m = 10 ∨ m = 11 ∨ m = 12 := by omega
  rcases this with rfl | rfl | rfl | rfl | rfl | rfl | rfl | rfl | rfl | rfl | rfl | rfl <;> simp [Cal.mlen, lens]
theorem mlen_any (y m : Int) (w : World) (hw : Laid w) (h1 : 1 ≤ m) (h2 : m ≤ 12) :
    Calls Tryz.prog 105 #[.int .i64 y, .int .i64 m] w fun e w' => e = .returned (.int .i64 (Cal.mlen y m)) ∧ w' = w := by
  have hc := hw.2 (m.toNat - 1) (by omega)
  have he := lens_mlen y m h1 h2
  have hl := Cal.mlen_bd y m
  have hp := Cal.lp_cases y
  clear hw
  generalize lens.getD (m.toNat - 1) 0 = L at hc he
  by_cases hm : m = 2
  · subst hm
    have hc : w.cell? ⟨0, 1, none⟩ = some (.int .i64 L) := hc
    rw [if_pos rfl] at he
    rw [he]
    rcases hp with ⟨hp, hy⟩ | ⟨hp, hy⟩
    · rw [hp] at he ⊢
      have hL : 0 ≤ L ∧ L ≤ 31 := by omega
      clear he hl hp
      go_enter Tryz.func105, Tryz.ntmps105
      go_wp2_with (go_at_call 121; refine (leap_any _ _).mono ?_; rintro e w' ⟨rfl, rfl⟩)
      go_ret
      exact ⟨rfl, rfl⟩
    · rw [hp] at he ⊢
      clear he hl hp
      go_enter Tryz.func105, Tryz.ntmps105
      go_wp2_with (go_at_call 121; refine (leap_any _ _).mono ?_; rintro e w' ⟨rfl, rfl⟩)
      go_ret
      exact ⟨ret_int (by omega), rfl⟩
  · rw [if_neg hm] at he
    rw [he]
    clear he hl hp
    go_enter Tryz.func105, Tryz.ntmps105
    go_wp2
    go_ret
    exact ⟨ret_int (by omega), rfl⟩
end Go.Proofs.YtandlmnbnjkklaaGreatDoor
