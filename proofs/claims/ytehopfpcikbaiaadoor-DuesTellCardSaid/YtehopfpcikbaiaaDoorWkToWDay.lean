/- Plain mathematics of days of work: the holidays of a year. The walks of the reference's weeks: they come to the same plain mathematics; nothing old in memory turns. The walks of Easter: Sunday and Feast answer as the plain mathematics says, and the reference too. The program's day of a rule in a year. -/
import Derived.Test.YtehopfpcikbaiaaDoorWkA
import Derived.Test.YtehopfpcikbaiaaDoorShr3ToEas
import Derived.Test.YtehopfpcikbaiaaDoorRef
import Derived.Test.YtehopfpcikbaiaaDoorBegunToTWk
import Derived.Test.YtehopfpcikbaiaaDoorWCal
namespace Go.Proofs.YtehopfpcikbaiaaDoor
namespace Wk
/-- the day of a rule in a year, if there is one -/
def rday (R : Rst) (y : Int) (r : Rl) : Option Int :=
  if y < 1 then none
  else if r.1 = 1 then some (push R (Cal.num y r.2.1 r.2.2.1))
  else if r.1 = 2 then some (nth y r.2.1 r.2.2.1 r.2.2.2)
  else if 1583 ≤ y then some (Cal.easter y + r.2.2.1) else none
def days (R : Rst) (L : List Rl) (y : Int) : List Int := L.filterMap (rday R y)
/-- the holidays of a year: rising, each once -/
def hol (R : Rst) (L : List Rl) (y : Int) : List Int := Spn.once (days R L y)
theorem mem_hol (R : Rst) (L : List Rl) (y n : Int) : n ∈ hol R L y ↔ n ∈ days R L y := (Spn.once_all _).2 n
theorem days_succ (R : Rst) (L : List Rl) (y : Int) (k : Nat) (r : Rl) (h : L[k]? = some r) : days R (L.take (k + 1)) y = days R (L.take k) y ++ (match rday R y r with | none => [] | some n => [n]) := by
  unfold days
  rw [List.take_add_one, h, List.filterMap_append]
  congr 1
  show List.filterMap (rday R y) [r] = _
  cases hd : rday R y r <;> simp [hd]
theorem days_len (R : Rst) (L : List Rl) (y : Int) : (days R L y).length ≤ L.length := List.length_filterMap_le _ _
/-- is a day one of work? -/
def isW (R : Rst) (L : List Rl) (n : Int) : Bool := !(R.rest n || decide (n ∈ days R L (Cal.yr n)) || decide (n ∈ days R L (Cal.yr n - 1)))
end Wk
end Go.Proofs.YtehopfpcikbaiaaDoor
namespace Go.Proofs.YtehopfpcikbaiaaDoor
open Go.RowKit Go.BigFrame Go.Sort

theorem dow_any (n : Int) (w : World) (h1 : 1 ≤ n) (h2 : n ≤ 4000000) :
    Calls Tryd.prog 72 #[.int .i64 n] w fun e w' => e = .returned (.int .i64 (Cal.wday n)) ∧ w' = w := by
  go_enter Tryd.func72, Tryd.ntmps72
  go_wp2
  go_loop [0] (fun v => ∃ c : Int, 1 ≤ c ∧ c ≤ n ∧ (n - c) % 7 = 0 ∧ v = .int .i64 c) (fun v => (intOf v).toNat)
  case atStart => exact ⟨n, by omega, by omega, by omega, rfl⟩
  case round =>
    obtain ⟨c, hc1, hc2, hc3, rfl⟩ := hrel
    have HC : Hid ((n - c) % 7 = 0) := hc3
    clear hc3
    by_cases hlt : 700000 < c
    · go_wp2
      go_round
      case rel => exact ⟨c - 700000, by omega, by omega, by have := HC.out; omega, rfl⟩
      case measure => simp [intOf]; omega
    · by_cases h7 : c % 7 = 0
      · go_wp2
        go_ret
        exact ⟨ret_int (by have := HC.out; unfold Cal.wday; omega), rfl⟩
      · go_wp2
        go_ret
        exact ⟨ret_int (by have := HC.out; unfold Cal.wday; omega), rfl⟩
end Go.Proofs.YtehopfpcikbaiaaDoor
namespace Go.Proofs.YtehopfpcikbaiaaDoor
open Go.RowKit Go.BigFrame Go.Sort

set_option maxHeartbeats 1000000 in
theorem place_any (y : Int) (w : World) (h1 : 1583 ≤ y) (h2 : y ≤ 9999) :
    Calls Tryd.prog 97 #[.int .i64 y] w fun e w' => e = .returned (.int .i64 (Cal.place y)) ∧ w' = w := by
  obtain ⟨a, ha⟩ : ∃ a, y % 19 = a := ⟨_, rfl⟩
  obtain ⟨b, hb⟩ : ∃ b, y / 100 = b := ⟨_, rfl⟩
  obtain ⟨c, hc⟩ : ∃ c, y % 100 = c := ⟨_, rfl⟩
  obtain ⟨f, hf⟩ : ∃ f, (b + 8) / 25 = f := ⟨_, rfl⟩
  obtain ⟨g, hg⟩ : ∃ g, (b - f + 1) / 3 = g := ⟨_, rfl⟩
  obtain ⟨d, hd⟩ : ∃ d, b / 4 = d := ⟨_, rfl⟩
  obtain ⟨h, hh⟩ : ∃ h, (19 * a + b - d - g + 15) % 30 = h := ⟨_, rfl⟩
  obtain ⟨i, hi⟩ : ∃ i, c / 4 = i := ⟨_, rfl⟩
  obtain ⟨k, hk⟩ : ∃ k, c % 4 = k := ⟨_, rfl⟩
  obtain ⟨e, he⟩ : ∃ e, b % 4 = e := ⟨_, rfl⟩
  obtain ⟨l, hl⟩ : ∃ l, (32 + 2 * e + 2 * i - h - k) % 7 = l := ⟨_, rfl⟩
  obtain ⟨m, hm⟩ : ∃ m, (a + 11 * h + 22 * l) / 451 = m := ⟨_, rfl⟩
  have HP : Hid (h + l - 7 * m + 114 = Cal.place y) := by
    unfold Hid Cal.place Cal.el Cal.eh
    rw [ha, hb, hc, hf, hg, hd, hi, hk, he, hh, hl, hm]
  have ba : 0 ≤ a ∧ a ≤ 18 := by omega
  have bb : 15 ≤ b ∧ b ≤ 99 := by omega
  have bc : 0 ≤ c ∧ c ≤ 99 := by omega
  have bf : 0 ≤ f ∧ f ≤ 4 := by omega
  have bg : 0 ≤ g ∧ g ≤ 33 := by omega
  have bd : 0 ≤ d ∧ d ≤ 24 := by omega
  have bn : 0 ≤ 19 * a + b - d - g + 15 := by omega
  have bh : 0 ≤ h ∧ h ≤ 29 := by omega
  have bi : 0 ≤ i ∧ i ≤ 24 := by omega
  have bk : 0 ≤ k ∧ k ≤ 3 := by omega
  have be : 0 ≤ e ∧ e ≤ 3 := by omega
  have bq : 0 ≤ 32 + 2 * e + 2 * i - h - k := by omega
  have bl : 0 ≤ l ∧ l ≤ 6 := by omega
  have bm : 0 ≤ m ∧ m ≤ 1 := by omega
  go_enter Tryd.func97, Tryd.ntmps97
  go_wp2
  go_ret
  exact ⟨ret_int HP.out, rfl⟩
set_option maxHeartbeats 1000000 in
theorem sunday_err (y : Int) (w : World) (h : y < 1583 ∨ 9999 < y) :
    Calls Tryd.prog 85 #[.int .i64 y] w fun e w' => e = .returned (.tuple #[.int .i64 0, .int .i64 3]) ∧ w' = w := by
  by_cases h1 : y < 1583
  · clear h
    go_enter Tryd.func85, Tryd.ntmps85
    go_wp2
    go_ret2
    exact ⟨rfl, rfl⟩
  · have h2 : 9999 < y := by omega
    clear h
    go_enter Tryd.func85, Tryd.ntmps85
    go_wp2
    go_ret2
    exact ⟨rfl, rfl⟩
set_option maxHeartbeats 1000000 in
theorem sunday_ok (y : Int) (w : World) (hw : Laid w) (h1 : 1583 ≤ y) (h2 : y ≤ 9999) :
    Calls Tryd.prog 85 #[.int .i64 y] w fun e w' => e = .returned (.tuple #[.int .i64 (Cal.easter y), .int .i64 0]) ∧ Below w.heap.size w w' := by
  have g := (Cal.goodE_of y h1 h2).1
  have hp : 0 ≤ Cal.place y ∧ Cal.place y ≤ 1000 := by
    obtain ⟨_, _, a, b, _, _⟩ := g; omega
  go_enter Tryd.func85, Tryd.ntmps85
  go_wp2_with (first
    | (go_at_call 97; refine (place_any _ _ (by omega) (by omega)).mono ?_; rintro e w1 ⟨rfl, rfl⟩)
    | (go_at_call 21; refine (day_ok _ _ _ _ hw g).mono ?_; rintro e w1 ⟨rfl, b1⟩))
  go_ret2
  exact ⟨rfl, b1⟩
set_option maxHeartbeats 1000000 in
theorem feast_err (y off : Int) (w : World) (h : y < 1583 ∨ 9999 < y) :
    Calls Tryd.prog 81 #[.int .i64 y, .int .i64 off] w fun e w' => e = .returned (.tuple #[.int .i64 0, .int .i64 3]) ∧ Below w.heap.size w w' := by
  have HN : Hid (y < 1583 ∨ 9999 < y) := h
  clear h
  go_enter Tryd.func81, Tryd.ntmps81
  go_wp2_with (go_at_call 85; refine (sunday_err _ _ HN.out).mono ?_; rintro e w1 ⟨rfl, rfl⟩)
  go_ret2
  exact ⟨rfl, Below.refl _ _⟩
theorem easter_bd (y : Int) (h1 : 1583 ≤ y) (h2 : y ≤ 9999) : 1 ≤ Cal.easter y ∧ Cal.easter y ≤ 3652059 := Cal.num_in _ _ _ (Cal.goodE_of y h1 h2).1
set_option maxHeartbeats 1000000 in
theorem feast_ok (y off : Int) (w : World) (hw : Laid w) (h1 : 1583 ≤ y) (h2 : y ≤ 9999) (h3 : -100 ≤ off) (h4 : off ≤ 100) :
    Calls Tryd.prog 81 #[.int .i64 y, .int .i64 off] w fun e w' => e = .returned (.tuple #[.int .i64 (Cal.easter y + off), .int .i64 0]) ∧ Below w.heap.size w w' := by
  have eb := easter_bd y h1 h2
  go_enter Tryd.func81, Tryd.ntmps81
  go_wp2_with (go_at_call 85; refine (sunday_ok _ _ hw (by omega) (by omega)).mono ?_; rintro e w1 ⟨rfl, b1⟩)
  go_ret2
  exact ⟨rfl, b1⟩
set_option maxHeartbeats 1000000 in
theorem feast_off (y off : Int) (w : World) (hw : Laid w) (h1 : 1583 ≤ y) (h2 : y ≤ 9999) (h : off < -100 ∨ 100 < off) :
    Calls Tryd.prog 81 #[.int .i64 y, .int .i64 off] w fun e w' => e = .returned (.tuple #[.int .i64 0, .int .i64 3]) ∧ Below w.heap.size w w' := by
  by_cases h3 : off < -100
  · clear h
    go_enter Tryd.func81, Tryd.ntmps81
    go_wp2_with (go_at_call 85; refine (sunday_ok _ _ hw (by omega) (by omega)).mono ?_; rintro e w1 ⟨rfl, b1⟩)
    go_ret2
    exact ⟨rfl, b1⟩
  · have h4 : 100 < off := by omega
    clear h
    go_enter Tryd.func81, Tryd.ntmps81
    go_wp2_with (go_at_call 85; refine (sunday_ok _ _ hw (by omega) (by omega)).mono ?_; rintro e w1 ⟨rfl, b1⟩)
    go_ret2
    exact ⟨rfl, b1⟩
end Go.Proofs.YtehopfpcikbaiaaDoor
namespace Go.Proofs.YtehopfpcikbaiaaDoor
open Go.RowKit

theorem boxCells (w : World) (vs : Array Value) (t : TypeId) (j : Nat) (v : Value) (h : vs[j]? = some v) : (w.alloc (.cells vs t)).cell? ⟨w.heap.size, j, none⟩ = some v := by
  have hb : (w.alloc (.cells vs t)).heap[w.heap.size]? = some (.cells vs t) := heap_alloc_new w _
  simp only [World.cell?, hb]
  simp only [Option.isSome_none, Bool.false_eq_true, if_false]
  exact h
theorem almCell (R : Wk.Rst) (s m : Value) (t : TypeId) (w : World) (k : Nat) (hk : k < 7) :
    (w.alloc (.cells #[.bool R.b0, .bool R.b1, .bool R.b2, .bool R.b3, .bool R.b4, .bool R.b5, .bool R.b6, s, m] t)).cell? ⟨w.heap.size, k, none⟩ = some (.bool (R.at k)) := by
  match k, hk with
  | 0, _ => simp [Wk.Rst.at]
  | 1, _ => simp [Wk.Rst.at]
  | 2, _ => simp [Wk.Rst.at]
  | 3, _ => simp [Wk.Rst.at]
  | 4, _ => simp [Wk.Rst.at]
  | 5, _ => simp [Wk.Rst.at]
  | 6, _ => simp [Wk.Rst.at]
set_option maxRecDepth 100000 in
set_option maxHeartbeats 1000000 in
theorem wRest (R : Wk.Rst) (a : Option Addr) (len cap bm : Nat) (n : Int) (w : World) (h1 : 1 ≤ n) (h2 : n ≤ 4000000) :
    Calls Tryd.prog 42 #[almV R a len cap bm, .int .i64 n] w fun e w' => e = .returned (.bool (R.rest n)) ∧ Below w.heap.size w w' := by
  obtain ⟨k, hk⟩ : ∃ k : Nat, (n - 1) % 7 = (k : Int) := ⟨((n - 1) % 7).toNat, by omega⟩
  have hk7 : k < 7 := by omega
  have e0 : R.rest n = R.at k := by unfold Wk.Rst.rest; rw [hk]
  rw [e0]
  have c := almCell R (.slice a len cap) (.map (some bm)) 65 w k hk7
  have bA := below_box w (.cells #[.bool R.b0, .bool R.b1, .bool R.b2, .bool R.b3, .bool R.b4, .bool R.b5, .bool R.b6, .slice a len cap, .map (some bm)] 65)
  have hk0 : (0 : Int) ≤ (k : Int) := by omega
  have hk7' : (k : Int) < 7 := by omega
  clear e0
  generalize R.at k = r at c ⊢
  go_enter Tryd.func42, Tryd.ntmps42
  go_wp2
  go_ret
  exact ⟨rfl, bA⟩
set_option maxRecDepth 100000 in
set_option maxHeartbeats 2000000 in
theorem wFixed_err (R : Wk.Rst) (a : Option Addr) (len cap bm : Nat) (k m d wd y : Int) (w : World) (hw : Laid w) (hv : ¬ Cal.vld y m d) :
    Calls Tryd.prog 79 #[almV R a len cap bm, .agg #[.int .i64 k, .int .i64 m, .int .i64 d, .int .i64 wd], .int .i64 y] w fun e w' => e = .returned (.tuple #[.int .i64 0, .int .i64 3]) ∧ Below w.heap.size w w' := by
  have b1 := below_box w (.cells #[.bool R.b0, .bool R.b1, .bool R.b2, .bool R.b3, .bool R.b4, .bool R.b5, .bool R.b6, .slice a len cap, .map (some bm)] 65)
  have b2 := b1.alloc (by simp) (.cells #[.int .i64 k, .int .i64 m, .int .i64 d, .int .i64 wd] 74)
  have hw2 := hw.below b2
  go_enter Tryd.func79, Tryd.ntmps79
  go_wp2_with fail
  refine (day_err y m d _ hw2 hv).mono ?_
  rintro e w1 ⟨rfl, b3⟩
  have B := below_next b2 (Nat.le_refl _) b3
  clear b3
  go_wp2
  go_ret2
  exact ⟨rfl, B⟩
set_option maxRecDepth 100000 in
set_option maxHeartbeats 4000000 in
theorem wFixed_ok (R : Wk.Rst) (a : Option Addr) (len cap bm : Nat) (k m d wd y : Int) (w : World) (hw : Laid w) (hv : Cal.vld y m d) (hR : R.all = false) :
    Calls Tryd.prog 79 #[almV R a len cap bm, .agg #[.int .i64 k, .int .i64 m, .int .i64 d, .int .i64 wd], .int .i64 y] w fun e w' => e = .returned (.tuple #[.int .i64 (Wk.push R (Cal.num y m d)), .int .i64 0]) ∧ Below w.heap.size w w' := by
  have b1 := below_box w (.cells #[.bool R.b0, .bool R.b1, .bool R.b2, .bool R.b3, .bool R.b4, .bool R.b5, .bool R.b6, .slice a len cap, .map (some bm)] 65)
  have b2 := b1.alloc (by simp) (.cells #[.int .i64 k, .int .i64 m, .int .i64 d, .int .i64 wd] 74)
  have hw2 := hw.below b2
  have hn := Cal.num_in y m d hv
  have hp := Wk.push_spec R hR (Cal.num y m d)
  have HU : Hid (∀ x, Cal.num y m d ≤ x → R.rest x = false → (∀ z, Cal.num y m d ≤ z → z < x → R.rest z = true) → x = Wk.push R (Cal.num y m d)) := fun x h1 h2 h3 => Wk.push_unique R hR _ x h1 h2 h3
  have HP : Hid (∀ z, Cal.num y m d ≤ z → z < Wk.push R (Cal.num y m d) → R.rest z = true) := hp.2.2.2
  have hp1 := hp.1
  have hp2 := hp.2.1
  have HL : Hid (R.rest (Wk.push R (Cal.num y m d)) = false) := hp.2.2.1
  clear hp
  have hd := day_ok y m d _ hw2 hv
  generalize Wk.push R (Cal.num y m d) = X at *
  generalize Cal.num y m d = N at *
  go_enter Tryd.func79, Tryd.ntmps79
  go_wp2_with fail
  refine hd.mono ?_
  rintro e w1 ⟨rfl, b3⟩
  have B := below_next b2 (Nat.le_refl _) b3
  have hs : w.heap.size < w1.heap.size := by have := b3.size; simp at this; omega
  have cells : ∀ j v, (#[.bool R.b0, .bool R.b1, .bool R.b2, .bool R.b3, .bool R.b4, .bool R.b5, .bool R.b6, .slice a len cap, .map (some bm)] : Array Value)[j]? = some v → w1.cell? ⟨w.heap.size, j, none⟩ = some v := by
    intro j v hj
    refine (b3.cell (p := ⟨w.heap.size, j, none⟩) (by simp; omega)).trans ?_
    refine Lib.cell?_alloc_some _ ?_
    exact boxCells w _ _ j v hj
  clear b1 b2 b3 hw2 hv hd
  go_wp2
  go_loopw [8] (fun i wr => ∃ n : Int, N ≤ n ∧ n ≤ X ∧ i = .int .i64 n ∧ (∀ j v, (#[.bool R.b0, .bool R.b1, .bool R.b2, .bool R.b3, .bool R.b4, .bool R.b5, .bool R.b6, .slice a len cap, .map (some bm)] : Array Value)[j]? = some v → wr.cell? ⟨w.heap.size, j, none⟩ = some v) ∧ w.heap.size < wr.heap.size ∧ Below w.heap.size w wr) (fun i _ => (X - intOf i).toNat)
  case atStart => exact ⟨N, by omega, by omega, rfl, cells, hs, B⟩
  case round =>
    clear cells
    obtain ⟨n, h1, h2, rfl, cells, hsr, hnx⟩ := hrel
    have g0 := cells 0 _ rfl
    have g1 := cells 1 _ rfl
    have g2 := cells 2 _ rfl
    have g3 := cells 3 _ rfl
    have g4 := cells 4 _ rfl
    have g5 := cells 5 _ rfl
    have g6 := cells 6 _ rfl
    have g7 := cells 7 _ rfl
    have g8 := cells 8 _ rfl
    have HC : Hid (_) := cells
    clear cells
    go_wp2_with fail
    refine (wRest R a len cap bm n wr (by omega) (by omega)).mono ?_
    rintro e w2 ⟨rfl, b2⟩
    have nx2 := below_next hnx (Nat.le_refl _) b2
    have hs2 : w.heap.size < w2.heap.size := Nat.lt_of_lt_of_le hsr b2.size
    have HC2 : Hid (∀ j v, (#[.bool R.b0, .bool R.b1, .bool R.b2, .bool R.b3, .bool R.b4, .bool R.b5, .bool R.b6, .slice a len cap, .map (some bm)] : Array Value)[j]? = some v → w2.cell? ⟨w.heap.size, j, none⟩ = some v) := fun j v hj => (b2.cell (p := ⟨w.heap.size, j, none⟩) hsr).trans (HC.out j v hj)
    clear g0 g1 g2 g3 g4 g5 g6 g7 g8 b2
    by_cases hx : n = X
    · rw [hx, HL.out]
      go_wp2
      go_ret2
      exact ⟨rfl, nx2⟩
    · rw [HP.out n h1 (by omega)]
      go_wp2
      go_roundw
      case rel => exact ⟨n + 1, by omega, by omega, by go_num, HC2.out, hs2, nx2⟩
      case measure => simp [intOf]; omega
end Go.Proofs.YtehopfpcikbaiaaDoor
