/- The document's words on passes, further: one renewed. The program's small walks over spans: is a number near, is a span one, the look over a set, its size, one span joined. Plain mathematics: a span joined to a set, one behind the other; numbers sorted and each once. -/
import Derived.Test.YtandlmnbnjkklaaGreatDoorPzRefToPzCut
import Derived.Test.YtandlmnbnjkklaaGreatDoorOwnS
import Derived.Test.YtandlmnbnjkklaaGreatDoorIntsToSpnBy
import Derived.Lib.QuietBelow
import Derived.Lib.SlicesCompact
namespace Go.Proofs.YtandlmnbnjkklaaGreatDoor
open Go.RowKit Go.BigFrame

/-- a pass's box, a term's and an answer's, side by side -/
structure Thr (w W : World) (p : Pz.Pq) (a : Option Addr) (N c : Nat) (u t : Int) : Prop where
  b : Below w.heap.size w W
  h : Has6 W w.heap.size p a N c
  t0 : W.cell? ⟨w.heap.size + 1, 0, none⟩ = some (.int .i64 u)
  t1 : W.cell? ⟨w.heap.size + 1, 1, none⟩ = some (.int .i64 t)
  z : Z6 W (w.heap.size + 2)
theorem Thr.new (w : World) (p : Pz.Pq) (a : Option Addr) (N c : Nat) (u t : Int) : Thr w (((w.alloc (.cells #[.int .i64 p.id, .int .i64 p.born, .int .i64 p.a, .int .i64 p.b, .int .i64 p.ser, .slice a N c] 24)).alloc (.cells #[.int .i64 u, .int .i64 t] 26)).alloc (.cells #[.int .i64 0, .int .i64 0, .int .i64 0, .int .i64 0, .int .i64 0, .slice none 0 0] 24)) p a N c u t := by
  have hz := Z6.new ((w.alloc (.cells #[.int .i64 p.id, .int .i64 p.born, .int .i64 p.a, .int .i64 p.b, .int .i64 p.ser, .slice a N c] 24)).alloc (.cells #[.int .i64 u, .int .i64 t] 26)) 24
  rw [World.size_alloc, World.size_alloc] at hz
  have hs : w.heap.size + 1 = (w.alloc (.cells #[.int .i64 p.id, .int .i64 p.born, .int .i64 p.a, .int .i64 p.b, .int .i64 p.ser, .slice a N c] 24)).heap.size := by simp
  have h2 := has2_new (w.alloc (.cells #[.int .i64 p.id, .int .i64 p.born, .int .i64 p.a, .int .i64 p.b, .int .i64 p.ser, .slice a N c] 24)) u t 26
  rw [← hs] at h2
  obtain ⟨k, _⟩ := bcell (below_box ((w.alloc (.cells #[.int .i64 p.id, .int .i64 p.born, .int .i64 p.a, .int .i64 p.b, .int .i64 p.ser, .slice a N c] 24)).alloc (.cells #[.int .i64 u, .int .i64 t] 26)) (.cells #[.int .i64 0, .int .i64 0, .int .i64 0, .int .i64 0, .int .i64 0, .slice none 0 0] 24))
  have hl : w.heap.size + 1 < ((w.alloc (.cells #[.int .i64 p.id, .int .i64 p.born, .int .i64 p.a, .int .i64 p.b, .int .i64 p.ser, .slice a N c] 24)).alloc (.cells #[.int .i64 u, .int .i64 t] 26)).heap.size := by rw [World.size_alloc, World.size_alloc]; omega
  exact ⟨((below_box w _).alloc (by simp) _).alloc (by rw [World.size_alloc, World.size_alloc]; omega) _, (Has6.new w p a N c _).below ((below_box _ _).alloc (by simp) _), (k _ _ hl).trans h2.1, (k _ _ hl).trans h2.2, hz⟩
theorem Thr.below {w W W' : World} {p : Pz.Pq} {a : Option Addr} {N c : Nat} {u t : Int} (h : Thr w W p a N c u t) (hb : Below W.heap.size W W') : Thr w W' p a N c u t := by
  obtain ⟨k, _⟩ := bcell hb
  have hl : w.heap.size + 1 < W.heap.size := Nat.lt_trans (Nat.lt_succ_self _) h.z.lt
  exact ⟨below_on h.b (Nat.le_refl _) hb, h.h.below hb, (k _ _ hl).trans h.t0, (k _ _ hl).trans h.t1, h.z.below hb⟩
end Go.Proofs.YtandlmnbnjkklaaGreatDoor
namespace Go.Proofs.YtandlmnbnjkklaaGreatDoor
open Go.RowKit Go.BigFrame

theorem Row2.lies {w : World} {a : Option Addr} {l : List Spn.Sp} (hr : Row2 w a l) {k : Nat} (hlt : k < l.length) :
    ∃ b off x y, a = some ⟨b, off, none⟩ ∧ b < w.heap.size ∧ l[k]? = some (x, y) ∧ w.cell? ⟨b, off + k * 2, none⟩ = some (.int .i64 x) ∧ w.cell? ⟨b, off + k * 2 + 1, none⟩ = some (.int .i64 y) := by
  rcases hr with rfl | ⟨b, off, rfl, hb, hc⟩
  · simp at hlt
  obtain ⟨c1, c2⟩ := hc k hlt
  exact ⟨b, off, _, _, rfl, hb, by simp [List.getD, List.getElem?_eq_getElem hlt], c1, c2⟩
theorem isNumber_any (n : Int) (w : World) :
    Calls Tryz.prog 89 #[.int .i64 n] w fun e w' => e = .returned (.bool (!Spn.far n)) ∧ w' = w := by
  by_cases h1 : -1099511627776 ≤ n
  · by_cases h2 : n ≤ 1099511627776
    · have e : (!Spn.far n) = true := by simp [Spn.far]; omega
      rw [e]; clear e
      go_enter Tryz.func89, Tryz.ntmps89
      go_wp2
      go_ret
      exact ⟨rfl, rfl⟩
    · have e : (!Spn.far n) = false := by simp [Spn.far]; omega
      rw [e]; clear e
      go_enter Tryz.func89, Tryz.ntmps89
      go_wp2
      go_ret
      exact ⟨rfl, rfl⟩
  · have e : (!Spn.far n) = false := by simp [Spn.far]; omega
    rw [e]; clear e
    have h1' : decide (-1099511627776 ≤ n) = false := by simpa using h1
    go_enter Tryz.func89, Tryz.ntmps89
    go_wp2
    go_ret
    exact ⟨rfl, rfl⟩
theorem isSpan_any (x y : Int) (w : World) :
    Calls Tryz.prog 74 #[.agg #[.int .i64 x, .int .i64 y]] w fun e w' => e = .returned (.bool (!(Spn.far x || Spn.far y))) ∧ Below w.heap.size w w' := by
  have b0 : Below w.heap.size w (w.alloc (.cells #[.int .i64 x, .int .i64 y] 49)) := (Below.refl _ _).alloc (Nat.le_refl _) _
  cases hfx : Spn.far x with
  | true =>
    go_enter Tryz.func74, Tryz.ntmps74
    go_wp2_with (go_at_call 89; refine (isNumber_any _ _).mono ?_; rintro e w1 ⟨rfl, rfl⟩; rw [hfx])
    go_ret
    exact ⟨rfl, b0⟩
  | false =>
    cases hfy : Spn.far y with
    | true =>
      go_enter Tryz.func74, Tryz.ntmps74
      go_wp2_with (go_at_call 89; refine (isNumber_any _ _).mono ?_; rintro e w1 ⟨rfl, rfl⟩; first | rw [hfx] | rw [hfy])
      go_ret
      exact ⟨rfl, b0⟩
    | false =>
      go_enter Tryz.func74, Tryz.ntmps74
      go_wp2_with (go_at_call 89; refine (isNumber_any _ _).mono ?_; rintro e w1 ⟨rfl, rfl⟩; first | rw [hfx] | rw [hfy])
      go_ret
      exact ⟨rfl, b0⟩
set_option maxHeartbeats 2000000 in
theorem pCheck (l : List Spn.Sp) (a : Option Addr) (cap : Nat) (w : World) (hl : l.length ≤ maxLen) (hr : Row2 w a l) :
    Calls Tryz.prog 53 #[.slice a l.length cap] w fun e w' => e = .returned (.int .i64 (Spn.chk l)) ∧ Below w.heap.size w w' := by
  unfold maxLen at hl
  by_cases h64 : 64 < l.length
  · have e : Spn.chk l = 2 := by unfold Spn.chk; rw [if_pos h64]
    rw [e]; clear e
    have h64' : (64 : Int) < (l.length : Int) := by omega
    go_enter Tryz.func53, Tryz.ntmps53
    go_wp2
    go_ret
    exact ⟨rfl, Below.refl _ _⟩
  · have e : Spn.chk l = Spn.chkAt l 0 := by unfold Spn.chk; rw [if_neg h64]; rfl
    rw [e]; clear e
    have h64' : (l.length : Int) ≤ 64 := by omega
    go_enter Tryz.func53, Tryz.ntmps53
    go_wp2
    go_loopw [10] (fun i wr => ∃ k : Nat, k ≤ l.length ∧ i = .int .i64 k ∧ Spn.chkAt l 0 = Spn.chkAt l k ∧ Below w.heap.size w wr) (fun i _ => l.length - (intOf i).toNat)
    case atStart => exact ⟨0, Nat.zero_le _, rfl, rfl, Below.refl _ _⟩
    case round =>
      obtain ⟨k, hk, rfl, hm, hnx⟩ := hrel
      have HM : Hid (Spn.chkAt l 0 = Spn.chkAt l k) := hm
      clear hm
      by_cases hlt : k < l.length
      · have hlt' : (k : Int) < (l.length : Int) := by omega
        have hrr := hr.below hnx
        obtain ⟨b, off, x, y, rfl, hb, hx, c1, c2⟩ := hrr.lies hlt
        have HS : Hid (_) := Spn.chkAt_succ l k x y hx
        have HX : Hid (l[k]? = some (x, y)) := hx
        clear hx
        have nx1 : Below w.heap.size w (wr.alloc (.cells #[.int .i64 x, .int .i64 y] 49)) := hnx.alloc hnx.size _
        go_wp2_with fail
        refine (isSpan_any x y _).mono ?_
        rintro e w1 ⟨rfl, b1⟩
        have nx2 := below_on nx1 (Nat.le_refl _) b1
        have d1 : w1.cell? ⟨wr.heap.size, 0, none⟩ = some (.int .i64 x) := (b1.cell (p := ⟨wr.heap.size, 0, none⟩) (by simp)).trans (by simp)
        have d2 : w1.cell? ⟨wr.heap.size, 1, none⟩ = some (.int .i64 y) := (b1.cell (p := ⟨wr.heap.size, 1, none⟩) (by simp)).trans (by simp)
        cases hff : (Spn.far x || Spn.far y) with
        | true =>
          have HE : Hid (Spn.chkAt l 0 = 3) := by unfold Hid; rw [HM.out, HS.out, if_pos hff]
          clear b1 hff
          go_wp2
          go_ret
          exact ⟨ret_int HE.out.symm, nx2⟩
        | false =>
          have hffn : ¬ (Spn.far x || Spn.far y) = true := by rw [hff]; decide
          by_cases hyx : y ≤ x
          · have HE : Hid (Spn.chkAt l 0 = 1) := by unfold Hid; rw [HM.out, HS.out, if_neg hffn, if_pos hyx]
            clear b1 hff hffn
            go_wp2
            go_ret
            exact ⟨ret_int HE.out.symm, nx2⟩
          · have hyx' : decide (y ≤ x) = false := by simpa using hyx
            by_cases hk0 : k = 0
            · subst hk0
              have HE : Hid (Spn.chkAt l 0 = Spn.chkAt l 1) := by unfold Hid; rw [HS.out, if_neg hffn, if_neg hyx]; rfl
              clear b1 hff hffn
              go_wp2
              go_quiet (fail)
              go_wp2
              go_roundw
              case rel => exact ⟨1, by omega, by go_num, HE.out, below_drewN nx2 _⟩
              case measure => simp [intOf]; omega
            · have hk1 : (0 : Int) < (k : Int) := by omega
              obtain ⟨k', rfl⟩ : ∃ k', k = k' + 1 := ⟨k - 1, by omega⟩
              have hrr1 := hrr.below (Below.trans ((Below.refl _ wr).alloc (Nat.le_refl _) (.cells #[.int .i64 x, .int .i64 y] 49)) (b1.mono (by simp)))
              obtain ⟨b', off', p, q, e', hb', hp, p1, p2⟩ := hrr1.lies (k := k') (by omega)
              obtain ⟨rfl, rfl⟩ : b = b' ∧ off = off' := by simpa using e'
              clear e'
              have HE : Hid (Spn.chkAt l 0 = if x ≤ q then 4 else Spn.chkAt l (k' + 1 + 1)) := by
                have hq : (if k' + 1 = 0 then none else (l[k' + 1 - 1]?).map (·.2)) = some q := by rw [if_neg (by omega), Nat.add_sub_cancel, hp]; rfl
                unfold Hid; rw [HM.out, HS.out, if_neg hffn, if_neg hyx, hq]
                by_cases c : x ≤ q <;> simp [c]
              have hcast : ((k' : Int) + 1 - 1) = k' := by omega
              have hw1 : IntKind.i64.wrap ((k' : Int) + 1 - 1) = k' := by rw [IntKind.wrap_i64]; omega
              have hw2 : (0 : Int) ≤ (k' : Int) := by omega
              have hw3 : (k' : Int) < (l.length : Int) := by omega
              clear b1 hff hffn hp p1
              by_cases hxq : x ≤ q
              · have HE' : Hid (Spn.chkAt l 0 = 4) := by unfold Hid; rw [HE.out, if_pos hxq]
                go_wp2
                go_quiet (fail)
                go_wp2
                go_ret
                exact ⟨ret_int HE'.out.symm, below_drewN nx2 _⟩
              · have HE' : Hid (Spn.chkAt l 0 = Spn.chkAt l (k' + 1 + 1)) := by unfold Hid; rw [HE.out, if_neg hxq]
                have hxq' : decide (x ≤ q) = false := by simpa using hxq
                go_wp2
                go_quiet (fail)
                go_wp2
                go_roundw
                case rel => exact ⟨k' + 1 + 1, by omega, by go_num, HE'.out, below_drewN nx2 _⟩
                case measure => simp [intOf]; omega
      · have HE : Hid (Spn.chkAt l 0 = 0) := by unfold Hid; rw [HM.out, Spn.chkAt_end l k (by omega)]
        have hlt' : ¬ (k : Int) < (l.length : Int) := by omega
        go_wp2
        go_ret
        exact ⟨ret_int HE.out.symm, hnx⟩
end Go.Proofs.YtandlmnbnjkklaaGreatDoor
namespace Go.Proofs.YtandlmnbnjkklaaGreatDoor
namespace Spn
/-- a span joined to a set none of whose spans begins behind it -/
def join (out : List Sp) (s : Sp) : List Sp :=
  match out.getLast? with
  | none => [s]
  | some t => if s.1 ≤ t.2 then out.dropLast ++ [(t.1, max t.2 s.2)] else out ++ [s]
theorem join_nil (s : Sp) : join [] s = [s] := rfl
theorem join_in (l : List Sp) (t s : Sp) (h : s.1 ≤ t.2) : join (l ++ [t]) s = l ++ [(t.1, max t.2 s.2)] := by
  unfold join; rw [List.getLast?_append]; simp [h]
theorem join_out (l : List Sp) (t s : Sp) (h : ¬ s.1 ≤ t.2) : join (l ++ [t]) s = (l ++ [t]) ++ [s] := by
  unfold join; rw [List.getLast?_append]; simp [h]
theorem join_len (l : List Sp) (s : Sp) : (join l s).length ≤ l.length + 1 := by
  rcases List.eq_nil_or_concat l with rfl | ⟨l, t, rfl⟩
  · simp [join_nil]
  · rw [List.concat_eq_append]
    by_cases h : s.1 ≤ t.2
    · rw [join_in l t s h]; simp
    · rw [join_out l t s h]; simp
theorem join_push (out : List Sp) (x y : Int) (hxy : x < y) (h : ∀ s ∈ out, s.2 ≤ x) : join out (x, y) = push out x y := by
  rcases List.eq_nil_or_concat out with rfl | ⟨l, t, rfl⟩
  · rfl
  · rw [List.concat_eq_append] at h ⊢
    have ht := h t (by simp)
    by_cases c : t.2 = x
    · rw [join_in l t (x, y) (by show x ≤ t.2; omega), push_same l t x y c]
      have : max t.2 y = y := by omega
      rw [this]
    · rw [join_out l t (x, y) (by show ¬ x ≤ t.2; omega), push_other l t x y c]
theorem At.upto {es : List Int} {p : Int → Prop} {k : Nat} {out : List Sp} {x : Int} (h : At es p k out) (hx : es[k]? = some x) : ∀ s ∈ out, s.2 ≤ x := by
  rcases h with ⟨_, rfl⟩ | ⟨x', hx', hs⟩
  · intro s hs; cases hs
  · obtain rfl := Option.some.inj (hx.symm.trans hx')
    exact hs.upto
/-- what has been joined: right, of just those days, and beginning where one of them began -/
structure Joined (done out : List Sp) : Prop where
  canon : canon out
  mem : ∀ n, mem out n ↔ mem done n
  from_ : ∀ s ∈ out, ∃ t ∈ done, s.1 = t.1
theorem Joined.start : Joined [] [] := ⟨trivial, fun _ => Iff.rfl, fun s hs => by cases hs⟩
theorem Joined.step {done out : List Sp} {s : Sp} (h : Joined done out) (hs : s.1 < s.2) (hle : ∀ t ∈ done, t.1 ≤ s.1) : Joined (done ++ [s]) (join out s) := by
  rcases List.eq_nil_or_concat out with rfl | ⟨l, t, rfl⟩
  · refine ⟨⟨hs, trivial⟩, fun n => ?_, ?_⟩
    · rw [join_nil, mem_append, ← h.mem n]; simp [mem_nil]
    · intro u hu
      rw [join_nil] at hu
      rcases List.mem_singleton.1 hu with rfl
      exact ⟨u, by simp, rfl⟩
  · rw [List.concat_eq_append] at h ⊢
    have hc : Spn.canon (l ++ [(t.1, t.2)]) := h.canon
    rw [canon_snoc] at hc
    have ht : t.1 ≤ s.1 := by
      obtain ⟨u, hu, e⟩ := h.from_ t (by simp)
      have := hle u hu; omega
    have hm : ∀ n, (Spn.mem l n ∨ (t.1 ≤ n ∧ n < t.2)) ↔ Spn.mem done n := by
      intro n
      rw [← h.mem n, mem_append, mem_cons]
      simp [mem_nil]
    by_cases c : s.1 ≤ t.2
    · rw [join_in l t s c]
      refine ⟨?_, fun n => ?_, ?_⟩
      · rw [canon_snoc]
        exact ⟨hc.1, by have := hc.2.1; omega, hc.2.2⟩
      · rw [mem_append, mem_append, mem_cons, mem_cons, ← hm n]
        simp only [mem_nil, or_false]
        constructor
        · rintro (a | a)
          · exact .inl (.inl a)
          · by_cases d : n < t.2
            · exact .inl (.inr ⟨a.1, d⟩)
            · exact .inr ⟨by omega, by omega⟩
        · rintro ((a | a) | a)
          · exact .inl a
          · exact .inr ⟨a.1, by omega⟩
          · exact .inr ⟨by omega, by omega⟩
      · intro u hu
        rcases List.mem_append.1 hu with hu | hu
        · obtain ⟨v, hv, e⟩ := h.from_ u (by simp [hu])
          exact ⟨v, by simp [hv], e⟩
        · rcases List.mem_singleton.1 hu with rfl
          obtain ⟨v, hv, e⟩ := h.from_ t (by simp)
          exact ⟨v, by simp [hv], e⟩
    · rw [join_out l t s c]
      refine ⟨?_, fun n => ?_, ?_⟩
      · have : Spn.canon ((l ++ [t]) ++ [(s.1, s.2)]) := by
          rw [canon_snoc]
          refine ⟨h.canon, hs, ?_⟩
          intro u hu
          rcases List.mem_append.1 hu with hu | hu
          · have := hc.2.2 u hu; omega
          · rcases List.mem_singleton.1 hu with rfl; omega
        exact this
      · rw [mem_append, mem_append done, ← h.mem n]
      · intro u hu
        rcases List.mem_append.1 hu with hu | hu
        · obtain ⟨v, hv, e⟩ := h.from_ u hu
          exact ⟨v, by simp [hv], e⟩
        · rcases List.mem_singleton.1 hu with rfl
          exact ⟨u, by simp, rfl⟩
/-- the spans of which one can say something: those with a day -/
def full (l : List Sp) : List Sp := l.filter fun s => decide (s.1 < s.2)
theorem mem_full (l : List Sp) (n : Int) : mem (full l) n ↔ mem l n := by
  unfold mem full
  constructor
  · rintro ⟨s, hs, h⟩
    exact ⟨s, (List.mem_filter.1 hs).1, h⟩
  · rintro ⟨s, hs, h⟩
    exact ⟨s, List.mem_filter.2 ⟨hs, by simp; omega⟩, h⟩
theorem full_succ (l : List Sp) (k : Nat) (x y : Int) (h : l[k]? = some (x, y)) : full (l.take (k + 1)) = full (l.take k) ++ (if x < y then [(x, y)] else []) := by
  unfold full
  rw [take_succ_of l k x y h, List.filter_append]
  by_cases c : x < y <;> simp [c]
theorem full_len (l : List Sp) : (full l).length ≤ l.length := List.length_filter_le _ _
theorem mem_perm (a b : List Sp) (h : a.Perm b) (n : Int) : mem a n ↔ mem b n := by
  unfold mem
  constructor
  · rintro ⟨s, hs, q⟩; exact ⟨s, h.mem_iff.1 hs, q⟩
  · rintro ⟨s, hs, q⟩; exact ⟨s, h.mem_iff.2 hs, q⟩
/-- joined one by one in an order of beginnings, all that have a day: the set -/
theorem joined_set (l r out : List Sp) (hp : r.Perm (full l)) (hj : Joined r out) (h0 : chkOf l = 0) : out = setOf l := by
  have e : out = both 0 l [] := by
    refine both_unique 0 l [] out hj.canon fun n => ?_
    have e1 : opB 0 (memB l n) (memB [] n) = memB l n := by simp [opB, memB]
    rw [e1, Bool.eq_iff_iff, memB_iff, memB_iff, hj.mem n, mem_perm r (full l) hp n, mem_full]
  unfold setOf; rw [if_pos h0]; exact e
/-- two lists that rise and have the same numbers are one -/
theorem rising_unique : ∀ (a b : List Int), a.Pairwise (· < ·) → b.Pairwise (· < ·) → (∀ x, x ∈ a ↔ x ∈ b) → a = b
  | [], [], _, _, _ => rfl
  | [], y :: b, _, _, h => by have := (h y).2 List.mem_cons_self; cases this
  | x :: a, [], _, _, h => by have := (h x).1 List.mem_cons_self; cases this
  | x :: a, y :: b, ha, hb, h => by
    rw [List.pairwise_cons] at ha hb
    have e : x = y := by
      rcases List.mem_cons.1 ((h x).1 List.mem_cons_self) with c | c
      · exact c
      · rcases List.mem_cons.1 ((h y).2 List.mem_cons_self) with d | d
        · exact d.symm
        · have := hb.1 x c; have := ha.1 y d; omega
    subst e
    congr 1
    refine rising_unique a b ha.2 hb.2 fun z => ?_
    constructor
    · intro hz
      rcases List.mem_cons.1 ((h z).1 (List.mem_cons_of_mem _ hz)) with c | c
      · subst c; have := ha.1 z hz; omega
      · exact c
    · intro hz
      rcases List.mem_cons.1 ((h z).2 (List.mem_cons_of_mem _ hz)) with c | c
      · subst c; have := hb.1 z hz; omega
      · exact c
/-- numbers that don't fall, each once: they rise, and are the same ones -/
theorem compact_rises (zs : List Int) (hs : zs.Pairwise (· ≤ ·)) : (Lib.compact zs).Pairwise (· < ·) ∧ ∀ x, x ∈ Lib.compact zs ↔ x ∈ zs := by
  have key : ∀ m, m ≤ zs.length → (Lib.compactUpTo zs.toArray m).Pairwise (· < ·) ∧ (∀ x, x ∈ Lib.compactUpTo zs.toArray m ↔ x ∈ zs.take m) := by
    intro m
    induction m with
    | zero => intro _; exact ⟨by simp [Lib.compactUpTo], fun x => by simp [Lib.compactUpTo]⟩
    | succ m ih =>
      intro hm
      obtain ⟨h1, h2⟩ := ih (by omega)
      have hg : ∀ i (hi : i < zs.length), zs.toArray[i]! = zs[i] := fun i hi => by simp [hi]
      have ht : zs.take (m + 1) = zs.take m ++ [zs[m]] := by rw [List.take_add_one, List.getElem?_eq_getElem (by omega)]; rfl
      have hpre : ∀ x ∈ zs.take m, x ≤ zs[m] := by
        intro x hx
        obtain ⟨i, hi, rfl⟩ := List.getElem_of_mem hx
        have hi' : i < m := by simp at hi; omega
        rw [List.getElem_take]
        exact List.pairwise_iff_getElem.1 hs i m (by omega) (by omega) hi'
      rw [Lib.compactUpTo_succ, ht]
      by_cases hk : Lib.keeps zs.toArray m = true
      · rw [if_pos hk, hg m (by omega)]
        refine ⟨?_, fun x => by rw [List.mem_append, List.mem_append, h2 x]⟩
        rw [List.pairwise_append]
        refine ⟨h1, List.pairwise_singleton _ _, ?_⟩
        intro x hx y hy
        rcases List.mem_singleton.1 hy with rfl
        have hx' := (h2 x).1 hx
        unfold Lib.keeps at hk
        have hk' := of_decide_eq_true hk
        rcases hk' with rfl | hne
        · simp at hx'
        · obtain ⟨i, hi, rfl⟩ := List.getElem_of_mem hx'
          have hi' : i < m := by simp at hi; omega
          rw [List.getElem_take]
          rw [hg m (by omega), hg (m - 1) (by omega)] at hne
          have a1 : zs[i] ≤ zs[m - 1] := by
            rcases Nat.lt_or_ge i (m - 1) with c | c
            · exact List.pairwise_iff_getElem.1 hs i (m - 1) (by omega) (by omega) c
            · have : i = m - 1 := by omega
              subst this; exact Int.le_refl _
          have a2 : zs[m - 1] ≤ zs[m] := List.pairwise_iff_getElem.1 hs (m - 1) m (by omega) (by omega) (by omega)
          omega
      · rw [if_neg hk, List.append_nil]
        refine ⟨h1, fun x => ?_⟩
        rw [h2 x, List.mem_append]
        constructor
        · exact .inl
        · rintro (a | a)
          · exact a
          · rcases List.mem_singleton.1 a with rfl
            unfold Lib.keeps at hk
            have hk' : ¬ (m = 0 ∨ zs.toArray[m]! ≠ zs.toArray[m - 1]!) := fun h => hk (decide_eq_true h)
            have hm0 : m ≠ 0 := fun e => hk' (.inl e)
            have he : zs.toArray[m]! = zs.toArray[m - 1]! := Classical.byContradiction fun h => hk' (.inr h)
            rw [hg m (by omega), hg (m - 1) (by omega)] at he
            rw [he]
            exact List.mem_iff_getElem.2 ⟨m - 1, by simp; omega, by rw [List.getElem_take]⟩
  obtain ⟨h1, h2⟩ := key zs.length (Nat.le_refl _)
  exact ⟨h1, fun x => by rw [show Lib.compact zs = Lib.compactUpTo zs.toArray zs.length from rfl, h2 x, List.take_length]⟩
theorem sorted_rises (zs : List Int) : (zs.mergeSort fun x y => decide (x ≤ y)).Pairwise (· ≤ ·) := by
  have h := List.pairwise_mergeSort (le := fun (x y : Int) => decide (x ≤ y)) (fun a b c h1 h2 => by simp at *; omega) (fun a b => by simp; omega) zs
  exact h.imp fun h => by simpa using h
/-- sorted, each once -/
def once (zs : List Int) : List Int := Lib.compact (zs.mergeSort fun x y => decide (x ≤ y))
theorem once_all (zs : List Int) : (once zs).Pairwise (· < ·) ∧ ∀ x, x ∈ once zs ↔ x ∈ zs := by
  have h := compact_rises _ (sorted_rises zs)
  exact ⟨h.1, fun x => by unfold once; rw [h.2 x, List.mem_mergeSort]⟩
theorem once_unique (zs es : List Int) (h1 : es.Pairwise (· < ·)) (h2 : ∀ x, x ∈ es ↔ x ∈ zs) : once zs = es :=
  rising_unique _ _ (once_all zs).1 h1 fun x => by rw [(once_all zs).2 x, h2 x]
/-- both ends of each span, as they stand -/
def edges (l : List Sp) : List Int := l.flatMap fun s => [s.1, s.2]
theorem edges_append (a b : List Sp) : edges (a ++ b) = edges a ++ edges b := by unfold edges; rw [List.flatMap_append]
theorem edges_len (l : List Sp) : (edges l).length = 2 * l.length := by
  induction l with
  | nil => rfl
  | cons s l ih =>
    have : edges (s :: l) = [s.1, s.2] ++ edges l := rfl
    rw [this, List.length_append, ih]; simp; omega
theorem edges_mem (l : List Sp) (x : Int) : x ∈ edges l ↔ ∃ s ∈ l, x = s.1 ∨ x = s.2 := by
  unfold edges; simp [List.mem_flatMap]
theorem once_edges (l : List Sp) : once (edges l) = ends l := by
  obtain ⟨h1, h2, _⟩ := ends_all l
  exact once_unique _ _ h1 fun x => by rw [h2 x, edges_mem]
end Spn
end Go.Proofs.YtandlmnbnjkklaaGreatDoor
