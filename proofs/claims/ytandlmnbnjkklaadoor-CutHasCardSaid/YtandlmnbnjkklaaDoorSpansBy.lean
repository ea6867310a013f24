/- The walk of the reference's sweep over the ends of two lists of spans. -/
import Derived.Test.YtandlmnbnjkklaaDoorOwnS
import Derived.Test.YtandlmnbnjkklaaDoorEndsToSpnEnds
import Derived.Lib.QuietBelow
namespace Go.Proofs.YtandlmnbnjkklaaDoor
open Go.RowKit Go.BigFrame

namespace Spn
def opB (op : Int) (x y : Bool) : Bool := (decide (op = 0) && (x || y)) || (decide (op = 1) && (x && y)) || (decide (op = 2) && (x && !y))
theorem opB_ff (op : Int) : opB op false false = false := by simp [opB]
/-- the sweep so far: up to the k-th end -/
def At (es : List Int) (p : Int → Prop) (k : Nat) (out : List Sp) : Prop := (es = [] ∧ out = []) ∨ ∃ x, es[k]? = some x ∧ Swept p x out
theorem At.start (a b : List Sp) (op : Int) : At (ends (a ++ b)) (fun n => opB op (memB a n) (memB b n) = true) 0 [] := by
  obtain ⟨h1, h2, h3⟩ := ends_all (a ++ b)
  cases he : ends (a ++ b) with
  | nil => exact .inl ⟨rfl, rfl⟩
  | cons x es =>
    refine .inr ⟨x, rfl, trivial, (fun s hs => by cases hs), fun n => ?_⟩
    constructor
    · intro h; exact absurd h (mem_nil n)
    · rintro ⟨hp, hn⟩
      exfalso
      have hm : mem (a ++ b) n := by
        rw [mem_append]
        cases ha : memB a n with
        | true => exact .inl ((memB_iff a n).1 ha)
        | false =>
          cases hb : memB b n with
          | true => exact .inr ((memB_iff b n).1 hb)
          | false => rw [ha, hb, opB_ff] at hp; cases hp
      obtain ⟨s, hs, s1, s2⟩ := hm
      have hx : s.1 ∈ ends (a ++ b) := (h2 s.1).2 ⟨s, hs, .inl rfl⟩
      rw [he] at hx h1
      rw [List.pairwise_cons] at h1
      rcases List.mem_cons.1 hx with e | e
      · omega
      · have := h1.1 _ e; omega
theorem still_both (a b : List Sp) (k : Nat) (x y : Int) (hx : (ends (a ++ b))[k]? = some x) (hy : (ends (a ++ b))[k + 1]? = some y) :
    x < y ∧ ∀ n, x ≤ n → n < y → memB a n = memB a x ∧ memB b n = memB b x := by
  obtain ⟨h1, h2, h3⟩ := ends_all (a ++ b)
  obtain ⟨lt, nb⟩ := none_between _ h1 k x y hx hy
  refine ⟨lt, fun n n1 n2 => ⟨?_, ?_⟩⟩
  · refine memB_still a x n n1 fun s hs => ?_
    have e1 := nb s.1 ((h2 s.1).2 ⟨s, List.mem_append_left _ hs, .inl rfl⟩)
    have e2 := nb s.2 ((h2 s.2).2 ⟨s, List.mem_append_left _ hs, .inr rfl⟩)
    omega
  · refine memB_still b x n n1 fun s hs => ?_
    have e1 := nb s.1 ((h2 s.1).2 ⟨s, List.mem_append_right _ hs, .inl rfl⟩)
    have e2 := nb s.2 ((h2 s.2).2 ⟨s, List.mem_append_right _ hs, .inr rfl⟩)
    omega
theorem At.skip {a b : List Sp} {op : Int} {k : Nat} {x y : Int} {out : List Sp} (h : At (ends (a ++ b)) (fun n => opB op (memB a n) (memB b n) = true) k out)
    (hx : (ends (a ++ b))[k]? = some x) (hy : (ends (a ++ b))[k + 1]? = some y) (hp : opB op (memB a x) (memB b x) = false) : At (ends (a ++ b)) (fun n => opB op (memB a n) (memB b n) = true) (k + 1) out := by
  obtain ⟨lt, st⟩ := still_both a b k x y hx hy
  rcases h with ⟨e, _⟩ | ⟨x', hx', hs⟩
  · rw [e] at hx; cases hx
  · obtain rfl := Option.some.inj (hx.symm.trans hx')
    exact .inr ⟨y, hy, hs.skip (by omega) fun n n1 n2 => by rw [(st n n1 n2).1, (st n n1 n2).2, hp]; decide⟩
theorem At.push {a b : List Sp} {op : Int} {k : Nat} {x y : Int} {out : List Sp} (h : At (ends (a ++ b)) (fun n => opB op (memB a n) (memB b n) = true) k out)
    (hx : (ends (a ++ b))[k]? = some x) (hy : (ends (a ++ b))[k + 1]? = some y) (hp : opB op (memB a x) (memB b x) = true) : At (ends (a ++ b)) (fun n => opB op (memB a n) (memB b n) = true) (k + 1) (push out x y) := by
  obtain ⟨lt, st⟩ := still_both a b k x y hx hy
  rcases h with ⟨e, _⟩ | ⟨x', hx', hs⟩
  · rw [e] at hx; cases hx
  · obtain rfl := Option.some.inj (hx.symm.trans hx')
    exact .inr ⟨y, hy, hs.push lt fun n n1 n2 => by show opB op (memB a n) (memB b n) = true; rw [(st n n1 n2).1, (st n n1 n2).2, hp]⟩
theorem At.done {a b : List Sp} {op : Int} {k : Nat} {out : List Sp} (h : At (ends (a ++ b)) (fun n => opB op (memB a n) (memB b n) = true) k out) (hk : (ends (a ++ b)).length ≤ k + 1) :
    canon out ∧ ∀ n, memB out n = opB op (memB a n) (memB b n) := by
  obtain ⟨h1, h2, h3⟩ := ends_all (a ++ b)
  have hin : ∀ n, opB op (memB a n) (memB b n) = true → mem (a ++ b) n := by
    intro n hp
    rw [mem_append]
    cases ha : memB a n with
    | true => exact .inl ((memB_iff a n).1 ha)
    | false =>
      cases hb : memB b n with
      | true => exact .inr ((memB_iff b n).1 hb)
      | false => rw [ha, hb, opB_ff] at hp; cases hp
  rcases h with ⟨e, rfl⟩ | ⟨x, hx, hs⟩
  · refine ⟨trivial, fun n => ?_⟩
    cases hp : opB op (memB a n) (memB b n) with
    | false => rfl
    | true =>
      obtain ⟨s, hs, _⟩ := hin n hp
      have := (h2 s.1).2 ⟨s, hs, .inl rfl⟩
      rw [e] at this; cases this
  · refine ⟨hs.canon, fun n => ?_⟩
    rw [Bool.eq_iff_iff, memB_iff, hs.mem n]
    constructor
    · exact fun h => h.1
    · intro hp
      refine ⟨hp, ?_⟩
      obtain ⟨s, hs', s1, s2⟩ := hin n hp
      have hm := (h2 s.2).2 ⟨s, hs', .inr rfl⟩
      obtain ⟨i, hi, he⟩ := List.getElem_of_mem hm
      have hkl : k < (ends (a ++ b)).length := by
        rcases Nat.lt_or_ge k (ends (a ++ b)).length with c | c
        · exact c
        · rw [List.getElem?_eq_none c] at hx; cases hx
      rw [List.getElem?_eq_getElem hkl] at hx
      have ex := Option.some.inj hx
      rcases Nat.lt_or_ge i k with c | c
      · have := List.pairwise_iff_getElem.1 h1 i k hi hkl c
        rw [he, ex] at this; omega
      · have : i = k := by omega
        subst this
        rw [he] at ex; omega
theorem push_nil (x y : Int) : push [] x y = [(x, y)] := rfl
theorem push_same (l : List Sp) (s : Sp) (x y : Int) (h : s.2 = x) : push (l ++ [s]) x y = l ++ [(s.1, y)] := by
  unfold push; rw [List.getLast?_append]; simp [h]
theorem push_other (l : List Sp) (s : Sp) (x y : Int) (h : ¬ s.2 = x) : push (l ++ [s]) x y = (l ++ [s]) ++ [(x, y)] := by
  unfold push; rw [List.getLast?_append]; simp [h]
theorem push_len (l : List Sp) (x y : Int) : (push l x y).length ≤ l.length + 1 := by
  rcases List.eq_nil_or_concat l with rfl | ⟨l, s, rfl⟩
  · simp [push_nil]
  · rw [List.concat_eq_append]
    by_cases h : s.2 = x
    · rw [push_same l s x y h]; simp
    · rw [push_other l s x y h]; simp
end Spn
set_option maxRecDepth 100000 in
set_option maxHeartbeats 8000000 in
theorem spansBy_any (la lb : List Spn.Sp) (a b : Option Addr) (ca cb : Nat) (op : Int) (w : World) (ha : la.length ≤ 64) (hb : lb.length ≤ 64) (hna : a = none → ca = 0 ∧ la = []) (hnb : b = none → cb = 0 ∧ lb = [])
    (hop : op = 0 ∨ op = 1 ∨ op = 2) (ra : Row2 w a la) (rb : Row2 w b lb) :
    Calls Tryd.prog 56 #[.slice a la.length ca, .slice b lb.length cb, .int .i64 op] w fun e w' => ∃ v r, e = .returned v ∧ Spn.canon r ∧ (∀ n, Spn.memB r n = Spn.opB op (Spn.memB la n) (Spn.memB lb n)) ∧ r.length ≤ 256 ∧ OwnS w' w.heap.size v r ∧ Below w.heap.size w w' := by
  obtain ⟨i0, hi, hz0, hz1, hz2⟩ := info_parts infoSpan
  have o0 : OwnS (w.alloc (.cells #[] 47)) w.heap.size (.slice (some ⟨w.heap.size, 0, none⟩) 0 0) [] := World.ownsRow_made w #[] 0 (Nat.le_refl _) (by unfold maxLen; omega) rfl
  have B0 : Below w.heap.size w (w.alloc (.cells #[] 47)) := (Below.refl _ _).alloc (Nat.le_refl _) _
  have ra0 := ra.below B0
  have s0 : w.heap.size ≤ (w.alloc (.cells #[] 47)).heap.size := B0.size
  have tok1 : True := trivial
  have hlen : ∀ k, (Spn.ends (([] ++ la ++ lb).take k)).length ≤ 10000 := fun k => by
    have := (Spn.ends_all (([] ++ la ++ lb).take k)).2.2
    have h2 : (([] ++ la ++ lb).take k).length ≤ 128 := Nat.le_trans (List.length_take_le' _ _) (by simp; omega)
    omega
  have hlen2 : ∀ k x, (Spn.ins (Spn.ends (([] ++ la ++ lb).take k)) x).length ≤ 30000 := fun k x => by
    have := Spn.ins_ends_len (([] ++ la ++ lb).take k) x
    have h2 : (([] ++ la ++ lb).take k).length ≤ 128 := Nat.le_trans (List.length_take_le' _ _) (by simp; omega)
    omega
  go_enter Tryd.func56, Tryd.ntmps56
  go_wp2_with (first
    | (at_builtin; have _t := tok1; refine wpList_append_all _ rfl (.tmp 14) (.tmp 15) 22 rfl w.heap.size 47 i0 _ 2 16 Tryd.underlying22 hi hz0 hz1 hz2 rfl (by decide) _ _ _ rfl o0 a la.length ca (flat la) rfl (fun e => ⟨by rw [(hna e).2]; rfl, (hna e).1⟩) (flat_len la) ra0.news (flat_one la) (by unfold maxLen; simp; omega) (by simp; omega) s0 ?_; intro v1 w1 own1 grow1; have R1 := OwnS.join (ys := la) s0 o0 B0 own1 grow1; clear tok1 own1 grow1; have rb1 := rb.below R1.2)
    | (at_builtin; have _t := rb1; refine wpList_append_all _ rfl (.tmp 16) (.tmp 17) 22 rfl w.heap.size 47 i0 _ 2 16 Tryd.underlying22 hi hz0 hz1 hz2 rfl (by decide) _ _ _ rfl R1.1 b lb.length cb (flat lb) rfl (fun e => ⟨by rw [(hnb e).2]; rfl, (hnb e).1⟩) (flat_len lb) rb1.news (flat_one lb) (by unfold maxLen; simp; omega) (by simp; omega) R1.2.size ?_; intro v2 w2 own2 grow2; have R2 := OwnS.join (ys := lb) R1.2.size R1.1 R1.2 own2 grow2; clear own2 grow2 rb1))
  obtain ⟨a2, c2, hv2, _, row2⟩ := R2.1.row
  subst hv2
  refine (endsOf_any ([] ++ la ++ lb) a2 c2 w2 (by simp; omega) hlen hlen2 row2).mono ?_
  rintro e w3 ⟨v3, rfl, own3, b3⟩
  generalize ([] ++ la ++ lb).length = L18
  clear hlen hlen2 row2
  have hea := Spn.ends_all ([] ++ la ++ lb)
  obtain ⟨ae, ce, hv3, rowE⟩ := own3.row
  subst hv3
  have B3 := below_on R2.2 (Nat.le_refl _) b3
  have ra3 := ra.below B3
  have rb3 := rb.below B3
  clear R1 R2 own3 b3 o0 B0 ra0 s0 ra rb hna hnb hi hz0 hz1 hz2 i0
  obtain ⟨i0, hi, hz0, hz1, hz2⟩ := info_parts infoSpan
  have HI : Hid (Tryd.prog.info? 47 = some i0 ∧ i0.zero = some (.agg #[.int .i64 0, .int .i64 0]) ∧ i0.size = 2 ∧ i0.bytes = 16) := ⟨hi, hz0, hz1, hz2⟩
  clear hi hz0 hz1 hz2
  have hel : (Spn.ends ([] ++ la ++ lb)).length ≤ 256 := by have := hea.2.2; simp at this ⊢; omega
  clear hea
  simp only [List.nil_append] at hel rowE
  simp only [List.nil_append]
  have hst := Spn.At.start la lb op
  have hsk := fun k x y out => @Spn.At.skip la lb op k x y out
  have hpu := fun k x y out => @Spn.At.push la lb op k x y out
  have hdo := fun k out => @Spn.At.done la lb op k out
  generalize Spn.ends (la ++ lb) = es at hel rowE hst hsk hpu hdo ⊢
  have HA : Hid (_) := And.intro hst (And.intro hsk (And.intro hpu hdo))
  clear hst hsk hpu hdo
  go_wp2
  go_loopw [8, 9] (fun v i wr => ∃ (k : Nat) (out : List Spn.Sp), k ≤ es.length ∧ i = .int .i64 k ∧ out.length ≤ k ∧ OwnS wr w3.heap.size v out ∧ Spn.At es (fun n => Spn.opB op (Spn.memB la n) (Spn.memB lb n) = true) k out ∧ Below w3.heap.size w3 wr) (fun _ i _ => es.length - (intOf i).toNat)
  case atStart => exact ⟨0, [], Nat.zero_le _, rfl, Nat.le_refl _, OwnS.nil _ _, HA.out.1, Below.refl _ _⟩
  case round =>
    obtain ⟨k, out, hk, rfl, hol, hown, hat, hnx⟩ := hrel
    have HT : Hid (_) := hat
    clear hat
    by_cases hlt : k + 1 < es.length
    · have hlt1 : (k : Int) + 1 < (es.length : Int) := by omega
      have hlt2 : (k : Int) < (es.length : Int) := by omega
      have hlt3 : (0 : Int) ≤ (k : Int) + 1 := by omega
      have hlt4 : (0 : Int) ≤ (k : Int) := by omega
      have HWR : Hid (IntKind.i64.wrap ((k : Int) + 1) = (k : Int) + 1 ∧ ((k : Int) + 1).toNat = k + 1) := ⟨by rw [IntKind.wrap_i64]; omega, by omega⟩
      obtain ⟨be, oe, x, rfl, hbe, hx, cx⟩ := rowE.at (k := k) (by omega)
      obtain ⟨be', oe', y, e', _, hy, cy⟩ := rowE.at (k := k + 1) hlt
      obtain ⟨rfl, rfl⟩ : be = be' ∧ oe = oe' := by simpa using e'
      clear e'
      have HXY : Hid (es[k]? = some x ∧ es[k + 1]? = some y) := ⟨hx, hy⟩
      clear hx hy
      have dx : wr.cell? ⟨be, oe + k, none⟩ = some (.int .i64 x) := (hnx.cell (p := ⟨be, oe + k, none⟩) hbe).trans cx
      have dy : wr.cell? ⟨be, oe + (k + 1), none⟩ = some (.int .i64 y) := (hnx.cell (p := ⟨be, oe + (k + 1), none⟩) hbe).trans cy
      have rar := ra3.below hnx
      have rbr := rb3.below hnx
      clear cx cy
      cases hp : Spn.opB op (Spn.memB la x) (Spn.memB lb x) with
      | false =>
        have HN : Hid (Spn.At es (fun n => Spn.opB op (Spn.memB la n) (Spn.memB lb n) = true) (k + 1) out) := HA.out.2.1 k x y out HT.out HXY.out.1 HXY.out.2 hp
        have key : (op = 0 ∧ Spn.memB la x = false ∧ Spn.memB lb x = false) ∨ (op = 1 ∧ Spn.memB la x = false) ∨ (op = 1 ∧ Spn.memB la x = true ∧ Spn.memB lb x = false) ∨ (op = 2 ∧ Spn.memB la x = false) ∨ (op = 2 ∧ Spn.memB la x = true ∧ Spn.memB lb x = true) := by
          rcases hop with rfl | rfl | rfl <;> cases hA : Spn.memB la x <;> cases hB : Spn.memB lb x <;> simp [Spn.opB, hA, hB] at hp ⊢
        clear hp hop
        rcases key with ⟨ho, hA, hB⟩ | ⟨ho, hA⟩ | ⟨ho, hA, hB⟩ | ⟨ho, hA⟩ | ⟨ho, hA, hB⟩
        · have q0 : (op == 0) = true := by rw [ho]; rfl
          have q1 : (op == 1) = false := by rw [ho]; rfl
          have q2 : (op == 2) = false := by rw [ho]; rfl
          clear ho
          go_wp2
          go_quiet ((go_at_call 42; exact Calls.quiet_of_same (hasDay_any _ _ _ _ _ (by unfold maxLen; omega) (by first | exact rar.below (below_drewN (Below.refl _ _) _) | exact rbr.below (below_drewN (Below.refl _ _) _)))))
          go_wp2
          go_roundw
          case rel => exact ⟨k + 1, out, by omega, by go_num, by omega, hown, HN.out, below_drewN hnx _⟩
          case measure => simp [intOf]; omega
        · have q0 : (op == 0) = false := by rw [ho]; rfl
          have q1 : (op == 1) = true := by rw [ho]; rfl
          have q2 : (op == 2) = false := by rw [ho]; rfl
          clear ho
          go_wp2
          go_quiet ((go_at_call 42; exact Calls.quiet_of_same (hasDay_any _ _ _ _ _ (by unfold maxLen; omega) (by first | exact rar.below (below_drewN (Below.refl _ _) _) | exact rbr.below (below_drewN (Below.refl _ _) _)))))
          go_wp2
          go_roundw
          case rel => exact ⟨k + 1, out, by omega, by go_num, by omega, hown, HN.out, below_drewN hnx _⟩
          case measure => simp [intOf]; omega
        · have q0 : (op == 0) = false := by rw [ho]; rfl
          have q1 : (op == 1) = true := by rw [ho]; rfl
          have q2 : (op == 2) = false := by rw [ho]; rfl
          clear ho
          go_wp2
          go_quiet ((go_at_call 42; exact Calls.quiet_of_same (hasDay_any _ _ _ _ _ (by unfold maxLen; omega) (by first | exact rar.below (below_drewN (Below.refl _ _) _) | exact rbr.below (below_drewN (Below.refl _ _) _)))))
          go_wp2
          go_roundw
          case rel => exact ⟨k + 1, out, by omega, by go_num, by omega, hown, HN.out, below_drewN hnx _⟩
          case measure => simp [intOf]; omega
        · have q0 : (op == 0) = false := by rw [ho]; rfl
          have q1 : (op == 1) = false := by rw [ho]; rfl
          have q2 : (op == 2) = true := by rw [ho]; rfl
          clear ho
          go_wp2
          go_quiet ((go_at_call 42; exact Calls.quiet_of_same (hasDay_any _ _ _ _ _ (by unfold maxLen; omega) (by first | exact rar.below (below_drewN (Below.refl _ _) _) | exact rbr.below (below_drewN (Below.refl _ _) _)))))
          go_wp2
          go_roundw
          case rel => exact ⟨k + 1, out, by omega, by go_num, by omega, hown, HN.out, below_drewN hnx _⟩
          case measure => simp [intOf]; omega
        · have q0 : (op == 0) = false := by rw [ho]; rfl
          have q1 : (op == 1) = false := by rw [ho]; rfl
          have q2 : (op == 2) = true := by rw [ho]; rfl
          clear ho
          go_wp2
          go_quiet ((go_at_call 42; exact Calls.quiet_of_same (hasDay_any _ _ _ _ _ (by unfold maxLen; omega) (by first | exact rar.below (below_drewN (Below.refl _ _) _) | exact rbr.below (below_drewN (Below.refl _ _) _)))))
          go_wp2
          go_roundw
          case rel => exact ⟨k + 1, out, by omega, by go_num, by omega, hown, HN.out, below_drewN hnx _⟩
          case measure => simp [intOf]; omega
      | true =>
        have HN : Hid (Spn.At es (fun n => Spn.opB op (Spn.memB la n) (Spn.memB lb n) = true) (k + 1) (Spn.push out x y)) := HA.out.2.2.1 k x y out HT.out HXY.out.1 HXY.out.2 hp
        have HPL : Hid ((Spn.push out x y).length ≤ out.length + 1) := Spn.push_len out x y
        have key : (op = 0 ∧ Spn.memB la x = true) ∨ (op = 0 ∧ Spn.memB la x = false ∧ Spn.memB lb x = true) ∨ (op = 1 ∧ Spn.memB la x = true ∧ Spn.memB lb x = true) ∨ (op = 2 ∧ Spn.memB la x = true ∧ Spn.memB lb x = false) := by
          rcases hop with rfl | rfl | rfl <;> cases hA : Spn.memB la x <;> cases hB : Spn.memB lb x <;> simp [Spn.opB, hA, hB] at hp ⊢
        clear hp hop
        rcases List.eq_nil_or_concat out with rfl | ⟨l, s, rfl⟩
        · rcases key with ⟨ho, hA⟩ | ⟨ho, hA, hB⟩ | ⟨ho, hA, hB⟩ | ⟨ho, hA, hB⟩
          · skip
            have q0 : (op == 0) = true := by rw [ho]; rfl
            have q1 : (op == 1) = false := by rw [ho]; rfl
            have q2 : (op == 2) = false := by rw [ho]; rfl
            clear ho
            rcases hown.form with ⟨rfl, _⟩ | ⟨g, cg, rfl, hg1, hg2⟩
            · have hne : some be ≠ (Value.slice none 0 0).ownBlock := by simp [Value.ownBlock]
              go_wp2
              go_quiet ((go_at_call 42; exact Calls.quiet_of_same (hasDay_any _ _ _ _ _ (by unfold maxLen; omega) (by first | exact rar.below (below_drewN (Below.refl _ _) _) | exact rbr.below (below_drewN (Below.refl _ _) _)))))
              rename Nat => n1
              go_wp2
              go_quiet (fail)
              go_wp2
              obtain ⟨W, hW, ownW, dxW, dyW, hnxW⟩ : ∃ W : World, W = (wr.drewN n1).drewN nq ∧ OwnS W w3.heap.size (.slice none 0 0) [] ∧ W.cell? ⟨be, oe + k, none⟩ = some (.int .i64 x) ∧ W.cell? ⟨be, oe + (k + 1), none⟩ = some (.int .i64 y) ∧ Below w3.heap.size w3 W := ⟨_, rfl, hown, dx, dy, below_drewN (below_drewN hnx _) _⟩
              have hsW : w3.heap.size ≤ W.heap.size := hnxW.size
              have hbW : be < W.heap.size := Nat.lt_of_lt_of_le hbe hsW
              first | rw [← hW] | (rw [World.drewN_drewN] at hW; rw [← hW])
              clear hW dx dy rar rbr hown hnx
              have ownW' : W.ownsRow w3.heap.size 47 2 (.slice none 0 0) 0 (flat []) := ownW
              have hwr1 := HWR.out.1
              have hwr2 := HWR.out.2
              go_region_held3 (fun w' => w'.cell? ⟨be, oe + k, none⟩ = some (.int .i64 x) ∧ w'.cell? ⟨be, oe + (k + 1), none⟩ = some (.int .i64 y)) (go_keep)
                ((refine step_append_lies _ (by rfl) _ _ _ (by rfl) w3.heap.size 47 i0 _ 2 16 Tryd.underlying22 HI.out.1 HI.out.2.1 HI.out.2.2.1 HI.out.2.2.2 rfl (by omega) _ (0) (flat ([])) (by rfl) (World.ownsRow.drew (World.ownsRow.alloc ownW' _)) ⟨W.heap.size, 0, none⟩ 1 1 [.int .i64 x, .int .i64 y] (by rfl) (by rfl) (World.news_of_block (cs := #[.int .i64 x, .int .i64 y]) (t := 47) (fr := (0, 0)) (heap_alloc_new W _)) (by simp [Value.oneCell']) (by omega) (by unfold maxLen; omega) (by omega) (by simp; omega) (W.heap.size + 1) (by simp) ?_; intro gg cap w4 hown4 hgrow hatt hltt; have z1 := cell_behind hgrow hbW dxW hne; have z2 := cell_behind hgrow hbW dyW hne))
              have R := OwnS.keep (xs := []) rfl hsW ownW hnxW hown4 hgrow
              go_wp2
              go_roundw
              case rel => exact ⟨k + 1, _, by omega, by go_num, by simp, R.1, HN.out, R.2⟩
              case measure => simp [intOf]; omega
            · have hne : some be ≠ (Value.slice (some ⟨g, 0, none⟩) 0 cg).ownBlock := by simp [Value.ownBlock]; omega
              have hown : OwnS wr w3.heap.size (.slice (some ⟨g, 0, none⟩) 0 cg) [] := hown
              go_wp2
              go_quiet ((go_at_call 42; exact Calls.quiet_of_same (hasDay_any _ _ _ _ _ (by unfold maxLen; omega) (by first | exact rar.below (below_drewN (Below.refl _ _) _) | exact rbr.below (below_drewN (Below.refl _ _) _)))))
              rename Nat => n1
              go_wp2
              go_quiet (fail)
              go_wp2
              obtain ⟨W, hW, ownW, dxW, dyW, hnxW⟩ : ∃ W : World, W = (wr.drewN n1).drewN nq ∧ OwnS W w3.heap.size (.slice (some ⟨g, 0, none⟩) 0 cg) [] ∧ W.cell? ⟨be, oe + k, none⟩ = some (.int .i64 x) ∧ W.cell? ⟨be, oe + (k + 1), none⟩ = some (.int .i64 y) ∧ Below w3.heap.size w3 W := ⟨_, rfl, hown, dx, dy, below_drewN (below_drewN hnx _) _⟩
              have hsW : w3.heap.size ≤ W.heap.size := hnxW.size
              have hbW : be < W.heap.size := Nat.lt_of_lt_of_le hbe hsW
              first | rw [← hW] | (rw [World.drewN_drewN] at hW; rw [← hW])
              clear hW dx dy rar rbr hown hnx
              have ownW' : W.ownsRow w3.heap.size 47 2 (.slice (some ⟨g, 0, none⟩) 0 cg) 0 (flat []) := ownW
              have hwr1 := HWR.out.1
              have hwr2 := HWR.out.2
              go_region_held3 (fun w' => w'.cell? ⟨be, oe + k, none⟩ = some (.int .i64 x) ∧ w'.cell? ⟨be, oe + (k + 1), none⟩ = some (.int .i64 y)) (go_keep)
                ((refine step_append_lies _ (by rfl) _ _ _ (by rfl) w3.heap.size 47 i0 _ 2 16 Tryd.underlying22 HI.out.1 HI.out.2.1 HI.out.2.2.1 HI.out.2.2.2 rfl (by omega) _ (0) (flat ([])) (by rfl) (World.ownsRow.drew (World.ownsRow.alloc ownW' _)) ⟨W.heap.size, 0, none⟩ 1 1 [.int .i64 x, .int .i64 y] (by rfl) (by rfl) (World.news_of_block (cs := #[.int .i64 x, .int .i64 y]) (t := 47) (fr := (0, 0)) (heap_alloc_new W _)) (by simp [Value.oneCell']) (by omega) (by unfold maxLen; omega) (by omega) (by simp; omega) (W.heap.size + 1) (by simp) ?_; intro gg cap w4 hown4 hgrow hatt hltt; have z1 := cell_behind hgrow hbW dxW hne; have z2 := cell_behind hgrow hbW dyW hne))
              have R := OwnS.keep (xs := []) rfl hsW ownW hnxW hown4 hgrow
              go_wp2
              go_roundw
              case rel => exact ⟨k + 1, _, by omega, by go_num, by simp, R.1, HN.out, R.2⟩
              case measure => simp [intOf]; omega
          · skip
            have q0 : (op == 0) = true := by rw [ho]; rfl
            have q1 : (op == 1) = false := by rw [ho]; rfl
            have q2 : (op == 2) = false := by rw [ho]; rfl
            clear ho
            rcases hown.form with ⟨rfl, _⟩ | ⟨g, cg, rfl, hg1, hg2⟩
            · have hne : some be ≠ (Value.slice none 0 0).ownBlock := by simp [Value.ownBlock]
              go_wp2
              go_quiet ((go_at_call 42; exact Calls.quiet_of_same (hasDay_any _ _ _ _ _ (by unfold maxLen; omega) (by first | exact rar.below (below_drewN (Below.refl _ _) _) | exact rbr.below (below_drewN (Below.refl _ _) _)))))
              rename Nat => n1
              go_wp2
              go_quiet (fail)
              go_wp2
              obtain ⟨W, hW, ownW, dxW, dyW, hnxW⟩ : ∃ W : World, W = (wr.drewN n1).drewN nq ∧ OwnS W w3.heap.size (.slice none 0 0) [] ∧ W.cell? ⟨be, oe + k, none⟩ = some (.int .i64 x) ∧ W.cell? ⟨be, oe + (k + 1), none⟩ = some (.int .i64 y) ∧ Below w3.heap.size w3 W := ⟨_, rfl, hown, dx, dy, below_drewN (below_drewN hnx _) _⟩
              have hsW : w3.heap.size ≤ W.heap.size := hnxW.size
              have hbW : be < W.heap.size := Nat.lt_of_lt_of_le hbe hsW
              first | rw [← hW] | (rw [World.drewN_drewN] at hW; rw [← hW])
              clear hW dx dy rar rbr hown hnx
              have ownW' : W.ownsRow w3.heap.size 47 2 (.slice none 0 0) 0 (flat []) := ownW
              have hwr1 := HWR.out.1
              have hwr2 := HWR.out.2
              go_region_held3 (fun w' => w'.cell? ⟨be, oe + k, none⟩ = some (.int .i64 x) ∧ w'.cell? ⟨be, oe + (k + 1), none⟩ = some (.int .i64 y)) (go_keep)
                ((refine step_append_lies _ (by rfl) _ _ _ (by rfl) w3.heap.size 47 i0 _ 2 16 Tryd.underlying22 HI.out.1 HI.out.2.1 HI.out.2.2.1 HI.out.2.2.2 rfl (by omega) _ (0) (flat ([])) (by rfl) (World.ownsRow.drew (World.ownsRow.alloc ownW' _)) ⟨W.heap.size, 0, none⟩ 1 1 [.int .i64 x, .int .i64 y] (by rfl) (by rfl) (World.news_of_block (cs := #[.int .i64 x, .int .i64 y]) (t := 47) (fr := (0, 0)) (heap_alloc_new W _)) (by simp [Value.oneCell']) (by omega) (by unfold maxLen; omega) (by omega) (by simp; omega) (W.heap.size + 1) (by simp) ?_; intro gg cap w4 hown4 hgrow hatt hltt; have z1 := cell_behind hgrow hbW dxW hne; have z2 := cell_behind hgrow hbW dyW hne))
              have R := OwnS.keep (xs := []) rfl hsW ownW hnxW hown4 hgrow
              go_wp2
              go_roundw
              case rel => exact ⟨k + 1, _, by omega, by go_num, by simp, R.1, HN.out, R.2⟩
              case measure => simp [intOf]; omega
            · have hne : some be ≠ (Value.slice (some ⟨g, 0, none⟩) 0 cg).ownBlock := by simp [Value.ownBlock]; omega
              have hown : OwnS wr w3.heap.size (.slice (some ⟨g, 0, none⟩) 0 cg) [] := hown
              go_wp2
              go_quiet ((go_at_call 42; exact Calls.quiet_of_same (hasDay_any _ _ _ _ _ (by unfold maxLen; omega) (by first | exact rar.below (below_drewN (Below.refl _ _) _) | exact rbr.below (below_drewN (Below.refl _ _) _)))))
              rename Nat => n1
              go_wp2
              go_quiet (fail)
              go_wp2
              obtain ⟨W, hW, ownW, dxW, dyW, hnxW⟩ : ∃ W : World, W = (wr.drewN n1).drewN nq ∧ OwnS W w3.heap.size (.slice (some ⟨g, 0, none⟩) 0 cg) [] ∧ W.cell? ⟨be, oe + k, none⟩ = some (.int .i64 x) ∧ W.cell? ⟨be, oe + (k + 1), none⟩ = some (.int .i64 y) ∧ Below w3.heap.size w3 W := ⟨_, rfl, hown, dx, dy, below_drewN (below_drewN hnx _) _⟩
              have hsW : w3.heap.size ≤ W.heap.size := hnxW.size
              have hbW : be < W.heap.size := Nat.lt_of_lt_of_le hbe hsW
              first | rw [← hW] | (rw [World.drewN_drewN] at hW; rw [← hW])
              clear hW dx dy rar rbr hown hnx
              have ownW' : W.ownsRow w3.heap.size 47 2 (.slice (some ⟨g, 0, none⟩) 0 cg) 0 (flat []) := ownW
              have hwr1 := HWR.out.1
              have hwr2 := HWR.out.2
              go_region_held3 (fun w' => w'.cell? ⟨be, oe + k, none⟩ = some (.int .i64 x) ∧ w'.cell? ⟨be, oe + (k + 1), none⟩ = some (.int .i64 y)) (go_keep)
                ((refine step_append_lies _ (by rfl) _ _ _ (by rfl) w3.heap.size 47 i0 _ 2 16 Tryd.underlying22 HI.out.1 HI.out.2.1 HI.out.2.2.1 HI.out.2.2.2 rfl (by omega) _ (0) (flat ([])) (by rfl) (World.ownsRow.drew (World.ownsRow.alloc ownW' _)) ⟨W.heap.size, 0, none⟩ 1 1 [.int .i64 x, .int .i64 y] (by rfl) (by rfl) (World.news_of_block (cs := #[.int .i64 x, .int .i64 y]) (t := 47) (fr := (0, 0)) (heap_alloc_new W _)) (by simp [Value.oneCell']) (by omega) (by unfold maxLen; omega) (by omega) (by simp; omega) (W.heap.size + 1) (by simp) ?_; intro gg cap w4 hown4 hgrow hatt hltt; have z1 := cell_behind hgrow hbW dxW hne; have z2 := cell_behind hgrow hbW dyW hne))
              have R := OwnS.keep (xs := []) rfl hsW ownW hnxW hown4 hgrow
              go_wp2
              go_roundw
              case rel => exact ⟨k + 1, _, by omega, by go_num, by simp, R.1, HN.out, R.2⟩
              case measure => simp [intOf]; omega
          · skip
            have q0 : (op == 0) = false := by rw [ho]; rfl
            have q1 : (op == 1) = true := by rw [ho]; rfl
            have q2 : (op == 2) = false := by rw [ho]; rfl
            clear ho
            rcases hown.form with ⟨rfl, _⟩ | ⟨g, cg, rfl, hg1, hg2⟩
            · have hne : some be ≠ (Value.slice none 0 0).ownBlock := by simp [Value.ownBlock]
              go_wp2
              go_quiet ((go_at_call 42; exact Calls.quiet_of_same (hasDay_any _ _ _ _ _ (by unfold maxLen; omega) (by first | exact rar.below (below_drewN (Below.refl _ _) _) | exact rbr.below (below_drewN (Below.refl _ _) _)))))
              rename Nat => n1
              go_wp2
              go_quiet (fail)
              go_wp2
              obtain ⟨W, hW, ownW, dxW, dyW, hnxW⟩ : ∃ W : World, W = (wr.drewN n1).drewN nq ∧ OwnS W w3.heap.size (.slice none 0 0) [] ∧ W.cell? ⟨be, oe + k, none⟩ = some (.int .i64 x) ∧ W.cell? ⟨be, oe + (k + 1), none⟩ = some (.int .i64 y) ∧ Below w3.heap.size w3 W := ⟨_, rfl, hown, dx, dy, below_drewN (below_drewN hnx _) _⟩
              have hsW : w3.heap.size ≤ W.heap.size := hnxW.size
              have hbW : be < W.heap.size := Nat.lt_of_lt_of_le hbe hsW
              first | rw [← hW] | (rw [World.drewN_drewN] at hW; rw [← hW])
              clear hW dx dy rar rbr hown hnx
              have ownW' : W.ownsRow w3.heap.size 47 2 (.slice none 0 0) 0 (flat []) := ownW
              have hwr1 := HWR.out.1
              have hwr2 := HWR.out.2
              go_region_held3 (fun w' => w'.cell? ⟨be, oe + k, none⟩ = some (.int .i64 x) ∧ w'.cell? ⟨be, oe + (k + 1), none⟩ = some (.int .i64 y)) (go_keep)
                ((refine step_append_lies _ (by rfl) _ _ _ (by rfl) w3.heap.size 47 i0 _ 2 16 Tryd.underlying22 HI.out.1 HI.out.2.1 HI.out.2.2.1 HI.out.2.2.2 rfl (by omega) _ (0) (flat ([])) (by rfl) (World.ownsRow.drew (World.ownsRow.alloc ownW' _)) ⟨W.heap.size, 0, none⟩ 1 1 [.int .i64 x, .int .i64 y] (by rfl) (by rfl) (World.news_of_block (cs := #[.int .i64 x, .int .i64 y]) (t := 47) (fr := (0, 0)) (heap_alloc_new W _)) (by simp [Value.oneCell']) (by omega) (by unfold maxLen; omega) (by omega) (by simp; omega) (W.heap.size + 1) (by simp) ?_; intro gg cap w4 hown4 hgrow hatt hltt; have z1 := cell_behind hgrow hbW dxW hne; have z2 := cell_behind hgrow hbW dyW hne))
              have R := OwnS.keep (xs := []) rfl hsW ownW hnxW hown4 hgrow
              go_wp2
              go_roundw
              case rel => exact ⟨k + 1, _, by omega, by go_num, by simp, R.1, HN.out, R.2⟩
              case measure => simp [intOf]; omega
            · have hne : some be ≠ (Value.slice (some ⟨g, 0, none⟩) 0 cg).ownBlock := by simp [Value.ownBlock]; omega
              have hown : OwnS wr w3.heap.size (.slice (some ⟨g, 0, none⟩) 0 cg) [] := hown
              go_wp2
              go_quiet ((go_at_call 42; exact Calls.quiet_of_same (hasDay_any _ _ _ _ _ (by unfold maxLen; omega) (by first | exact rar.below (below_drewN (Below.refl _ _) _) | exact rbr.below (below_drewN (Below.refl _ _) _)))))
              rename Nat => n1
              go_wp2
              go_quiet (fail)
              go_wp2
              obtain ⟨W, hW, ownW, dxW, dyW, hnxW⟩ : ∃ W : World, W = (wr.drewN n1).drewN nq ∧ OwnS W w3.heap.size (.slice (some ⟨g, 0, none⟩) 0 cg) [] ∧ W.cell? ⟨be, oe + k, none⟩ = some (.int .i64 x) ∧ W.cell? ⟨be, oe + (k + 1), none⟩ = some (.int .i64 y) ∧ Below w3.heap.size w3 W := ⟨_, rfl, hown, dx, dy, below_drewN (below_drewN hnx _) _⟩
              have hsW : w3.heap.size ≤ W.heap.size := hnxW.size
              have hbW : be < W.heap.size := Nat.lt_of_lt_of_le hbe hsW
              first | rw [← hW] | (rw [World.drewN_drewN] at hW; rw [← hW])
              clear hW dx dy rar rbr hown hnx
              have ownW' : W.ownsRow w3.heap.size 47 2 (.slice (some ⟨g, 0, none⟩) 0 cg) 0 (flat []) := ownW
              have hwr1 := HWR.out.1
              have hwr2 := HWR.out.2
              go_region_held3 (fun w' => w'.cell? ⟨be, oe + k, none⟩ = some (.int .i64 x) ∧ w'.cell? ⟨be, oe + (k + 1), none⟩ = some (.int .i64 y)) (go_keep)
                ((refine step_append_lies _ (by rfl) _ _ _ (by rfl) w3.heap.size 47 i0 _ 2 16 Tryd.underlying22 HI.out.1 HI.out.2.1 HI.out.2.2.1 HI.out.2.2.2 rfl (by omega) _ (0) (flat ([])) (by rfl) (World.ownsRow.drew (World.ownsRow.alloc ownW' _)) ⟨W.heap.size, 0, none⟩ 1 1 [.int .i64 x, .int .i64 y] (by rfl) (by rfl) (World.news_of_block (cs := #[.int .i64 x, .int .i64 y]) (t := 47) (fr := (0, 0)) (heap_alloc_new W _)) (by simp [Value.oneCell']) (by omega) (by unfold maxLen; omega) (by omega) (by simp; omega) (W.heap.size + 1) (by simp) ?_; intro gg cap w4 hown4 hgrow hatt hltt; have z1 := cell_behind hgrow hbW dxW hne; have z2 := cell_behind hgrow hbW dyW hne))
              have R := OwnS.keep (xs := []) rfl hsW ownW hnxW hown4 hgrow
              go_wp2
              go_roundw
              case rel => exact ⟨k + 1, _, by omega, by go_num, by simp, R.1, HN.out, R.2⟩
              case measure => simp [intOf]; omega
          · skip
            have q0 : (op == 0) = false := by rw [ho]; rfl
            have q1 : (op == 1) = false := by rw [ho]; rfl
            have q2 : (op == 2) = true := by rw [ho]; rfl
            clear ho
            rcases hown.form with ⟨rfl, _⟩ | ⟨g, cg, rfl, hg1, hg2⟩
            · have hne : some be ≠ (Value.slice none 0 0).ownBlock := by simp [Value.ownBlock]
              go_wp2
              go_quiet ((go_at_call 42; exact Calls.quiet_of_same (hasDay_any _ _ _ _ _ (by unfold maxLen; omega) (by first | exact rar.below (below_drewN (Below.refl _ _) _) | exact rbr.below (below_drewN (Below.refl _ _) _)))))
              rename Nat => n1
              go_wp2
              go_quiet (fail)
              go_wp2
              obtain ⟨W, hW, ownW, dxW, dyW, hnxW⟩ : ∃ W : World, W = (wr.drewN n1).drewN nq ∧ OwnS W w3.heap.size (.slice none 0 0) [] ∧ W.cell? ⟨be, oe + k, none⟩ = some (.int .i64 x) ∧ W.cell? ⟨be, oe + (k + 1), none⟩ = some (.int .i64 y) ∧ Below w3.heap.size w3 W := ⟨_, rfl, hown, dx, dy, below_drewN (below_drewN hnx _) _⟩
              have hsW : w3.heap.size ≤ W.heap.size := hnxW.size
              have hbW : be < W.heap.size := Nat.lt_of_lt_of_le hbe hsW
              first | rw [← hW] | (rw [World.drewN_drewN] at hW; rw [← hW])
              clear hW dx dy rar rbr hown hnx
              have ownW' : W.ownsRow w3.heap.size 47 2 (.slice none 0 0) 0 (flat []) := ownW
              have hwr1 := HWR.out.1
              have hwr2 := HWR.out.2
              go_region_held3 (fun w' => w'.cell? ⟨be, oe + k, none⟩ = some (.int .i64 x) ∧ w'.cell? ⟨be, oe + (k + 1), none⟩ = some (.int .i64 y)) (go_keep)
                ((refine step_append_lies _ (by rfl) _ _ _ (by rfl) w3.heap.size 47 i0 _ 2 16 Tryd.underlying22 HI.out.1 HI.out.2.1 HI.out.2.2.1 HI.out.2.2.2 rfl (by omega) _ (0) (flat ([])) (by rfl) (World.ownsRow.drew (World.ownsRow.alloc ownW' _)) ⟨W.heap.size, 0, none⟩ 1 1 [.int .i64 x, .int .i64 y] (by rfl) (by rfl) (World.news_of_block (cs := #[.int .i64 x, .int .i64 y]) (t := 47) (fr := (0, 0)) (heap_alloc_new W _)) (by simp [Value.oneCell']) (by omega) (by unfold maxLen; omega) (by omega) (by simp; omega) (W.heap.size + 1) (by simp) ?_; intro gg cap w4 hown4 hgrow hatt hltt; have z1 := cell_behind hgrow hbW dxW hne; have z2 := cell_behind hgrow hbW dyW hne))
              have R := OwnS.keep (xs := []) rfl hsW ownW hnxW hown4 hgrow
              go_wp2
              go_roundw
              case rel => exact ⟨k + 1, _, by omega, by go_num, by simp, R.1, HN.out, R.2⟩
              case measure => simp [intOf]; omega
            · have hne : some be ≠ (Value.slice (some ⟨g, 0, none⟩) 0 cg).ownBlock := by simp [Value.ownBlock]; omega
              have hown : OwnS wr w3.heap.size (.slice (some ⟨g, 0, none⟩) 0 cg) [] := hown
              go_wp2
              go_quiet ((go_at_call 42; exact Calls.quiet_of_same (hasDay_any _ _ _ _ _ (by unfold maxLen; omega) (by first | exact rar.below (below_drewN (Below.refl _ _) _) | exact rbr.below (below_drewN (Below.refl _ _) _)))))
              rename Nat => n1
              go_wp2
              go_quiet (fail)
              go_wp2
              obtain ⟨W, hW, ownW, dxW, dyW, hnxW⟩ : ∃ W : World, W = (wr.drewN n1).drewN nq ∧ OwnS W w3.heap.size (.slice (some ⟨g, 0, none⟩) 0 cg) [] ∧ W.cell? ⟨be, oe + k, none⟩ = some (.int .i64 x) ∧ W.cell? ⟨be, oe + (k + 1), none⟩ = some (.int .i64 y) ∧ Below w3.heap.size w3 W := ⟨_, rfl, hown, dx, dy, below_drewN (below_drewN hnx _) _⟩
              have hsW : w3.heap.size ≤ W.heap.size := hnxW.size
              have hbW : be < W.heap.size := Nat.lt_of_lt_of_le hbe hsW
              first | rw [← hW] | (rw [World.drewN_drewN] at hW; rw [← hW])
              clear hW dx dy rar rbr hown hnx
              have ownW' : W.ownsRow w3.heap.size 47 2 (.slice (some ⟨g, 0, none⟩) 0 cg) 0 (flat []) := ownW
              have hwr1 := HWR.out.1
              have hwr2 := HWR.out.2
              go_region_held3 (fun w' => w'.cell? ⟨be, oe + k, none⟩ = some (.int .i64 x) ∧ w'.cell? ⟨be, oe + (k + 1), none⟩ = some (.int .i64 y)) (go_keep)
                ((refine step_append_lies _ (by rfl) _ _ _ (by rfl) w3.heap.size 47 i0 _ 2 16 Tryd.underlying22 HI.out.1 HI.out.2.1 HI.out.2.2.1 HI.out.2.2.2 rfl (by omega) _ (0) (flat ([])) (by rfl) (World.ownsRow.drew (World.ownsRow.alloc ownW' _)) ⟨W.heap.size, 0, none⟩ 1 1 [.int .i64 x, .int .i64 y] (by rfl) (by rfl) (World.news_of_block (cs := #[.int .i64 x, .int .i64 y]) (t := 47) (fr := (0, 0)) (heap_alloc_new W _)) (by simp [Value.oneCell']) (by omega) (by unfold maxLen; omega) (by omega) (by simp; omega) (W.heap.size + 1) (by simp) ?_; intro gg cap w4 hown4 hgrow hatt hltt; have z1 := cell_behind hgrow hbW dxW hne; have z2 := cell_behind hgrow hbW dyW hne))
              have R := OwnS.keep (xs := []) rfl hsW ownW hnxW hown4 hgrow
              go_wp2
              go_roundw
              case rel => exact ⟨k + 1, _, by omega, by go_num, by simp, R.1, HN.out, R.2⟩
              case measure => simp [intOf]; omega
        · rw [List.concat_eq_append] at hown HN hol
          have hll : (l ++ [s]).length = l.length + 1 := by simp
          rcases hown.form with ⟨_, h0⟩ | ⟨g, cg, rfl, hg1, hg2⟩
          · simp at h0
          have hown : OwnS wr w3.heap.size (.slice (some ⟨g, 0, none⟩) (l.length + 1) cg) (l ++ [s]) := by rw [hll] at hown; exact hown
          rw [hll]
          have hne : some be ≠ (Value.slice (some ⟨g, 0, none⟩) (l.length + 1) cg).ownBlock := by simp [Value.ownBlock]; omega
          have hlast := hown.last
          have hol' : l.length + 1 ≤ k := by omega
          have hl1 : (0 : Int) < (l.length : Int) + 1 := by omega
          have HPS : Hid (s.2 = x → Spn.push (l ++ [s]) x y = l ++ [(s.1, y)]) := Spn.push_same l s x y
          have HPO : Hid (¬ s.2 = x → Spn.push (l ++ [s]) x y = (l ++ [s]) ++ [(x, y)]) := Spn.push_other l s x y
          obtain ⟨sx, sy⟩ := s
          dsimp only at hlast HPS HPO
          obtain ⟨cl, fl⟩ := hlast
          by_cases hs : sy = x
          · rcases key with ⟨ho, hA⟩ | ⟨ho, hA, hB⟩ | ⟨ho, hA, hB⟩ | ⟨ho, hA, hB⟩
            · skip
              have q0 : (op == 0) = true := by rw [ho]; rfl
              have q1 : (op == 1) = false := by rw [ho]; rfl
              have q2 : (op == 2) = false := by rw [ho]; rfl
              clear ho
              go_wp2
              go_quiet ((go_at_call 42; exact Calls.quiet_of_same (hasDay_any _ _ _ _ _ (by unfold maxLen; omega) (by first | exact rar.below (below_drewN (Below.refl _ _) _) | exact rbr.below (below_drewN (Below.refl _ _) _)))))
              rename Nat => n1
              go_wp2
              go_quiet (fail)
              go_wp2
              have R := OwnS.stretch (y := y) (W := wr.drewN (n1 + nq)) hown (below_drewN hnx _)
              go_roundw
              case rel => exact ⟨k + 1, l ++ [(sx, y)], by omega, by go_num, by simp; omega, R.1, by have := HN.out; rw [HPS.out hs] at this; exact this, R.2⟩
              case measure => simp [intOf]; omega
            · skip
              have q0 : (op == 0) = true := by rw [ho]; rfl
              have q1 : (op == 1) = false := by rw [ho]; rfl
              have q2 : (op == 2) = false := by rw [ho]; rfl
              clear ho
              go_wp2
              go_quiet ((go_at_call 42; exact Calls.quiet_of_same (hasDay_any _ _ _ _ _ (by unfold maxLen; omega) (by first | exact rar.below (below_drewN (Below.refl _ _) _) | exact rbr.below (below_drewN (Below.refl _ _) _)))))
              rename Nat => n1
              go_wp2
              go_quiet (fail)
              go_wp2
              have R := OwnS.stretch (y := y) (W := wr.drewN (n1 + nq)) hown (below_drewN hnx _)
              go_roundw
              case rel => exact ⟨k + 1, l ++ [(sx, y)], by omega, by go_num, by simp; omega, R.1, by have := HN.out; rw [HPS.out hs] at this; exact this, R.2⟩
              case measure => simp [intOf]; omega
            · skip
              have q0 : (op == 0) = false := by rw [ho]; rfl
              have q1 : (op == 1) = true := by rw [ho]; rfl
              have q2 : (op == 2) = false := by rw [ho]; rfl
              clear ho
              go_wp2
              go_quiet ((go_at_call 42; exact Calls.quiet_of_same (hasDay_any _ _ _ _ _ (by unfold maxLen; omega) (by first | exact rar.below (below_drewN (Below.refl _ _) _) | exact rbr.below (below_drewN (Below.refl _ _) _)))))
              rename Nat => n1
              go_wp2
              go_quiet (fail)
              go_wp2
              have R := OwnS.stretch (y := y) (W := wr.drewN (n1 + nq)) hown (below_drewN hnx _)
              go_roundw
              case rel => exact ⟨k + 1, l ++ [(sx, y)], by omega, by go_num, by simp; omega, R.1, by have := HN.out; rw [HPS.out hs] at this; exact this, R.2⟩
              case measure => simp [intOf]; omega
            · skip
              have q0 : (op == 0) = false := by rw [ho]; rfl
              have q1 : (op == 1) = false := by rw [ho]; rfl
              have q2 : (op == 2) = true := by rw [ho]; rfl
              clear ho
              go_wp2
              go_quiet ((go_at_call 42; exact Calls.quiet_of_same (hasDay_any _ _ _ _ _ (by unfold maxLen; omega) (by first | exact rar.below (below_drewN (Below.refl _ _) _) | exact rbr.below (below_drewN (Below.refl _ _) _)))))
              rename Nat => n1
              go_wp2
              go_quiet (fail)
              go_wp2
              have R := OwnS.stretch (y := y) (W := wr.drewN (n1 + nq)) hown (below_drewN hnx _)
              go_roundw
              case rel => exact ⟨k + 1, l ++ [(sx, y)], by omega, by go_num, by simp; omega, R.1, by have := HN.out; rw [HPS.out hs] at this; exact this, R.2⟩
              case measure => simp [intOf]; omega
          · rcases key with ⟨ho, hA⟩ | ⟨ho, hA, hB⟩ | ⟨ho, hA, hB⟩ | ⟨ho, hA, hB⟩
            · skip
              have q0 : (op == 0) = true := by rw [ho]; rfl
              have q1 : (op == 1) = false := by rw [ho]; rfl
              have q2 : (op == 2) = false := by rw [ho]; rfl
              clear ho
              go_wp2
              go_quiet ((go_at_call 42; exact Calls.quiet_of_same (hasDay_any _ _ _ _ _ (by unfold maxLen; omega) (by first | exact rar.below (below_drewN (Below.refl _ _) _) | exact rbr.below (below_drewN (Below.refl _ _) _)))))
              rename Nat => n1
              go_wp2
              go_quiet (fail)
              go_wp2
              obtain ⟨W, hW, ownW, dxW, dyW, hnxW⟩ : ∃ W : World, W = (wr.drewN n1).drewN nq ∧ OwnS W w3.heap.size (.slice (some ⟨g, 0, none⟩) (l.length + 1) cg) (l ++ [(sx, sy)]) ∧ W.cell? ⟨be, oe + k, none⟩ = some (.int .i64 x) ∧ W.cell? ⟨be, oe + (k + 1), none⟩ = some (.int .i64 y) ∧ Below w3.heap.size w3 W := ⟨_, rfl, hown, dx, dy, below_drewN (below_drewN hnx _) _⟩
              have hsW : w3.heap.size ≤ W.heap.size := hnxW.size
              have hbW : be < W.heap.size := Nat.lt_of_lt_of_le hbe hsW
              first | rw [← hW] | (rw [World.drewN_drewN] at hW; rw [← hW])
              clear hW dx dy rar rbr hown hnx cl fl
              have ownW' : W.ownsRow w3.heap.size 47 2 (.slice (some ⟨g, 0, none⟩) (l.length + 1) cg) (l.length + 1) (flat (l ++ [(sx, sy)])) := by rw [← hll]; unfold OwnS at ownW; rw [hll] at ownW ⊢; exact ownW
              have hwr1 := HWR.out.1
              have hwr2 := HWR.out.2
              go_region_held3 (fun w' => w'.cell? ⟨be, oe + k, none⟩ = some (.int .i64 x) ∧ w'.cell? ⟨be, oe + (k + 1), none⟩ = some (.int .i64 y)) (go_keep)
                ((refine step_append_lies _ (by rfl) _ _ _ (by rfl) w3.heap.size 47 i0 _ 2 16 Tryd.underlying22 HI.out.1 HI.out.2.1 HI.out.2.2.1 HI.out.2.2.2 rfl (by omega) _ (l.length + 1) (flat (l ++ [(sx, sy)])) (by rfl) (World.ownsRow.drew (World.ownsRow.alloc ownW' _)) ⟨W.heap.size, 0, none⟩ 1 1 [.int .i64 x, .int .i64 y] (by rfl) (by rfl) (World.news_of_block (cs := #[.int .i64 x, .int .i64 y]) (t := 47) (fr := (0, 0)) (heap_alloc_new W _)) (by simp [Value.oneCell']) (by omega) (by unfold maxLen; omega) (by omega) (by simp; omega) (W.heap.size + 1) (by simp) ?_; intro gg cap w4 hown4 hgrow hatt hltt; have z1 := cell_behind hgrow hbW dxW hne; have z2 := cell_behind hgrow hbW dyW hne))
              have R := OwnS.keep (xs := l ++ [(sx, sy)]) hll hsW ownW hnxW hown4 hgrow
              go_wp2
              go_roundw
              case rel => exact ⟨k + 1, _, by omega, by go_num, by simp; omega, R.1, by have := HN.out; rw [HPO.out hs] at this; exact this, R.2⟩
              case measure => simp [intOf]; omega
            · skip
              have q0 : (op == 0) = true := by rw [ho]; rfl
              have q1 : (op == 1) = false := by rw [ho]; rfl
              have q2 : (op == 2) = false := by rw [ho]; rfl
              clear ho
              go_wp2
              go_quiet ((go_at_call 42; exact Calls.quiet_of_same (hasDay_any _ _ _ _ _ (by unfold maxLen; omega) (by first | exact rar.below (below_drewN (Below.refl _ _) _) | exact rbr.below (below_drewN (Below.refl _ _) _)))))
              rename Nat => n1
              go_wp2
              go_quiet (fail)
              go_wp2
              obtain ⟨W, hW, ownW, dxW, dyW, hnxW⟩ : ∃ W : World, W = (wr.drewN n1).drewN nq ∧ OwnS W w3.heap.size (.slice (some ⟨g, 0, none⟩) (l.length + 1) cg) (l ++ [(sx, sy)]) ∧ W.cell? ⟨be, oe + k, none⟩ = some (.int .i64 x) ∧ W.cell? ⟨be, oe + (k + 1), none⟩ = some (.int .i64 y) ∧ Below w3.heap.size w3 W := ⟨_, rfl, hown, dx, dy, below_drewN (below_drewN hnx _) _⟩
              have hsW : w3.heap.size ≤ W.heap.size := hnxW.size
              have hbW : be < W.heap.size := Nat.lt_of_lt_of_le hbe hsW
              first | rw [← hW] | (rw [World.drewN_drewN] at hW; rw [← hW])
              clear hW dx dy rar rbr hown hnx cl fl
              have ownW' : W.ownsRow w3.heap.size 47 2 (.slice (some ⟨g, 0, none⟩) (l.length + 1) cg) (l.length + 1) (flat (l ++ [(sx, sy)])) := by rw [← hll]; unfold OwnS at ownW; rw [hll] at ownW ⊢; exact ownW
              have hwr1 := HWR.out.1
              have hwr2 := HWR.out.2
              go_region_held3 (fun w' => w'.cell? ⟨be, oe + k, none⟩ = some (.int .i64 x) ∧ w'.cell? ⟨be, oe + (k + 1), none⟩ = some (.int .i64 y)) (go_keep)
                ((refine step_append_lies _ (by rfl) _ _ _ (by rfl) w3.heap.size 47 i0 _ 2 16 Tryd.underlying22 HI.out.1 HI.out.2.1 HI.out.2.2.1 HI.out.2.2.2 rfl (by omega) _ (l.length + 1) (flat (l ++ [(sx, sy)])) (by rfl) (World.ownsRow.drew (World.ownsRow.alloc ownW' _)) ⟨W.heap.size, 0, none⟩ 1 1 [.int .i64 x, .int .i64 y] (by rfl) (by rfl) (World.news_of_block (cs := #[.int .i64 x, .int .i64 y]) (t := 47) (fr := (0, 0)) (heap_alloc_new W _)) (by simp [Value.oneCell']) (by omega) (by unfold maxLen; omega) (by omega) (by simp; omega) (W.heap.size + 1) (by simp) ?_; intro gg cap w4 hown4 hgrow hatt hltt; have z1 := cell_behind hgrow hbW dxW hne; have z2 := cell_behind hgrow hbW dyW hne))
              have R := OwnS.keep (xs := l ++ [(sx, sy)]) hll hsW ownW hnxW hown4 hgrow
              go_wp2
              go_roundw
              case rel => exact ⟨k + 1, _, by omega, by go_num, by simp; omega, R.1, by have := HN.out; rw [HPO.out hs] at this; exact this, R.2⟩
              case measure => simp [intOf]; omega
            · skip
              have q0 : (op == 0) = false := by rw [ho]; rfl
              have q1 : (op == 1) = true := by rw [ho]; rfl
              have q2 : (op == 2) = false := by rw [ho]; rfl
              clear ho
              go_wp2
              go_quiet ((go_at_call 42; exact Calls.quiet_of_same (hasDay_any _ _ _ _ _ (by unfold maxLen; omega) (by first | exact rar.below (below_drewN (Below.refl _ _) _) | exact rbr.below (below_drewN (Below.refl _ _) _)))))
              rename Nat => n1
              go_wp2
              go_quiet (fail)
              go_wp2
              obtain ⟨W, hW, ownW, dxW, dyW, hnxW⟩ : ∃ W : World, W = (wr.drewN n1).drewN nq ∧ OwnS W w3.heap.size (.slice (some ⟨g, 0, none⟩) (l.length + 1) cg) (l ++ [(sx, sy)]) ∧ W.cell? ⟨be, oe + k, none⟩ = some (.int .i64 x) ∧ W.cell? ⟨be, oe + (k + 1), none⟩ = some (.int .i64 y) ∧ Below w3.heap.size w3 W := ⟨_, rfl, hown, dx, dy, below_drewN (below_drewN hnx _) _⟩
              have hsW : w3.heap.size ≤ W.heap.size := hnxW.size
              have hbW : be < W.heap.size := Nat.lt_of_lt_of_le hbe hsW
              first | rw [← hW] | (rw [World.drewN_drewN] at hW; rw [← hW])
              clear hW dx dy rar rbr hown hnx cl fl
              have ownW' : W.ownsRow w3.heap.size 47 2 (.slice (some ⟨g, 0, none⟩) (l.length + 1) cg) (l.length + 1) (flat (l ++ [(sx, sy)])) := by rw [← hll]; unfold OwnS at ownW; rw [hll] at ownW ⊢; exact ownW
              have hwr1 := HWR.out.1
              have hwr2 := HWR.out.2
              go_region_held3 (fun w' => w'.cell? ⟨be, oe + k, none⟩ = some (.int .i64 x) ∧ w'.cell? ⟨be, oe + (k + 1), none⟩ = some (.int .i64 y)) (go_keep)
                ((refine step_append_lies _ (by rfl) _ _ _ (by rfl) w3.heap.size 47 i0 _ 2 16 Tryd.underlying22 HI.out.1 HI.out.2.1 HI.out.2.2.1 HI.out.2.2.2 rfl (by omega) _ (l.length + 1) (flat (l ++ [(sx, sy)])) (by rfl) (World.ownsRow.drew (World.ownsRow.alloc ownW' _)) ⟨W.heap.size, 0, none⟩ 1 1 [.int .i64 x, .int .i64 y] (by rfl) (by rfl) (World.news_of_block (cs := #[.int .i64 x, .int .i64 y]) (t := 47) (fr := (0, 0)) (heap_alloc_new W _)) (by simp [Value.oneCell']) (by omega) (by unfold maxLen; omega) (by omega) (by simp; omega) (W.heap.size + 1) (by simp) ?_; intro gg cap w4 hown4 hgrow hatt hltt; have z1 := cell_behind hgrow hbW dxW hne; have z2 := cell_behind hgrow hbW dyW hne))
              have R := OwnS.keep (xs := l ++ [(sx, sy)]) hll hsW ownW hnxW hown4 hgrow
              go_wp2
              go_roundw
              case rel => exact ⟨k + 1, _, by omega, by go_num, by simp; omega, R.1, by have := HN.out; rw [HPO.out hs] at this; exact this, R.2⟩
              case measure => simp [intOf]; omega
            · skip
              have q0 : (op == 0) = false := by rw [ho]; rfl
              have q1 : (op == 1) = false := by rw [ho]; rfl
              have q2 : (op == 2) = true := by rw [ho]; rfl
              clear ho
              go_wp2
              go_quiet ((go_at_call 42; exact Calls.quiet_of_same (hasDay_any _ _ _ _ _ (by unfold maxLen; omega) (by first | exact rar.below (below_drewN (Below.refl _ _) _) | exact rbr.below (below_drewN (Below.refl _ _) _)))))
              rename Nat => n1
              go_wp2
              go_quiet (fail)
              go_wp2
              obtain ⟨W, hW, ownW, dxW, dyW, hnxW⟩ : ∃ W : World, W = (wr.drewN n1).drewN nq ∧ OwnS W w3.heap.size (.slice (some ⟨g, 0, none⟩) (l.length + 1) cg) (l ++ [(sx, sy)]) ∧ W.cell? ⟨be, oe + k, none⟩ = some (.int .i64 x) ∧ W.cell? ⟨be, oe + (k + 1), none⟩ = some (.int .i64 y) ∧ Below w3.heap.size w3 W := ⟨_, rfl, hown, dx, dy, below_drewN (below_drewN hnx _) _⟩
              have hsW : w3.heap.size ≤ W.heap.size := hnxW.size
              have hbW : be < W.heap.size := Nat.lt_of_lt_of_le hbe hsW
              first | rw [← hW] | (rw [World.drewN_drewN] at hW; rw [← hW])
              clear hW dx dy rar rbr hown hnx cl fl
              have ownW' : W.ownsRow w3.heap.size 47 2 (.slice (some ⟨g, 0, none⟩) (l.length + 1) cg) (l.length + 1) (flat (l ++ [(sx, sy)])) := by rw [← hll]; unfold OwnS at ownW; rw [hll] at ownW ⊢; exact ownW
              have hwr1 := HWR.out.1
              have hwr2 := HWR.out.2
              go_region_held3 (fun w' => w'.cell? ⟨be, oe + k, none⟩ = some (.int .i64 x) ∧ w'.cell? ⟨be, oe + (k + 1), none⟩ = some (.int .i64 y)) (go_keep)
                ((refine step_append_lies _ (by rfl) _ _ _ (by rfl) w3.heap.size 47 i0 _ 2 16 Tryd.underlying22 HI.out.1 HI.out.2.1 HI.out.2.2.1 HI.out.2.2.2 rfl (by omega) _ (l.length + 1) (flat (l ++ [(sx, sy)])) (by rfl) (World.ownsRow.drew (World.ownsRow.alloc ownW' _)) ⟨W.heap.size, 0, none⟩ 1 1 [.int .i64 x, .int .i64 y] (by rfl) (by rfl) (World.news_of_block (cs := #[.int .i64 x, .int .i64 y]) (t := 47) (fr := (0, 0)) (heap_alloc_new W _)) (by simp [Value.oneCell']) (by omega) (by unfold maxLen; omega) (by omega) (by simp; omega) (W.heap.size + 1) (by simp) ?_; intro gg cap w4 hown4 hgrow hatt hltt; have z1 := cell_behind hgrow hbW dxW hne; have z2 := cell_behind hgrow hbW dyW hne))
              have R := OwnS.keep (xs := l ++ [(sx, sy)]) hll hsW ownW hnxW hown4 hgrow
              go_wp2
              go_roundw
              case rel => exact ⟨k + 1, _, by omega, by go_num, by simp; omega, R.1, by have := HN.out; rw [HPO.out hs] at this; exact this, R.2⟩
              case measure => simp [intOf]; omega
    · have hdone := HA.out.2.2.2 k out HT.out (by omega)
      have HD : Hid (_) := hdone
      clear hdone
      go_wp2
      go_ret
      exact ⟨_, out, rfl, HD.out.1, HD.out.2, by omega, hown.weak B3.size, below_on B3 (Nat.le_refl _) hnx⟩
end Go.Proofs.YtandlmnbnjkklaaDoor
