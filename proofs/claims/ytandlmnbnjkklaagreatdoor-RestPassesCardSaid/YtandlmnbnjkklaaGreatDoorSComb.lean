/- The program's sweep over the edges of two sets, whatever is kept; and what is told of two sets. -/
import Derived.Test.YtandlmnbnjkklaaGreatDoorSEdge
namespace Go.Proofs.YtandlmnbnjkklaaGreatDoor
open Go.RowKit Go.BigFrame

set_option maxRecDepth 100000 in
set_option maxHeartbeats 8000000 in
theorem combine_any (op : Int) (gk : Nat) (hkeep : ∀ (p q : Bool) (W : World), Calls Tryz.prog gk #[.bool p, .bool q] W fun e w' => e = .returned (.bool (Spn.opB op p q)) ∧ Below W.heap.size W w')
    (eg : ∀ args w, (callFunc gk args).run Tryz.prog w = .ok (.enter gk args) w)
    (la lb : List Spn.Sp) (a b : Option Addr) (ca cb : Nat) (w : World) (hla : la.length ≤ maxLen) (hlb : lb.length ≤ maxLen) (ra : Row2 w a la) (rb : Row2 w b lb) :
    Calls Tryz.prog 50 #[.slice a la.length ca, .slice b lb.length cb, .func (.func gk) #[] #[]] w fun e w' => ∃ v, e = .returned (.tuple #[v, .int .i64 (Spn.code op la lb)]) ∧ OwnS w' w.heap.size v (Spn.ans op la lb) ∧ Below w.heap.size w w' := by
  by_cases h1 : Spn.chk la = 0
  · by_cases h2 : Spn.chk lb = 0
    · have h64a := ((Spn.chk_zero la).1 h1).1
      have h64b := ((Spn.chk_zero lb).1 h2).1
      go_enter Tryz.func50, Tryz.ntmps50
      go_wp2_with fail
      refine (pCheck la a ca w hla ra).mono ?_
      rintro e w1 ⟨rfl, b1⟩
      rw [h1]
      have rb1 := rb.below b1
      go_wp2_with fail
      refine (pCheck lb b cb w1 hlb rb1).mono ?_
      rintro e w2 ⟨rfl, b2⟩
      rw [h2]
      have B2 := below_on b1 (Nat.le_refl _) b2
      have ra2 := ra.below B2
      have rb2 := rb.below B2
      clear b1 b2 rb1
      have bA := (Below.refl w2.heap.size w2).alloc (Nat.le_refl _) (.cells #[.slice a la.length ca, .slice b lb.length cb] 22)
      have HC : Hid (Spn.chk la = 0 ∧ Spn.chk lb = 0) := ⟨h1, h2⟩
      clear h1 h2
      go_wp2_with fail
      refine (edges_any la lb a b ca cb w2.heap.size _ h64a h64b (ra2.below bA) (rb2.below bA) (by simp) (by simp) (by simp)).mono ?_
      rintro e w3 ⟨v3, rfl, own3, b3⟩
      have b3' := below_on bA (Nat.le_refl _) b3
      have B3 := below_on B2 (Nat.le_refl _) b3'
      obtain ⟨ae, ce, hv3, rowE⟩ := own3.row
      subst hv3
      have ra3 := ra.below B3
      have rb3 := rb.below B3
      clear bA b3 b3' B2 own3 ra2 rb2
      have hel : (Spn.ends (la ++ lb)).length ≤ 256 := by
        have := (Spn.ends_all (la ++ lb)).2.2
        rw [List.length_append] at this; omega
      have hst := Spn.At.start la lb op
      have hsk := fun k x y out => @Spn.At.skip la lb op k x y out
      have hpu := fun k x y out => @Spn.At.push la lb op k x y out
      have hdo := fun k out => @Spn.At.done la lb op k out
      have hlt := fun k x y => fun hx hy => (Spn.still_both la lb k x y hx hy).1
      generalize Spn.ends (la ++ lb) = es at hel rowE hst hsk hpu hdo hlt ⊢
      have HA : Hid (_) := And.intro hst (And.intro hsk (And.intro hpu (And.intro hdo hlt)))
      clear hst hsk hpu hdo hlt
      have s3 : w.heap.size ≤ w3.heap.size := B3.size
      go_wp2
      go_loopw [10, 30] (fun v i wr => ∃ (k : Nat) (out : List Spn.Sp), k ≤ es.length ∧ i = .int .i64 k ∧ out.length ≤ k ∧ OwnS wr w3.heap.size v out ∧ Spn.At es (fun n => Spn.opB op (Spn.memB la n) (Spn.memB lb n) = true) (k - 1) out ∧ Below w3.heap.size w3 wr) (fun _ i _ => es.length - (intOf i).toNat)
      case atStart => exact ⟨0, [], Nat.zero_le _, rfl, Nat.le_refl _, OwnS.nil _ _, HA.out.1, Below.refl _ _⟩
      case round =>
        obtain ⟨k, out, hk, rfl, hol, hown, hat, hnx⟩ := hrel
        have HT : Hid (_) := hat
        clear hat
        have hs : w3.heap.size ≤ wr.heap.size := hnx.size
        by_cases hlt : k < es.length
        · have hlt1 : (k : Int) < (es.length : Int) := by omega
          cases k with
          | zero =>
            obtain ⟨be, oe, y, rfl, hbe, hy, cy⟩ := rowE.at (k := 0) hlt
            have dy : wr.cell? ⟨be, oe, none⟩ = some (.int .i64 y) := (hnx.cell (p := ⟨be, oe, none⟩) hbe).trans cy
            clear hy cy
            go_wp2
            go_quiet (fail)
            go_wp2
            go_roundw
            case rel => exact ⟨1, out, by omega, by go_num, by omega, hown, HT.out, below_drewN hnx _⟩
            case measure => simp [intOf]; omega
          | succ k =>
            have hlt2 : (k : Int) < (es.length : Int) := by omega
            have hlt4 : (0 : Int) ≤ (k : Int) := by omega
            have hw1 : IntKind.i64.wrap ((k : Int) + 1 - 1) = (k : Int) := by rw [IntKind.wrap_i64]; omega
            have hk0 : (0 : Int) < (k : Int) + 1 := by omega
            obtain ⟨be, oe, x, rfl, hbe, hx, cx⟩ := rowE.at (k := k) (by omega)
            obtain ⟨be', oe', y, e', _, hy, cy⟩ := rowE.at (k := k + 1) hlt
            obtain ⟨rfl, rfl⟩ : be = be' ∧ oe = oe' := by simpa using e'
            clear e'
            have HXY : Hid (es[k]? = some x ∧ es[k + 1]? = some y ∧ x < y) := ⟨hx, hy, HA.out.2.2.2.2 k x y hx hy⟩
            clear hx hy
            have dx : wr.cell? ⟨be, oe + k, none⟩ = some (.int .i64 x) := (hnx.cell (p := ⟨be, oe + k, none⟩) hbe).trans cx
            have dy : wr.cell? ⟨be, oe + (k + 1), none⟩ = some (.int .i64 y) := (hnx.cell (p := ⟨be, oe + (k + 1), none⟩) hbe).trans cy
            have rar := ra3.below hnx
            have rbr := rb3.below hnx
            have xr := cell_regrown dx
            clear cx cy
            cases hp : Spn.opB op (Spn.memB la x) (Spn.memB lb x) with
            | false =>
              have HN : Hid (Spn.At es (fun n => Spn.opB op (Spn.memB la n) (Spn.memB lb n) = true) (k + 1) out) := HA.out.2.1 k x y out HT.out HXY.out.1 HXY.out.2.1 hp
              go_wp2
              refine wp_region_quiet_below (by kernel_rfl) (by kernel_rfl) ?_
              repeat go_big_quiet_step (first
                | (go_at_call 72; exact Calls.regrown_of (has_any _ _ _ _ _ (by unfold maxLen; omega) (by first | exact rar.below (below_regrown _ _ _) | exact rbr.below (below_regrown _ _ _))))
                | (go_at_fn gk; exact Calls.regrown_of (hkeep _ _ _)))
              refine wpQuiet_nil ?_
              intro _ hw'
              obtain ⟨⟨dq, osq⟩, hw''⟩ := hw'
              subst hw''
              have nxq := below_on hnx (Nat.le_refl _) (below_regrown wr dq osq)
              have owq := hown.still (below_regrown wr dq osq)
              generalize Sort.grow (redrawn wr dq) osq = W at nxq owq ⊢
              rw [hp]
              go_wp2
              go_roundw
              case rel => exact ⟨k + 1 + 1, out, by omega, by go_num, by omega, owq, HN.out, nxq⟩
              case measure => simp [intOf]; omega
            | true =>
              have HN : Hid (Spn.At es (fun n => Spn.opB op (Spn.memB la n) (Spn.memB lb n) = true) (k + 1) (Spn.join out (x, y))) := by
                unfold Hid
                rw [Spn.join_push out x y HXY.out.2.2 (Spn.At.upto HT.out HXY.out.1)]
                exact HA.out.2.2.1 k x y out HT.out HXY.out.1 HXY.out.2.1 hp
              have HPL : Hid ((Spn.join out (x, y)).length ≤ out.length + 1) := Spn.join_len out (x, y)
              go_wp2
              refine wp_region_quiet_below (by kernel_rfl) (by kernel_rfl) ?_
              repeat go_big_quiet_step (first
                | (go_at_call 72; exact Calls.regrown_of (has_any _ _ _ _ _ (by unfold maxLen; omega) (by first | exact rar.below (below_regrown _ _ _) | exact rbr.below (below_regrown _ _ _))))
                | (go_at_fn gk; exact Calls.regrown_of (hkeep _ _ _)))
              refine wpQuiet_nil ?_
              intro _ hw'
              obtain ⟨⟨dq, osq⟩, hw''⟩ := hw'
              subst hw''
              have nxq := below_on hnx (Nat.le_refl _) (below_regrown wr dq osq)
              have owq := hown.still (below_regrown wr dq osq)
              have dxq := xr dq osq
              generalize Sort.grow (redrawn wr dq) osq = W at nxq owq dxq ⊢
              rw [hp]
              clear xr dx dy rar rbr hown hnx
              go_wp2_with fail
              refine (join_any out x y _ w3.heap.size w3 W (by omega) nxq.size owq nxq).mono ?_
              rintro e w5 ⟨v5, rfl, own5, nx5⟩
              go_wp2
              go_roundw
              case rel => exact ⟨k + 1 + 1, _, by omega, by go_num, by have := HPL.out; omega, own5, HN.out, nx5⟩
              case measure => simp [intOf]; omega
        · obtain rfl : k = es.length := by omega
          have hd := HA.out.2.2.2.1 (es.length - 1) out HT.out (by omega)
          obtain rfl : out = Spn.both op la lb := Spn.both_unique op la lb out hd.1 hd.2
          have B5 := below_on B3 (Nat.le_refl _) hnx
          have ow := hown.weak s3
          rcases hown.form with ⟨rfl, h0⟩ | ⟨g, cg, rfl, hg1, hg2⟩
          · have HE : Hid (Spn.code op la lb = 0 ∧ Spn.ans op la lb = Spn.both op la lb) := by
              have e0 : Spn.code op la lb = 0 := by unfold Spn.code; rw [if_pos HC.out.1, if_pos HC.out.2, if_neg (by rw [h0]; simp)]
              exact ⟨e0, by unfold Spn.ans; rw [if_pos e0]⟩
            clear hd h0
            go_wp2
            go_ret2
            exact ⟨_, by rw [HE.out.1] <;> rfl, by rw [HE.out.2]; exact ow, B5⟩
          · by_cases h65 : 64 < (Spn.both op la lb).length
            · have h65' : (64 : Int) < ((Spn.both op la lb).length : Int) := by omega
              have HE : Hid (Spn.code op la lb = 2 ∧ Spn.ans op la lb = []) := by
                have e0 : Spn.code op la lb = 2 := by unfold Spn.code; rw [if_pos HC.out.1, if_pos HC.out.2, if_pos h65]
                exact ⟨e0, by unfold Spn.ans; rw [if_neg (by rw [e0]; decide)]⟩
              clear hd
              go_wp2
              go_ret2
              exact ⟨_, by rw [HE.out.1] <;> rfl, by rw [HE.out.2]; exact OwnS.nil _ _, B5⟩
            · have h65' : ¬ (64 : Int) < ((Spn.both op la lb).length : Int) := by omega
              have HE : Hid (Spn.code op la lb = 0 ∧ Spn.ans op la lb = Spn.both op la lb) := by
                have e0 : Spn.code op la lb = 0 := by unfold Spn.code; rw [if_pos HC.out.1, if_pos HC.out.2, if_neg h65]
                exact ⟨e0, by unfold Spn.ans; rw [if_pos e0]⟩
              clear hd
              go_wp2
              go_ret2
              exact ⟨_, by rw [HE.out.1] <;> rfl, by rw [HE.out.2]; exact ow, B5⟩
    · have hne : (Spn.chk lb != 0) = true := by simpa using h2
      have HE : Hid (Spn.code op la lb = Spn.chk lb ∧ Spn.ans op la lb = []) := by
        have e0 : Spn.code op la lb = Spn.chk lb := by unfold Spn.code; rw [if_pos h1, if_neg h2]
        exact ⟨e0, by unfold Spn.ans; rw [if_neg (by rw [e0]; exact h2)]⟩
      go_enter Tryz.func50, Tryz.ntmps50
      go_wp2_with fail
      refine (pCheck la a ca w hla ra).mono ?_
      rintro e w1 ⟨rfl, b1⟩
      rw [h1]
      have rb1 := rb.below b1
      go_wp2_with fail
      refine (pCheck lb b cb w1 hlb rb1).mono ?_
      rintro e w2 ⟨rfl, b2⟩
      have B2 := below_on b1 (Nat.le_refl _) b2
      clear h1 h2
      go_wp2
      go_ret2
      exact ⟨_, by rw [HE.out.1] <;> rfl, by rw [HE.out.2]; exact OwnS.nil _ _, B2⟩
  · have hne : (Spn.chk la != 0) = true := by simpa using h1
    have HE : Hid (Spn.code op la lb = Spn.chk la ∧ Spn.ans op la lb = []) := by
      have e0 : Spn.code op la lb = Spn.chk la := by unfold Spn.code; rw [if_neg h1]
      exact ⟨e0, by unfold Spn.ans; rw [if_neg (by rw [e0]; exact h1)]⟩
    go_enter Tryz.func50, Tryz.ntmps50
    go_wp2_with fail
    refine (pCheck la a ca w hla ra).mono ?_
    rintro e w1 ⟨rfl, b1⟩
    clear h1
    go_wp2
    go_ret2
    exact ⟨_, by rw [HE.out.1] <;> rfl, by rw [HE.out.2]; exact OwnS.nil _ _, b1⟩
theorem keepUnion (p q : Bool) (W : World) : Calls Tryz.prog 51 #[.bool p, .bool q] W fun e w' => e = .returned (.bool (Spn.opB 0 p q)) ∧ Below W.heap.size W w' := by
  cases p <;> cases q
  all_goals
    go_enter Tryz.func51, Tryz.ntmps51
    go_wp2
    go_ret
    exact ⟨rfl, Below.refl _ _⟩
set_option maxHeartbeats 400000 in
theorem pUnion (la lb : List Spn.Sp) (a b : Option Addr) (ca cb : Nat) (w : World) (hla : la.length ≤ maxLen) (hlb : lb.length ≤ maxLen) (_hna : a = none → ca = 0 ∧ la = []) (_hnb : b = none → cb = 0 ∧ lb = []) (ra : Row2 w a la) (rb : Row2 w b lb) :
    Calls Tryz.prog 21 #[.slice a la.length ca, .slice b lb.length cb] w fun e w' => ∃ v, e = .returned (.tuple #[v, .int .i64 (Spn.code 0 la lb)]) ∧ OwnS w' w.heap.size v (Spn.ans 0 la lb) ∧ Below w.heap.size w w' := by
  go_enter Tryz.func21, Tryz.ntmps21
  go_wp2_with fail
  refine (combine_any 0 51 keepUnion (enters_of Tryz.func51 (by kernel_rfl) rfl) la lb a b ca cb w hla hlb ra rb).mono ?_
  rintro e w1 ⟨v, rfl, o, b⟩
  go_wp2
  go_ret2
  exact ⟨v, rfl, o, b⟩
theorem keepMeet (p q : Bool) (W : World) : Calls Tryz.prog 52 #[.bool p, .bool q] W fun e w' => e = .returned (.bool (Spn.opB 1 p q)) ∧ Below W.heap.size W w' := by
  cases p <;> cases q
  all_goals
    go_enter Tryz.func52, Tryz.ntmps52
    go_wp2
    go_ret
    exact ⟨rfl, Below.refl _ _⟩
set_option maxHeartbeats 400000 in
theorem pMeet (la lb : List Spn.Sp) (a b : Option Addr) (ca cb : Nat) (w : World) (hla : la.length ≤ maxLen) (hlb : lb.length ≤ maxLen) (_hna : a = none → ca = 0 ∧ la = []) (_hnb : b = none → cb = 0 ∧ lb = []) (ra : Row2 w a la) (rb : Row2 w b lb) :
    Calls Tryz.prog 22 #[.slice a la.length ca, .slice b lb.length cb] w fun e w' => ∃ v, e = .returned (.tuple #[v, .int .i64 (Spn.code 1 la lb)]) ∧ OwnS w' w.heap.size v (Spn.ans 1 la lb) ∧ Below w.heap.size w w' := by
  go_enter Tryz.func22, Tryz.ntmps22
  go_wp2_with fail
  refine (combine_any 1 52 keepMeet (enters_of Tryz.func52 (by kernel_rfl) rfl) la lb a b ca cb w hla hlb ra rb).mono ?_
  rintro e w1 ⟨v, rfl, o, b⟩
  go_wp2
  go_ret2
  exact ⟨v, rfl, o, b⟩
theorem keepMinus (p q : Bool) (W : World) : Calls Tryz.prog 54 #[.bool p, .bool q] W fun e w' => e = .returned (.bool (Spn.opB 2 p q)) ∧ Below W.heap.size W w' := by
  cases p <;> cases q
  all_goals
    go_enter Tryz.func54, Tryz.ntmps54
    go_wp2
    go_ret
    exact ⟨rfl, Below.refl _ _⟩
set_option maxHeartbeats 400000 in
theorem pMinus (la lb : List Spn.Sp) (a b : Option Addr) (ca cb : Nat) (w : World) (hla : la.length ≤ maxLen) (hlb : lb.length ≤ maxLen) (_hna : a = none → ca = 0 ∧ la = []) (_hnb : b = none → cb = 0 ∧ lb = []) (ra : Row2 w a la) (rb : Row2 w b lb) :
    Calls Tryz.prog 24 #[.slice a la.length ca, .slice b lb.length cb] w fun e w' => ∃ v, e = .returned (.tuple #[v, .int .i64 (Spn.code 2 la lb)]) ∧ OwnS w' w.heap.size v (Spn.ans 2 la lb) ∧ Below w.heap.size w w' := by
  go_enter Tryz.func24, Tryz.ntmps24
  go_wp2_with fail
  refine (combine_any 2 54 keepMinus (enters_of Tryz.func54 (by kernel_rfl) rfl) la lb a b ca cb w hla hlb ra rb).mono ?_
  rintro e w1 ⟨v, rfl, o, b⟩
  go_wp2
  go_ret2
  exact ⟨v, rfl, o, b⟩
end Go.Proofs.YtandlmnbnjkklaaGreatDoor
