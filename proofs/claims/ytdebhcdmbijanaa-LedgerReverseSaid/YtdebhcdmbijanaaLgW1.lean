/- The document's words on lines and postings: are two the same; the look over a posting. -/
import Derived.Test.YtdebhcdmbijanaaLgRow
import Derived.Deep.QuietTactic
import Derived.BigQuiet
namespace Go.Proofs.Ytdebhcdmbijanaa
open Go.RowKit

theorem ext_takeL (l r : List Lg.Ln) (h : l.length = r.length) (k : Nat) (hk : l.length ≤ k) (e : l.take k = r.take k) : l = r := by
  rw [List.take_of_length_le hk, List.take_of_length_le (by omega)] at e; exact e
set_option maxHeartbeats 1000000 in
theorem sameLines_any (l r : List Lg.Ln) (a a' : Option Addr) (cap cap' : Nat) (w : World) (hl : l.length ≤ maxLen) (hl' : r.length ≤ maxLen) (hr : RowL w a l) (hr' : RowL w a' r) :
    Calls Try.prog 25 #[.slice a l.length cap, .slice a' r.length cap'] w fun e w' => e = .returned (.bool (decide (l = r))) ∧ ∃ m, w' = w.drewN m := by
  unfold maxLen at hl hl'
  by_cases hlen : l.length = r.length
  · have HL : Hid (l.length = r.length) := hlen
    go_enter Try.func25, Try.ntmps25
    rw [← hlen]
    clear hlen
    go_wp2
    go_loopw [5] (fun i wr => ∃ k : Nat, k ≤ l.length ∧ i = .int .i64 k ∧ l.take k = r.take k ∧ ∃ m, wr = w.drewN m) (fun i _ => l.length - (intOf i).toNat)
    case atStart => exact ⟨0, Nat.zero_le _, rfl, rfl, 0, rfl⟩
    case round =>
      obtain ⟨k, hk, rfl, hm, m, rfl⟩ := hrel
      have HM : Hid (l.take k = r.take k) := hm
      clear hm
      by_cases hlt : k < l.length
      · have hlt' : (k : Int) < (l.length : Int) := by omega
        obtain ⟨b, off, x, y, rfl, hx, c1, c2⟩ := hr.at hlt
        obtain ⟨b', off', x', y', rfl, hx', c1', c2'⟩ := hr'.at (k := k) (by have := HL.out; omega)
        have HX : Hid (l[k]? = some (x, y) ∧ r[k]? = some (x', y')) := ⟨hx, hx'⟩
        clear hx hx'
        by_cases e1 : x = x'
        · by_cases e2 : y = y'
          · subst e1 e2
            have HE : Hid (l.take (k + 1) = r.take (k + 1)) := by
              unfold Hid; rw [Lg.take_snoc l k (x, y) HX.out.1, Lg.take_snoc r k (x, y) HX.out.2, HM.out]
            go_wp2
            go_quiet (fail)
            go_wp2
            go_roundw
            case rel => exact ⟨k + 1, by omega, by go_num, HE.out, _, by first | rfl | simp only [World.drewN_drewN]⟩
            case measure => simp [intOf]; omega
          · subst e1
            have HE : Hid (decide (l = r) = false) := by
              unfold Hid
              simp only [decide_eq_false_iff_not]
              rintro rfl
              have := HX.out.1.symm.trans HX.out.2
              simp at this
              exact e2 this
            go_wp2
            go_quiet (fail)
            go_wp2
            go_ret
            refine ⟨ret_bool HE.out.symm, ?_⟩
            first | exact ⟨_, rfl⟩ | (rw [World.drewN_drewN]; exact ⟨_, rfl⟩)
        · have HE : Hid (decide (l = r) = false) := by
            unfold Hid
            simp only [decide_eq_false_iff_not]
            rintro rfl
            have := HX.out.1.symm.trans HX.out.2
            simp at this
            exact e1 this.1
          go_wp2
          go_quiet (fail)
          go_wp2
          go_ret
          refine ⟨ret_bool HE.out.symm, ?_⟩
          first | exact ⟨_, rfl⟩ | (rw [World.drewN_drewN]; exact ⟨_, rfl⟩)
      · go_wp2
        go_ret
        exact ⟨ret_bool (by simpa using ext_takeL l r HL.out k (by omega) HM.out), m, rfl⟩
  · have HE : Hid (decide (l = r) = false) := by
      unfold Hid
      simp only [decide_eq_false_iff_not]
      rintro rfl
      exact hlen rfl
    have hne : ((l.length : Int) != (r.length : Int)) = true := by simp; omega
    go_enter Try.func25, Try.ntmps25
    go_wp2
    go_ret
    exact ⟨ret_bool HE.out.symm, 0, rfl⟩
theorem sameLines_at (l r : List Lg.Ln) (a a' : Option Addr) (n n' cap cap' : Nat) (b : Bool) (w : World) (hn : l.length = n) (hn' : r.length = n') (hl : l.length ≤ maxLen) (hl' : r.length ≤ maxLen) (hb : decide (l = r) = b) (hr : RowL w a l) (hr' : RowL w a' r) :
    Calls Try.prog 25 #[.slice a n cap, .slice a' n' cap'] w fun e w' => e = .returned (.bool b) ∧ ∃ m, w' = w.drewN m := by
  subst hn hn' hb; exact sameLines_any l r a a' cap cap' w hl hl' hr hr'
theorem noAmt_any (n : Int) (b : Bool) (w : World) (hb : Lg.far n = b) :
    Calls Try.prog 34 #[.int .i64 n] w fun e w' => e = .returned (.bool b) ∧ w' = w := by
  subst hb
  by_cases h1 : n < -1099511627776
  · have e : Lg.far n = true := decide_eq_true (.inl h1)
    rw [e]; clear e
    go_enter Try.func34, Try.ntmps34
    go_wp2
    go_ret
    exact ⟨rfl, rfl⟩
  · have h1' : decide (n < -1099511627776) = false := decide_eq_false h1
    by_cases h2 : 1099511627776 < n
    · have e : Lg.far n = true := decide_eq_true (.inr h2)
      rw [e]; clear e
      go_enter Try.func34, Try.ntmps34
      go_wp2
      go_ret
      exact ⟨rfl, rfl⟩
    · have e : Lg.far n = false := decide_eq_false (by omega)
      have h2' : decide (1099511627776 < n) = false := decide_eq_false h2
      rw [e]; clear e
      go_enter Try.func34, Try.ntmps34
      go_wp2
      go_ret
      exact ⟨rfl, rfl⟩
namespace Lg
theorem sum_take (l : List Ln) (k : Nat) (x : Ln) (h : l[k]? = some x) : sum (l.take (k + 1)) = sum (l.take k) + x.2 := by
  rw [take_snoc l k x h]; unfold sum; rw [List.map_append, List.sum_append]; simp
theorem sum_bd (l : List Ln) : (∀ x ∈ l, -1099511627776 ≤ x.2 ∧ x.2 ≤ 1099511627776) → -(l.length * 1099511627776) ≤ sum l ∧ sum l ≤ l.length * 1099511627776 := by
  induction l with
  | nil => intro _; unfold sum; simp
  | cons x l ih =>
    intro h
    have h1 := ih (fun y hy => h y (.tail _ hy))
    have h2 := h x (.head _)
    unfold sum at *
    rw [List.map_cons, List.sum_cons, List.length_cons]
    omega
end Lg
set_option maxRecDepth 100000 in
set_option maxHeartbeats 4000000 in
theorem postingCheck_any (id : Int) (ls : List Lg.Ln) (a : Option Addr) (cap : Nat) (w : World) (hl : ls.length ≤ maxLen) (hr : RowL w a ls) :
    Calls Try.prog 24 #[.agg #[.int .i64 id, .slice a ls.length cap]] w fun e w' => e = .returned (.int .i64 (Lg.pchk (id, ls))) ∧ Below w.heap.size w w' := by
  unfold maxLen at hl
  have B0 : Hid (Below w.heap.size w (w.alloc (.cells #[.int .i64 id, .slice a ls.length cap] 25))) := below_box w _
  have R : Hid (RowL (w.alloc (.cells #[.int .i64 id, .slice a ls.length cap] 25)) a ls) := hr.below B0.out
  clear hr
  by_cases h1 : id < 1
  · have HE : Hid (Lg.pchk (id, ls) = 3) := by show _ = _; unfold Lg.pchk; rw [if_pos h1]
    rw [HE.out]
    go_enter Try.func24, Try.ntmps24
    go_wp2
    go_ret
    exact ⟨rfl, B0.out⟩
  · have h1' : decide (id < 1) = false := decide_eq_false h1
    by_cases h2 : ls.length < 2
    · have HE : Hid (Lg.pchk (id, ls) = 1) := by show _ = _; unfold Lg.pchk; rw [if_neg h1, if_pos h2]
      rw [HE.out]
      have h2' : (ls.length : Int) < 2 := by omega
      go_enter Try.func24, Try.ntmps24
      go_wp2
      go_ret
      exact ⟨rfl, B0.out⟩
    · by_cases h3 : 6 < ls.length
      · have HE : Hid (Lg.pchk (id, ls) = 2) := by show _ = _; unfold Lg.pchk; rw [if_neg h1, if_neg h2, if_pos h3]
        rw [HE.out]
        have h2' : ¬ (ls.length : Int) < 2 := by omega
        have h3' : (6 : Int) < (ls.length : Int) := by omega
        go_enter Try.func24, Try.ntmps24
        go_wp2
        go_ret
        exact ⟨rfl, B0.out⟩
      · have HE : Hid (Lg.pchk (id, ls) = Lg.lat ls 0) := by show _ = _; unfold Lg.pchk; rw [if_neg h1, if_neg h2, if_neg h3]; rfl
        rw [HE.out]
        have h2' : ¬ (ls.length : Int) < 2 := by omega
        have h3' : ¬ (6 : Int) < (ls.length : Int) := by omega
        have h6 : ls.length ≤ 6 := by omega
        obtain ⟨n, hn⟩ : ∃ n, ls.length = n := ⟨_, rfl⟩
        have HN : Hid (ls.length = n) := hn
        have d0 : (w.alloc (.cells #[.int .i64 id, .slice a ls.length cap] 25)).cell? ⟨w.heap.size, 0, none⟩ = some (.int .i64 id) := by simp
        have d1 : (w.alloc (.cells #[.int .i64 id, .slice a ls.length cap] 25)).cell? ⟨w.heap.size, 1, none⟩ = some (.slice a ls.length cap) := by simp
        rw [hn] at d0 d1 R B0 h2' h3' h6 ⊢
        clear hn h2 h3 hl HE
        go_enter Try.func24, Try.ntmps24
        go_wp2
        generalize (w.alloc (.cells #[.int .i64 id, .slice a n cap] 25)) = W at *
        generalize hbx : w.heap.size = bx at *
        have HBX : Hid (w.heap.size = bx) := hbx
        clear hbx
        go_loopw [4, 5] (fun sv iv wr => ∃ k : Nat, k ≤ n ∧ iv = .int .i64 k ∧ sv = .int .i64 (Lg.sum (ls.take k)) ∧ (∀ x ∈ ls.take k, -1099511627776 ≤ x.2 ∧ x.2 ≤ 1099511627776) ∧ Lg.lat ls 0 = Lg.lat ls k ∧ ∃ m, wr = W.drewN m) (fun _ iv _ => n - (intOf iv).toNat)
        case atStart => exact ⟨0, Nat.zero_le _, rfl, rfl, fun x hx => by simp at hx, rfl, 0, rfl⟩
        case round =>
          obtain ⟨k, hk, rfl, rfl, hbd, hlat, m, rfl⟩ := hrel
          have HLA : Hid (Lg.lat ls 0 = Lg.lat ls k) := hlat
          have HBD : Hid (∀ x ∈ ls.take k, -1099511627776 ≤ x.2 ∧ x.2 ≤ 1099511627776) := hbd
          have hsb := Lg.sum_bd _ hbd
          rw [List.length_take] at hsb
          clear hlat hbd
          by_cases hlt : k < n
          · have hlt' : (k : Int) < (n : Int) := by omega
            obtain ⟨b, off, p, q, rfl, hx, c1, c2⟩ := R.out.at (k := k) (by rw [HN.out]; exact hlt)
            have HX : Hid (ls[k]? = some (p, q)) := hx
            have HS : Hid (_) := Lg.lat_step ls k (p, q) hx
            clear hx
            by_cases p1 : p < 1
            · have HE : Hid (Lg.lat ls 0 = 7) := by
                have e : Lg.ln (ls.take k) (p, q) = 7 := by unfold Lg.ln; rw [if_pos (.inl p1)]
                show _ = _; rw [HLA.out, HS.out, e]; rfl
              go_wp2
              go_ret
              have hbx := HBX.out
              subst hbx
              exact ⟨ret_int HE.out.symm, below_drewN B0.out _⟩
            · have p1' : decide (p < 1) = false := decide_eq_false p1
              by_cases p2 : 5 < p
              · have HE : Hid (Lg.lat ls 0 = 7) := by
                  have e : Lg.ln (ls.take k) (p, q) = 7 := by unfold Lg.ln; rw [if_pos (.inr p2)]
                  show _ = _; rw [HLA.out, HS.out, e]; rfl
                go_wp2
                go_ret
                have hbx := HBX.out
                subst hbx
                exact ⟨ret_int HE.out.symm, below_drewN B0.out _⟩
              · have p2' : decide (5 < p) = false := decide_eq_false p2
                cases hfar : Lg.far q with
                | true =>
                  have HE : Hid (Lg.lat ls 0 = 3) := by
                    have e : Lg.ln (ls.take k) (p, q) = 3 := by unfold Lg.ln; rw [if_neg (by simp only; omega), if_pos (.inl hfar)]
                    show _ = _; rw [HLA.out, HS.out, e]; rfl
                  go_wp2_with (go_at_call 34; refine (noAmt_any _ _ _ hfar).mono ?_; rintro e w1 ⟨rfl, rfl⟩)
                  go_ret
                  have hbx := HBX.out
                  subst hbx
                  exact ⟨ret_int HE.out.symm, below_drewN B0.out _⟩
                | false =>
                  have HFR : Hid (Lg.far q = false) := hfar
                  have hqb := (Lg.far_iff q).1 hfar
                  by_cases q0 : q = 0
                  · have HE : Hid (Lg.lat ls 0 = 3) := by
                      have e : Lg.ln (ls.take k) (p, q) = 3 := by unfold Lg.ln; rw [if_neg (by simp only; omega), if_pos (.inr q0)]
                      show _ = _; rw [HLA.out, HS.out, e]; rfl
                    have q0b : (q == 0) = true := by simpa using q0
                    clear q0
                    go_wp2_with (go_at_call 34; refine (noAmt_any _ _ _ HFR.out).mono ?_; rintro e w1 ⟨rfl, rfl⟩)
                    go_ret
                    have hbx := HBX.out
                    subst hbx
                    exact ⟨ret_int HE.out.symm, below_drewN B0.out _⟩
                  · have q0b : (q == 0) = false := by simpa using q0
                    have HLN : Hid (∀ b, Lg.hasA (ls.take k) p = b → Lg.ln (ls.take k) (p, q) = if b = true then 6 else 0) := by
                      rintro b rfl
                      unfold Lg.ln
                      rw [if_neg (by simp only; omega), if_neg (by rw [HFR.out]; simp only; intro h; rcases h with h | h; exact absurd h (by decide); exact q0 h)]
                    obtain ⟨s0, hs0⟩ : ∃ s0, Lg.sum (ls.take k) = s0 := ⟨_, rfl⟩
                    have HS0 : Hid (Lg.sum (ls.take k) = s0) := hs0
                    rw [hs0] at hsb ⊢
                    have s1 := hsb.1
                    have s2 := hsb.2
                    rw [HN.out, Nat.min_eq_left hk] at s1 s2
                    have q1 := hqb.1
                    have q2 := hqb.2
                    clear hs0 hsb hqb hfar q0 p1 p2
                    go_wp2_with (go_at_call 34; refine (noAmt_any _ _ _ HFR.out).mono ?_; rintro e w1 ⟨rfl, rfl⟩)
                    go_loopw [6] (fun jv wr => ∃ j : Nat, j ≤ k ∧ jv = .int .i64 j ∧ Lg.hasA (ls.take j) p = false ∧ ∃ m, wr = W.drewN m) (fun jv _ => k - (intOf jv).toNat)
                    case atStart => exact ⟨0, Nat.zero_le _, rfl, rfl, m, rfl⟩
                    case round =>
                      obtain ⟨j, hj, rfl, hno, m2, rfl⟩ := hrel
                      have HNO : Hid (Lg.hasA (ls.take j) p = false) := hno
                      clear hno
                      by_cases hjk : j < k
                      · have hjk' : (j : Int) < (k : Int) := by omega
                        have hjn : (j : Int) < (n : Int) := by omega
                        obtain ⟨b', off', p', q', e', hx2, d2, -⟩ := R.out.at (k := j) (by rw [HN.out]; omega)
                        obtain ⟨rfl, rfl⟩ : b = b' ∧ off = off' := by simpa using e'
                        have HX2 : Hid (ls[j]? = some (p', q')) := hx2
                        clear hx2 e'
                        by_cases hpp : p' = p
                        · have HE : Hid (Lg.lat ls 0 = 6) := by
                            have hh : Lg.hasA (ls.take k) p = true := (Lg.hasA_mem _ _).2 ⟨(p', q'), List.mem_of_getElem? (i := j) (by rw [List.getElem?_take_of_lt hjk]; exact HX2.out), hpp⟩
                            have e := HLN.out true hh
                            show _ = _; rw [HLA.out, HS.out, e]; rfl
                          have hppb : (p' == p) = true := by simpa using hpp
                          clear hpp
                          go_wp2
                          go_quiet (fail)
                          go_wp2
                          go_ret
                          have hbx := HBX.out
                          subst hbx
                          exact ⟨ret_int HE.out.symm, by first | exact below_drewN B0.out _ | exact below_drewN (below_drewN B0.out _) _⟩
                        · have HN2 : Hid (Lg.hasA (ls.take (j + 1)) p = false) := by
                            show _ = _; rw [Lg.hasA_take ls j _ HX2.out, HNO.out, decide_eq_false hpp]; rfl
                          have hppb : (p' == p) = false := by simpa using hpp
                          clear hpp
                          go_wp2
                          go_quiet (fail)
                          go_wp2
                          go_roundw
                          case rel => exact ⟨j + 1, by omega, by go_num, HN2.out, _, by first | rfl | simp only [World.drewN_drewN]⟩
                          case measure => simp [intOf]; omega
                      · obtain rfl : j = k := by omega
                        have HE : Hid (Lg.lat ls 0 = Lg.lat ls (j + 1)) := by
                          have e := HLN.out false HNO.out
                          show _ = _; rw [HLA.out, HS.out, e]; rfl
                        have HSU : Hid (Lg.sum (ls.take (j + 1)) = s0 + q) := by show _ = _; rw [Lg.sum_take ls j _ HX.out, HS0.out]
                        have HBD2 : Hid (∀ x ∈ ls.take (j + 1), -1099511627776 ≤ x.2 ∧ x.2 ≤ 1099511627776) := by
                          intro x hx
                          rw [Lg.take_snoc ls j _ HX.out] at hx
                          rcases List.mem_append.1 hx with hx | hx
                          · exact HBD.out x hx
                          · rw [List.mem_singleton] at hx; subst hx; exact ⟨q1, q2⟩
                        go_wp2
                        go_roundw
                        case rel => exact ⟨j + 1, by omega, by go_num, by rw [HSU.out], HBD2.out, HE.out, _, rfl⟩
                        case measure => simp [intOf]; omega
          · obtain rfl : k = n := by omega
            have HTK : Hid (ls.take k = ls) := by show _ = _; rw [List.take_of_length_le (by rw [HN.out]; exact Nat.le_refl _)]
            have HE : Hid (Lg.lat ls 0 = if Lg.sum ls = 0 then 0 else 4) := by
              have := Lg.lat_end ls
              rw [HN.out] at this
              show _ = _; rw [HLA.out, this]
            rw [HTK.out]
            by_cases hs0 : Lg.sum ls = 0
            · have HE2 : Hid (Lg.lat ls 0 = 0) := by show _ = _; rw [HE.out, if_pos hs0]
              rw [hs0]
              clear hs0 hsb
              go_wp2
              go_ret
              have hbx := HBX.out
              subst hbx
              exact ⟨ret_int HE2.out.symm, below_drewN B0.out _⟩
            · have HE2 : Hid (Lg.lat ls 0 = 4) := by show _ = _; rw [HE.out, if_neg hs0]
              have hsb2 : (Lg.sum ls != 0) = true := by simpa using hs0
              generalize Lg.sum ls = sm at *
              clear hs0 hsb
              go_wp2
              go_ret
              have hbx := HBX.out
              subst hbx
              exact ⟨ret_int HE2.out.symm, below_drewN B0.out _⟩
end Go.Proofs.Ytdebhcdmbijanaa
