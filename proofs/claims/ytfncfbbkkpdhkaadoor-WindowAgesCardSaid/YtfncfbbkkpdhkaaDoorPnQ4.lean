/- The program's persons: how old somebody is on a day. -/
import Derived.Test.YtfncfbbkkpdhkaaDoorPnQ3
namespace Go.Proofs.YtfncfbbkkpdhkaaDoor
open Go.RowKit

namespace Prs
/-- the next age is turned too late for the day -/
def late (s n : Int) (i : Nat) : Bool := decide (tns s (i + 1) = 0 ∨ n < tns s (i + 1))
/-- where the search ends -/
theorem search_age {s n y m d a : Int} (hd : Cal.vld y m d) (hn : Cal.num y m d = s) (ha : Age y m d n a) :
    ∃ K : Nat, K ≤ 151 ∧ (∀ t, t < K → late s n t = false) ∧ (∀ t, K ≤ t → t < 151 → late s n t = true) ∧ ((a ≤ 150 ∧ a = K) ∨ (150 < a ∧ K = 151)) := by
  have ha0 := ha.a0
  have hno : ∀ t : Nat, (t : Int) < a → late s n t = false := by
    intro t ht
    obtain ⟨h1, h2, -⟩ := tn_mono y m d ((t : Int) + 1) y m d a hd hd (by omega) (by omega) (Int.le_refl _) ha.ne
    have h3 := ha.le
    unfold late
    rw [tns_is hd hn, decide_eq_false_iff_not]
    omega
  have hyes : ∀ t : Nat, a ≤ (t : Int) → late s n t = true := by
    intro t ht
    unfold late
    rw [tns_is hd hn, decide_eq_true_iff]
    by_cases c : tn y m d ((t : Int) + 1) = 0
    · exact .inl c
    · obtain ⟨h1, h2, -⟩ := tn_mono y m d (a + 1) y m d ((t : Int) + 1) hd hd (by omega) (by omega) (Int.le_refl _) c
      rcases ha.more with q | q
      · exact absurd q h1
      · exact .inr (by omega)
  by_cases c : a ≤ 150
  · exact ⟨a.toNat, by omega, fun t ht => hno t (by omega), fun t ht _ => hyes t (by omega), .inl ⟨c, by omega⟩⟩
  · exact ⟨151, by omega, fun t ht => hno t (by omega), fun t ht h => absurd h (by omega), .inr ⟨by omega, rfl⟩⟩
end Prs
set_option maxHeartbeats 1000000 in
/-- sort.Search over a closure whose answers do not fall back: the first place where it says yes, or the end. -/
theorem qsearch_any (g : Nat) (cb : Array Value) (n K : Nat) (p : Nat → Bool) (w : World) (hsz : n ≤ 100000)
    (eg : ∀ args w, (callFunc g args).run Tryd.prog w = .ok (.enter g args) w)
    (hf : ∀ (wr : World) (i : Nat), Below w.heap.size w wr → i < n → Calls Tryd.prog g (#[.int .i64 i] ++ cb) wr fun e w' => e = .returned (.bool (p i)) ∧ Below wr.heap.size wr w')
    (hK : K ≤ n) (h1 : ∀ t, t < K → p t = false) (h2 : ∀ t, K ≤ t → t < n → p t = true) :
    Calls Tryd.prog 17 #[.int .i64 n, .func (.func g) #[] cb] w fun e w' => e = .returned (.int .i64 (K : Nat)) ∧ Below w.heap.size w w' := by
  have HF : Hid (_) := hf
  have H1 : Hid (_) := h1
  have H2 : Hid (_) := h2
  clear hf h1 h2
  go_enter Tryd.func17, Tryd.ntmps17
  go_wp2
  go_loopg [5, 6] n (fun kx s5 s6 wr => ∃ (lo hi : Nat), s5 = .int .i64 lo ∧ s6 = .int .i64 hi ∧ lo ≤ K ∧ K ≤ hi ∧ hi ≤ n ∧ hi - lo ≤ kx ∧ Hid (Below w.heap.size w wr))
  case atStart => exact ⟨0, n, rfl, rfl, Nat.zero_le _, hK, Nat.le_refl _, by omega, Below.refl _ _⟩
  case round =>
    obtain ⟨lo, hi, rfl, rfl, hl, hh, hin, hg, HB⟩ := hrel
    by_cases hlt : lo < hi
    · have hc := HF.out wr ((lo + hi) / 2) HB.out (by omega)
      rw [show (((lo + hi) / 2 : Nat) : Int) = ((lo : Int) + (hi : Int)) / 2 by omega] at hc
      cases hp : p ((lo + hi) / 2) <;> rw [hp] at hc
      · have hk : (lo + hi) / 2 < K := by
          by_cases c : (lo + hi) / 2 < K
          · exact c
          · have := H2.out ((lo + hi) / 2) (by omega) (by omega); rw [hp] at this; cases this
        clear hp
        go_wp2_with (go_at_fn g; refine hc.mono ?_; rintro e w' ⟨rfl, b'⟩)
        have HB' : Hid (_) := below_on HB.out (Nat.le_refl _) b'
        clear b'
        go_roundg (hi - ((lo + hi) / 2 + 1))
        case measure => omega
        case rel =>
          exact ⟨(lo + hi) / 2 + 1, hi, by rw [show ((lo : Int) + (hi : Int)) / 2 + 1 = (((lo + hi) / 2 + 1 : Nat) : Int) by omega], rfl, by omega, hh, hin, Nat.le_refl _, HB'⟩
      · have hk : K ≤ (lo + hi) / 2 := by
          by_cases c : (lo + hi) / 2 < K
          · have := H1.out ((lo + hi) / 2) c; rw [hp] at this; cases this
          · omega
        clear hp
        go_wp2_with (go_at_fn g; refine hc.mono ?_; rintro e w' ⟨rfl, b'⟩)
        have HB' : Hid (_) := below_on HB.out (Nat.le_refl _) b'
        clear b'
        go_roundg ((lo + hi) / 2 - lo)
        case measure => omega
        case rel =>
          exact ⟨lo, (lo + hi) / 2, rfl, by rw [show ((lo : Int) + (hi : Int)) / 2 = (((lo + hi) / 2 : Nat) : Int) by omega], hl, hk, by omega, Nat.le_refl _, HB'⟩
    · obtain rfl : lo = K := by omega
      go_wp2
      go_ret
      exact ⟨rfl, HB.out⟩
/-- the two boxes that the search's closure reads -/
structure ABox (W : World) (b : Nat) (s n : Int) : Prop where
  lt : b + 1 < W.heap.size
  c0 : W.cell? ⟨b, 0, none⟩ = some (.int .i64 s)
  c1 : W.cell? ⟨b + 1, 0, none⟩ = some (.int .i64 n)
theorem ABox.below {W W' : World} {b : Nat} {s n : Int} (h : ABox W b s n) (hb : Below W.heap.size W W') : ABox W' b s n := by
  obtain ⟨hc, _⟩ := bcell hb
  have := h.lt
  exact ⟨Nat.lt_of_lt_of_le h.lt hb.size, (hc b 0 (by omega)).trans h.c0, (hc (b + 1) 0 h.lt).trans h.c1⟩
theorem ABox.new (w : World) (s n : Int) (t t' : TypeId) : ABox ((w.alloc (.cells #[.int .i64 s] t)).alloc (.cells #[.int .i64 n] t')) w.heap.size s n := by
  have h0 : ((w.alloc (.cells #[.int .i64 s] t)).alloc (.cells #[.int .i64 n] t')).cell? ⟨(w.alloc (.cells #[.int .i64 s] t)).heap.size, 0, none⟩ = some (.int .i64 n) := by simp
  rw [World.size_alloc] at h0
  exact ⟨by simp, (World.cell?_alloc_past _ _ _ (by simp)).trans (by simp), h0⟩
set_option maxHeartbeats 400000 in
theorem age_closure (s n : Int) (b i : Nat) (W : World) (hw : Laid W) (hb : ABox W b s n) (hs : ¬ Prs.bad s) (hi : i < 151) :
    Calls Tryd.prog 18 #[.int .i64 i, .pointer (some ⟨b, 0, none⟩), .pointer (some ⟨b + 1, 0, none⟩)] W fun e w' => e = .returned (.bool (Prs.late s n i)) ∧ Below W.heap.size W w' := by
  obtain ⟨x, hx⟩ : ∃ x, Prs.tns s (i + 1) = x := ⟨_, rfl⟩
  have HE : Hid (Prs.late s n i = decide (x = 0 ∨ n < x)) := by unfold Hid Prs.late; rw [hx]
  have HX : Hid (Prs.tns s (i + 1) = x) := hx
  have HW : Hid (Laid W) := hw
  have HB : Hid (ABox W b s n) := hb
  have HS : Hid (¬ Prs.bad s) := hs
  have h1 := hb.c0
  have h2 := hb.c1
  clear hx hw hb hs
  by_cases h0 : x = 0
  · have HX0 : Hid (x = 0) := h0
    have HC : Hid (Trm.over x = 8) := by show _ = _; rw [h0]; rfl
    clear h0
    go_enter Tryd.func18, Tryd.ntmps18
    go_wp2_with fail
    refine (turned_is s (i + 1) x 8 W HW.out HS.out (by omega) (by omega) HX.out HC.out).mono ?_; rintro e w2 ⟨rfl, b2⟩
    have B2 : Hid (_) := b2
    clear b2 h1 h2
    go_wp2
    go_ret
    exact ⟨ret_bool (by rw [HE.out]; simp [HX0.out]), B2.out⟩
  · have HX0 : Hid (¬ x = 0) := h0
    have HC : Hid (Trm.over x = 0) := by show _ = _; unfold Trm.over; rw [if_neg h0]
    clear h0
    go_enter Tryd.func18, Tryd.ntmps18
    go_wp2_with fail
    refine (turned_is s (i + 1) x 0 W HW.out HS.out (by omega) (by omega) HX.out HC.out).mono ?_; rintro e w2 ⟨rfl, b2⟩
    have f2 := (HB.out.below b2).c1
    have B2 : Hid (_) := b2
    clear h1 h2 b2
    go_wp2_with fail
    go_ret
    exact ⟨ret_bool (by rw [HE.out, Bool.eq_iff_iff]; simp [HX0.out]), B2.out⟩
set_option maxHeartbeats 1000000 in
theorem pAge_any (s n X E : Int) (w : World) (hw : Laid w) (h : Prs.AgeAns s n X E) :
    Calls Tryd.prog 7 #[.int .i64 s, .int .i64 n] w fun e w' => e = .returned (.tuple #[.int .i64 X, .int .i64 E]) ∧ Below w.heap.size w w' := by
  have HA : Hid (ABox _ _ _ _) := ABox.new w s n 3 3
  have HB : Hid (Below w.heap.size w ((w.alloc (.cells #[.int .i64 s] 3)).alloc (.cells #[.int .i64 n] 3))) := (below_box w _).alloc (by simp) _
  have HW : Hid (Laid w) := hw
  have k0 := HA.out.c0
  have k1 := HA.out.c1
  clear hw
  by_cases hs : Prs.bad s
  · obtain ⟨rfl, rfl⟩ : X = 0 ∧ E = 3 := by
      rcases h with h | h | h
      · exact h.2
      · exact absurd hs h.1
      · exact absurd hs h.1
    have HS : Hid (decide (¬ Prs.bad s) = false) := decide_eq_false (fun q => q hs)
    clear h hs
    go_enter Tryd.func7, Tryd.ntmps7
    go_wp2_with fail
    refine (qday_is s _ _ HS.out).mono ?_; rintro e w1 ⟨rfl, rfl⟩
    go_wp2
    go_ret2
    exact ⟨rfl, HB.out⟩
  · have HS : Hid (decide (¬ Prs.bad s) = true) := decide_eq_true hs
    by_cases hn : Prs.bad n
    · obtain ⟨rfl, rfl⟩ : X = 0 ∧ E = 3 := by
        rcases h with h | h | h
        · exact h.2
        · exact absurd hn h.2.1
        · exact absurd hn h.2.1
      have HN : Hid (decide (¬ Prs.bad n) = false) := decide_eq_false (fun q => q hn)
      clear h hs hn
      go_enter Tryd.func7, Tryd.ntmps7
      go_wp2_with fail
      refine (qday_is s _ _ HS.out).mono ?_; rintro e w1 ⟨rfl, rfl⟩
      go_wp2_with fail
      refine (qday_is n _ _ HN.out).mono ?_; rintro e w1 ⟨rfl, rfl⟩
      go_wp2
      go_ret2
      exact ⟨rfl, HB.out⟩
    · have HN : Hid (decide (¬ Prs.bad n) = true) := decide_eq_true hn
      by_cases hlt : n < s
      · obtain ⟨rfl, rfl⟩ : X = 0 ∧ E = 4 := by
          rcases h with h | h | h
          · exact absurd h.1 (fun q => q.elim hs hn)
          · exact ⟨h.2.2.2.1, h.2.2.2.2⟩
          · exact absurd h.2.2.1 (by omega)
        clear h hs hn
        go_enter Tryd.func7, Tryd.ntmps7
        go_wp2_with fail
        refine (qday_is s _ _ HS.out).mono ?_; rintro e w1 ⟨rfl, rfl⟩
        go_wp2_with fail
        refine (qday_is n _ _ HN.out).mono ?_; rintro e w1 ⟨rfl, rfl⟩
        go_wp2
        go_ret2
        exact ⟨rfl, HB.out⟩
      · obtain ⟨y, m, d, a, hd, hnum, hag, hres⟩ : ∃ y m d a, Cal.vld y m d ∧ Cal.num y m d = s ∧ Prs.Age y m d n a ∧ ((150 < a ∧ X = 0 ∧ E = 2) ∨ (a ≤ 150 ∧ X = a ∧ E = 0)) := by
          rcases h with h | h | h
          · exact absurd h.1 (fun q => q.elim hs hn)
          · exact absurd h.2.2.1 hlt
          · exact h.2.2.2
        obtain ⟨K, hK, k2, k3, k4⟩ := Prs.search_age hd hnum hag
        have HKK : Hid (_) := And.intro k2 k3
        have HNS : Hid (¬ Prs.bad s) := hs
        have EG : Hid (∀ args w, (callFunc 18 args).run Tryd.prog w = .ok (.enter 18 args) w) := enters_of Tryd.func18 (by kernel_rfl) rfl
        have hr : (K = 151 ∧ X = 0 ∧ E = 2) ∨ (K ≤ 150 ∧ X = K ∧ E = 0) := by omega
        clear h hs hn k2 k3 k4 hd hnum hag hres
        go_enter Tryd.func7, Tryd.ntmps7
        go_wp2_with fail
        refine (qday_is s _ _ HS.out).mono ?_; rintro e w1 ⟨rfl, rfl⟩
        go_wp2_with fail
        refine (qday_is n _ _ HN.out).mono ?_; rintro e w1 ⟨rfl, rfl⟩
        go_wp2_with fail
        refine (qsearch_any 18 #[.pointer (some ⟨w.heap.size, 0, none⟩), .pointer (some ⟨w.heap.size + 1, 0, none⟩)] 151 K (Prs.late s n) _ (by decide) EG.out
          (fun wr i hb hi => age_closure s n w.heap.size i wr ((HW.out.below HB.out).below hb) (HA.out.below hb) HNS.out hi) hK HKK.out.1 HKK.out.2).mono ?_
        rintro e w2 ⟨rfl, b2⟩
        have B2 : Hid (Below w.heap.size w w2) := below_on HB.out (Nat.le_refl _) b2
        clear b2 k0 k1
        rcases hr with ⟨rfl, rfl, rfl⟩ | ⟨h1, rfl, rfl⟩
        · go_wp2
          go_ret2
          exact ⟨rfl, B2.out⟩
        · have h1' : ¬ (150 : Int) < (K : Int) := by omega
          go_wp2
          go_ret2
          exact ⟨rfl, B2.out⟩
end Go.Proofs.YtfncfbbkkpdhkaaDoor
