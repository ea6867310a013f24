/- The walks of package term: the search, and Find. -/
import Derived.Test.YthojffiajlpneaaDoorTFst
import Derived.Laws.Shifts
import Derived.Shelf.Abstract
namespace Go.Proofs.YthojffiajlpneaaDoor
open Go.RowKit

set_option maxHeartbeats 1000000 in
/-- sort.Search over a closure whose answers do not fall back: the first place where it says yes, or the end. -/
theorem search_any (g : Nat) (cb : Array Value) (n K : Nat) (p : Nat → Bool) (w : World) (hsz : n ≤ 100000)
    (eg : ∀ args w, (callFunc g args).run Tryd.prog w = .ok (.enter g args) w)
    (hf : ∀ (wr : World) (i : Nat), Below w.heap.size w wr → i < n → Calls Tryd.prog g (#[.int .i64 i] ++ cb) wr fun e w' => e = .returned (.bool (p i)) ∧ Below wr.heap.size wr w')
    (hK : K ≤ n) (h1 : ∀ t, t < K → p t = false) (h2 : ∀ t, K ≤ t → t < n → p t = true) :
    Calls Tryd.prog 24 #[.int .i64 n, .func (.func g) #[] cb] w fun e w' => e = .returned (.int .i64 (K : Nat)) ∧ Below w.heap.size w w' := by
  have HF : Hid (_) := hf
  have H1 : Hid (_) := h1
  have H2 : Hid (_) := h2
  clear hf h1 h2
  go_enter Tryd.func24, Tryd.ntmps24
  go_wp2
  go_loopg [5, 6] n (fun kx s5 s6 wr => ∃ (lo hi : Nat), s5 = .int .i64 lo ∧ s6 = .int .i64 hi ∧ lo ≤ K ∧ K ≤ hi ∧ hi ≤ n ∧ hi - lo ≤ kx ∧ Hid (Below w.heap.size w wr))
  case atStart => exact ⟨0, n, rfl, rfl, Nat.zero_le _, hK, Nat.le_refl _, by omega, Below.refl _ _⟩
  case round =>
    obtain ⟨lo, hi, rfl, rfl, hl, hh, hin, hg, HB⟩ := hrel
    by_cases hlt : lo < hi
    · have hc := HF.out wr ((lo + hi) / 2) HB.out (by omega)
      rw [show (((lo + hi) / 2 : Nat) : Int) = ((lo : Int) + (hi : Int)) / 2 by omega] at hc
      cases hp : p ((lo + hi) / 2) <;> rw [hp] at hc
      · have hk : (lo + hi) / 2 < K := by
          by_cases c : (lo + hi) / 2 < K
          · exact c
          · have := H2.out ((lo + hi) / 2) (by omega) (by omega); rw [hp] at this; cases this
        clear hp
        go_wp2_with (go_at_fn g; refine hc.mono ?_; rintro e w' ⟨rfl, b'⟩)
        have HB' : Hid (_) := below_on HB.out (Nat.le_refl _) b'
        clear b'
        go_roundg (hi - ((lo + hi) / 2 + 1))
        case measure => omega
        case rel =>
          exact ⟨(lo + hi) / 2 + 1, hi, by rw [show ((lo : Int) + (hi : Int)) / 2 + 1 = (((lo + hi) / 2 + 1 : Nat) : Int) by omega], rfl, by omega, hh, hin, Nat.le_refl _, HB'⟩
      · have hk : K ≤ (lo + hi) / 2 := by
          by_cases c : (lo + hi) / 2 < K
          · have := H1.out ((lo + hi) / 2) c; rw [hp] at this; cases this
          · omega
        clear hp
        go_wp2_with (go_at_fn g; refine hc.mono ?_; rintro e w' ⟨rfl, b'⟩)
        have HB' : Hid (_) := below_on HB.out (Nat.le_refl _) b'
        clear b'
        go_roundg ((lo + hi) / 2 - lo)
        case measure => omega
        case rel =>
          exact ⟨lo, (lo + hi) / 2, rfl, by rw [show ((lo : Int) + (hi : Int)) / 2 = (((lo + hi) / 2 : Nat) : Int) by omega], hl, hk, by omega, Nat.le_refl _, HB'⟩
    · obtain rfl : lo = K := by omega
      go_wp2
      go_ret
      exact ⟨rfl, HB.out⟩
/-- the three boxes that the search's closure reads -/
def FBox (W : World) (b : Nat) (s u n N : Int) : Prop :=
  b + 2 < W.heap.size ∧ W.cell? ⟨b, 0, none⟩ = some (.int .i64 s) ∧ W.cell? ⟨b + 1, 0, none⟩ = some (.int .i64 u) ∧ W.cell? ⟨b + 1, 1, none⟩ = some (.int .i64 n) ∧ W.cell? ⟨b + 2, 0, none⟩ = some (.int .i64 N)
theorem FBox.below {W W' : World} {b : Nat} {s u n N : Int} (h : FBox W b s u n N) (hb : Below W.heap.size W W') : FBox W' b s u n N := by
  obtain ⟨h1, h2, h3, h4, h5⟩ := h
  obtain ⟨hc, _⟩ := bcell hb
  refine ⟨Nat.lt_of_lt_of_le h1 hb.size, ?_, ?_, ?_, ?_⟩
  · rw [hc b 0 (by omega)]; exact h2
  · rw [hc (b + 1) 0 (by omega)]; exact h3
  · rw [hc (b + 1) 1 (by omega)]; exact h4
  · rw [hc (b + 2) 0 h1]; exact h5
set_option maxHeartbeats 400000 in
theorem find_closure (s y m d u n N : Int) (b i : Nat) (W : World) (hw : Laid W) (hb : FBox W b s u n N) (hv : Cal.vld y m d) (hs : Cal.num y m d = s) (hu1 : 1 ≤ u) (hu2 : u ≤ 4) (hn1 : 1 ≤ n) (hn2 : n ≤ 120) (hi : i < 1001) :
    Calls Tryd.prog 25 #[.int .i64 i, .pointer (some ⟨b, 0, none⟩), .pointer (some ⟨b + 1, 0, none⟩), .pointer (some ⟨b + 2, 0, none⟩)] W fun e w' => e = .returned (.bool (Trm.ends y m d u n N i)) ∧ Below W.heap.size W w' := by
  obtain ⟨x, hx⟩ : ∃ x, Trm.day y m d u n (i + 1) = x := ⟨_, rfl⟩
  have HE : Hid (Trm.ends y m d u n N i = decide (x = 0 ∨ N < x)) := by unfold Hid Trm.ends; rw [hx]
  have HV : Hid (Cal.vld y m d ∧ Cal.num y m d = s ∧ Trm.day y m d u n (i + 1) = x) := ⟨hv, hs, hx⟩
  have HW : Hid (Laid W) := hw
  have HB : Hid (_) := hb
  obtain ⟨h1, h2, h3, h4, h5⟩ := hb
  clear hv hs hx hw
  by_cases h0 : x = 0
  · have hc : Trm.over x = 8 := by rw [h0]; rfl
    have HC : Hid (_) := hc
    have HX : Hid (x = 0) := h0
    clear hc h0
    go_enter Tryd.func25, Tryd.ntmps25
    go_wp2_with (go_at_call 23; refine (first_at _ y m d _ _ _ x 8 _ HW.out HV.out.1 HV.out.2.1 hu1 hu2 hn1 hn2 (by omega) (by omega) HV.out.2.2 HC.out).mono ?_; rintro e w2 ⟨rfl, b2⟩)
    go_ret
    exact ⟨ret_bool (by rw [HE.out]; simp [HX.out]), b2⟩
  · have hc : Trm.over x = 0 := by unfold Trm.over; rw [if_neg h0]
    have HC : Hid (_) := hc
    have HX : Hid (¬ x = 0) := h0
    clear hc h0
    go_enter Tryd.func25, Tryd.ntmps25
    go_wp2_with fail
    refine (first_at _ y m d _ _ _ x 0 _ HW.out HV.out.1 HV.out.2.1 hu1 hu2 hn1 hn2 (by omega) (by omega) HV.out.2.2 HC.out).mono ?_; rintro e w2 ⟨rfl, b2⟩
    have f5 := (FBox.below HB.out b2).2.2.2.2
    have B2 : Hid (_) := b2
    clear h1 h2 h3 h4 h5 b2
    go_wp2_with fail
    go_ret
    exact ⟨ret_bool (by rw [HE.out, Bool.eq_iff_iff]; simp [HX.out]), B2.out⟩
namespace Trm
/-- why a day lies in no term: 0 where nothing stands in the way yet -/
def fbad (u n s N : Int) : Int := if chk u n = 0 then (if s < 1 ∨ 3652059 < s ∨ N < 1 ∨ 3652059 < N then 3 else if N < s then 4 else 0) else chk u n
theorem fbad_zero (u n s N : Int) (h : fbad u n s N = 0) : chk u n = 0 ∧ 1 ≤ s ∧ s ≤ N ∧ N ≤ 3652059 := by
  unfold fbad at h
  split at h
  · rename_i c
    split at h
    · cases h
    · split at h
      · cases h
      · exact ⟨c, by omega⟩
  · rename_i c; exact absurd h c
theorem fbad_cases (u n s N c : Int) (h : fbad u n s N = c) (hc : c ≠ 0) : (chk u n = c) ∨ (chk u n = 0 ∧ c = 3 ∧ (s < 1 ∨ 3652059 < s)) ∨ (chk u n = 0 ∧ c = 3 ∧ 1 ≤ s ∧ s ≤ 3652059 ∧ (N < 1 ∨ 3652059 < N)) ∨ (chk u n = 0 ∧ c = 4 ∧ 1 ≤ s ∧ s ≤ 3652059 ∧ 1 ≤ N ∧ N ≤ 3652059 ∧ N < s) := by
  unfold fbad at h
  split at h
  · rename_i g
    split at h
    · by_cases g2 : s < 1 ∨ 3652059 < s
      · exact .inr (.inl ⟨g, by omega, g2⟩)
      · exact .inr (.inr (.inl ⟨g, by omega, by omega, by omega, by omega⟩))
    · split at h
      · exact .inr (.inr (.inr ⟨g, by omega, by omega, by omega, by omega, by omega, by omega⟩))
      · exact absurd h.symm hc
  · exact .inl h
end Trm
theorem has1_new (W : World) (v : Value) (t : TypeId) : (W.alloc (.cells #[v] t)).cell? ⟨W.heap.size, 0, none⟩ = some v := by
  rw [World.cell?_alloc_at _ _ _ _ (by simp)]; rfl
theorem fbox_new (w : World) (s u n N : Int) : FBox (((w.alloc (.cells #[.int .i64 s] 3)).alloc (.cells #[.int .i64 u, .int .i64 n] 23)).alloc (.cells #[.int .i64 N] 3)) w.heap.size s u n N := by
  have a1 := has2_new (w.alloc (.cells #[.int .i64 s] 3)) u n 23
  rw [World.size_alloc] at a1
  have a0 : (w.alloc (.cells #[.int .i64 s] 3)).cell? ⟨w.heap.size, 0, none⟩ = some (.int .i64 s) := by simp
  have a2 : (((w.alloc (.cells #[.int .i64 s] 3)).alloc (.cells #[.int .i64 u, .int .i64 n] 23)).alloc (.cells #[.int .i64 N] 3)).cell? ⟨((w.alloc (.cells #[.int .i64 s] 3)).alloc (.cells #[.int .i64 u, .int .i64 n] 23)).heap.size, 0, none⟩ = some (.int .i64 N) := has1_new _ _ _
  rw [World.size_alloc, World.size_alloc] at a2
  exact ⟨by simp, (World.cell?_alloc_past _ _ _ (by simp; omega)).trans ((World.cell?_alloc_past _ _ _ (by simp)).trans a0), (World.cell?_alloc_past _ _ _ (by simp)).trans a1.1, (World.cell?_alloc_past _ _ _ (by simp)).trans a1.2, a2⟩
theorem below_three (w : World) (o1 o2 o3 : Obj) : Below w.heap.size w (((w.alloc o1).alloc o2).alloc o3) :=
  ((below_box w o1).alloc (by simp) o2).alloc (by simp; omega) o3
set_option maxHeartbeats 1000000 in
theorem find_bad (s u n N c : Int) (w : World) (h : Trm.fbad u n s N = c) (hc : c ≠ 0) :
    Calls Tryd.prog 9 #[.int .i64 s, .agg #[.int .i64 u, .int .i64 n], .int .i64 N] w fun e w' => e = .returned (.tuple #[.int .i64 0, .int .i64 c]) ∧ Below w.heap.size w w' := by
  have hc1 : (c != 0) = true := by simpa using hc
  have FB : Hid (_) := fbox_new w s u n N
  have BB : Hid (_) := below_three w (.cells #[.int .i64 s] 3) (.cells #[.int .i64 u, .int .i64 n] 23) (.cells #[.int .i64 N] 3)
  rcases Trm.fbad_cases u n s N c h hc with g | ⟨g, rfl, g2⟩ | ⟨g, rfl, g2, g3, g4⟩ | ⟨g, rfl, g2, g3, g4, g5, g6⟩
  · have G : Hid (_) := g
    clear g h hc
    go_enter Tryd.func9, Tryd.ntmps9
    go_wp2_with fail
    refine (tcheck_at _ _ _ _ G.out).mono ?_; rintro e w1 ⟨rfl, b1⟩
    go_wp2_with fail
    go_ret2
    exact ⟨rfl, below_next BB.out (Nat.le_refl _) b1⟩
  · have G : Hid (_) := g
    have G2 : Hid (_) := g2
    clear g g2 h hc
    go_enter Tryd.func9, Tryd.ntmps9
    go_wp2_with fail
    refine (tcheck_at _ _ _ _ G.out).mono ?_; rintro e w1 ⟨rfl, b1⟩
    obtain ⟨-, q1, q2, q3, q4⟩ := FBox.below FB.out b1
    have B1 : Hid (_) := below_next BB.out (Nat.le_refl _) b1
    clear b1
    go_wp2_with (go_at_call 21; refine (tday_no _ _ G2.out).mono ?_; rintro e w' ⟨rfl, rfl⟩)
    go_ret2
    exact ⟨rfl, B1.out⟩
  · have G : Hid (_) := g
    have G4 : Hid (_) := g4
    clear g g4 h hc
    go_enter Tryd.func9, Tryd.ntmps9
    go_wp2_with fail
    refine (tcheck_at _ _ _ _ G.out).mono ?_; rintro e w1 ⟨rfl, b1⟩
    obtain ⟨-, q1, q2, q3, q4⟩ := FBox.below FB.out b1
    have B1 : Hid (_) := below_next BB.out (Nat.le_refl _) b1
    clear b1
    go_wp2_with (first
      | (go_at_call 21; refine (tday_yes _ _ (by omega) (by omega)).mono ?_; rintro e w' ⟨rfl, rfl⟩)
      | (go_at_call 21; refine (tday_no _ _ G4.out).mono ?_; rintro e w' ⟨rfl, rfl⟩))
    go_ret2
    exact ⟨rfl, B1.out⟩
  · have G : Hid (_) := g
    clear g h hc
    go_enter Tryd.func9, Tryd.ntmps9
    go_wp2_with fail
    refine (tcheck_at _ _ _ _ G.out).mono ?_; rintro e w1 ⟨rfl, b1⟩
    obtain ⟨-, q1, q2, q3, q4⟩ := FBox.below FB.out b1
    have B1 : Hid (_) := below_next BB.out (Nat.le_refl _) b1
    clear b1
    go_wp2_with (go_at_call 21; refine (tday_yes _ _ (by omega) (by omega)).mono ?_; rintro e w' ⟨rfl, rfl⟩)
    go_ret2
    exact ⟨rfl, B1.out⟩
set_option maxHeartbeats 1000000 in
theorem find_ok (s y m d u n N x c : Int) (K : Nat) (w : World) (hw : Laid w) (hv : Cal.vld y m d) (hs : Cal.num y m d = s) (hu1 : 1 ≤ u) (hu2 : u ≤ 4) (hn1 : 1 ≤ n) (hn2 : n ≤ 120) (hN1 : s ≤ N) (hN2 : N ≤ 3652059)
    (hK : K ≤ 1001) (k1 : ∀ t, t < K → Trm.ends y m d u n N t = false) (k2 : ∀ t, K ≤ t → t < 1001 → Trm.ends y m d u n N t = true) (hx : (K ≤ 1000 ∧ x = K ∧ c = 0) ∨ (1000 < K ∧ x = 0 ∧ c = 2)) :
    Calls Tryd.prog 9 #[.int .i64 s, .agg #[.int .i64 u, .int .i64 n], .int .i64 N] w fun e w' => e = .returned (.tuple #[.int .i64 x, .int .i64 c]) ∧ Below w.heap.size w w' := by
  have hi := Cal.num_in y m d hv
  rw [hs] at hi
  have G : Hid (Trm.chk u n = 0) := Trm.chk_ok u n hu1 hu2 hn1 hn2
  have FB : Hid (_) := fbox_new w s u n N
  have BB : Hid (_) := below_three w (.cells #[.int .i64 s] 3) (.cells #[.int .i64 u, .int .i64 n] 23) (.cells #[.int .i64 N] 3)
  have eg : ∀ args w, (callFunc 25 args).run Tryd.prog w = .ok (.enter 25 args) w := enters_of Tryd.func25 (by kernel_rfl) rfl
  have HW : Hid (Laid w) := hw
  have KK : Hid (_) := And.intro k1 k2
  have HV : Hid (_) := And.intro hv hs
  have hNs : ¬ N < s := by omega
  have hN0 : 1 ≤ N := by omega
  have EG : Hid (_) := eg
  clear k1 k2 hw hv hs eg
  go_enter Tryd.func9, Tryd.ntmps9
  go_wp2_with fail
  refine (tcheck_at _ _ _ _ G.out).mono ?_; rintro e w1 ⟨rfl, b1⟩
  have F1 : Hid (FBox w1 w.heap.size s u n N) := FBox.below FB.out b1
  obtain ⟨-, q1, q2, q3, q4⟩ := F1.out
  have B1 : Hid (Below w.heap.size w w1) := below_next BB.out (Nat.le_refl _) b1
  clear b1 FB BB
  go_wp2_with (go_at_call 21; refine (tday_yes _ _ (by omega) (by omega)).mono ?_; rintro e w' ⟨rfl, rfl⟩)
  refine (search_any 25 #[.pointer (some ⟨w.heap.size, 0, none⟩), .pointer (some ⟨w.heap.size + 1, 0, none⟩), .pointer (some ⟨w.heap.size + 2, 0, none⟩)] 1001 K (Trm.ends y m d u n N) _ (by decide) EG.out
    (fun wr i hb hi => find_closure s y m d u n N w.heap.size i wr ((HW.out.below B1.out).below hb) (FBox.below F1.out hb) HV.out.1 HV.out.2 hu1 hu2 hn1 hn2 hi) hK KK.out.1 KK.out.2).mono ?_
  rintro e w2 ⟨rfl, b2⟩
  have B2 : Hid (Below w.heap.size w w2) := below_next B1.out (Nat.le_refl _) b2
  clear b2 F1 q1 q2 q3 q4 B1
  rcases hx with ⟨x1, rfl, rfl⟩ | ⟨x1, rfl, rfl⟩
  · have x2 : (K : Int) ≤ 1000 := by omega
    go_wp2_with fail
    go_ret2
    exact ⟨rfl, B2.out⟩
  · have x2 : (1000 : Int) < K := by omega
    go_wp2_with fail
    go_ret2
    exact ⟨rfl, B2.out⟩
end Go.Proofs.YthojffiajlpneaaDoor
