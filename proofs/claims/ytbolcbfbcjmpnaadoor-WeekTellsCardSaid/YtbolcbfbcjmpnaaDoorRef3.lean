/- The walk of the reference's day of a week (DayOfWeekNo): it looks for the day near the year's begin and finds the one that the plain mathematics names, or none. -/
import Derived.Test.YtbolcbfbcjmpnaaDoorRef2
namespace Go.Proofs.YtbolcbfbcjmpnaaDoor
open Go.RowKit Go.BigFrame Go.Sort

namespace Cal
theorem wnum_near (y k d : Int) (h3 : 1 ≤ d) (h4 : d ≤ 7) : ahead y + 1 + 7 * (k - 1) - 7 ≤ wnum y k d ∧ wnum y k d < ahead y + 1 + 7 * (k - 1) - 7 + 21 := by
  have b := fth_bd y
  unfold wnum wmid; omega
theorem match_of (c y k d : Int) (h1 : 1 ≤ c) (h2 : c ≤ 3652059) (e1 : wyear c = y) (e2 : wno c = k) (e3 : wday c = d) : wok y k d ∧ wnum y k d = c := by
  subst e1 e2 e3
  exact ⟨wok_of c h1 h2, wnum_of c⟩
end Cal
theorem dayOf_jan (y : Int) (w : World) (h1 : 1 ≤ y) (h2 : y ≤ 10000) :
    Calls Tryd.prog 27 #[.agg #[.int .i64 y, .int .i64 1, .int .i64 1]] w fun e w' => e = .returned (.int .i64 (Cal.ahead y + 1)) ∧ Below w.heap.size w w' := by
  have e : Cal.num y 1 1 = Cal.ahead y + 1 := by unfold Cal.num; rw [Cal.cum_1]; omega
  rw [← e]
  exact dayOf_any y 1 1 w h1 h2 (by omega) (by omega) (by omega) (by omega)
/-- What is told of a week that the calendar has, and of one that it has not. -/
def Told (y k d X E : Int) : Prop := (Cal.wok y k d ∧ X = Cal.wnum y k d ∧ E = 0) ∨ (¬ Cal.wok y k d ∧ X = 0 ∧ E = 3)
set_option maxHeartbeats 400000 in
theorem weekNo_out (y k d : Int) (w : World) (h : ¬ (1 ≤ y ∧ y ≤ 9999 ∧ 1 ≤ k ∧ k ≤ 53 ∧ 1 ≤ d ∧ d ≤ 7)) :
    Calls Tryd.prog 21 #[.agg #[.int .i64 y, .int .i64 k, .int .i64 d]] w fun e w' => e = .returned (.tuple #[.int .i64 0, .int .i64 3]) ∧ Below w.heap.size w w' := by
  have key : y < 1 ∨ (¬ y < 1 ∧ 9999 < y) ∨ (¬ y < 1 ∧ ¬ 9999 < y ∧ k < 1) ∨ (¬ y < 1 ∧ ¬ 9999 < y ∧ ¬ k < 1 ∧ 53 < k) ∨ (¬ y < 1 ∧ ¬ 9999 < y ∧ ¬ k < 1 ∧ ¬ 53 < k ∧ d < 1) ∨ (¬ y < 1 ∧ ¬ 9999 < y ∧ ¬ k < 1 ∧ ¬ 53 < k ∧ ¬ d < 1 ∧ 7 < d) := by omega
  clear h
  rcases key with h1 | ⟨h1, h2⟩ | ⟨h1, h2, h3⟩ | ⟨h1, h2, h3, h4⟩ | ⟨h1, h2, h3, h4, h5⟩ | ⟨h1, h2, h3, h4, h5, h6⟩
  all_goals
    go_enter Tryd.func21, Tryd.ntmps21
    go_wp2
    go_ret2
    exact ⟨rfl, below_box _ _⟩
set_option maxHeartbeats 2000000 in
theorem weekNo_in (y k d X E : Int) (w : World) (h1 : 1 ≤ y) (h2 : y ≤ 9999) (h3 : 1 ≤ k) (h4 : k ≤ 53) (h5 : 1 ≤ d) (h6 : d ≤ 7) (hT : Told y k d X E) :
    Calls Tryd.prog 21 #[.agg #[.int .i64 y, .int .i64 k, .int .i64 d]] w fun e w' => e = .returned (.tuple #[.int .i64 X, .int .i64 E]) ∧ Below w.heap.size w w' := by
  have ha := Cal.ahead_bd y h1 (by omega)
  have HNR : Hid (Cal.ahead y + 1 + 7 * (k - 1) - 7 ≤ Cal.wnum y k d ∧ Cal.wnum y k d < Cal.ahead y + 1 + 7 * (k - 1) - 7 + 21) := Cal.wnum_near y k d h5 h6
  go_enter Tryd.func21, Tryd.ntmps21
  go_wp2_with fail
  have p1 := Has3.new w y k d 35
  have B1 := below_box w (.cells #[.int .i64 y, .int .i64 k, .int .i64 d] 35)
  have g0 := cell_regrown p1.2.1
  have g1 := cell_regrown p1.2.2.1
  have g2 := cell_regrown p1.2.2.2
  refine wp_region_quiet_below (by kernel_rfl) (by kernel_rfl) ?_
  repeat go_big_quiet_step (first | (go_at_call 27; exact Calls.regrown_of (dayOf_jan y _ (by omega) (by omega))))
  refine wpQuiet_nil ?_
  intro _ hw'
  obtain ⟨⟨dq, osq⟩, hw''⟩ := hw'
  subst hw''
  clear g0 g1 g2
  obtain ⟨W, hW⟩ : ∃ W, W = grow (redrawn (w.alloc (.cells #[.int .i64 y, .int .i64 k, .int .i64 d] 35)) dq) osq := ⟨_, rfl⟩
  have p2 : Has3 W w.heap.size y k d := by rw [hW]; exact p1.below (below_regrown _ _ _)
  have B2 : Below w.heap.size w W := by rw [hW]; exact below_next B1 (Nat.le_refl _) (below_regrown _ _ _)
  rw [← hW]
  clear hW p1 B1
  generalize hF : Cal.ahead y + 1 + 7 * (k - 1) - 7 = F at HNR ⊢
  have hFb : -10 ≤ F ∧ F ≤ 3653000 := by omega
  clear hF
  go_wp2
  go_loopw [5] (fun v wr => ∃ c : Int, F ≤ c ∧ c ≤ F + 21 ∧ (Cal.wok y k d → c ≤ Cal.wnum y k d) ∧ v = .int .i64 c ∧ Has3 wr w.heap.size y k d ∧ Below w.heap.size w wr) (fun v _ => (F + 21 - intOf v).toNat)
  case atStart => exact ⟨F, by omega, by omega, fun _ => HNR.out.1, rfl, p2, B2⟩
  case round =>
    obtain ⟨c, hc1, hc2, hc3, rfl, pr, Br⟩ := hrel
    have HC : Hid (Cal.wok y k d → c ≤ Cal.wnum y k d) := hc3
    clear hc3 p2 B2
    by_cases hlt : c < F + 21
    · by_cases hin : 1 ≤ c ∧ c ≤ 3652059
      · by_cases hm : Cal.wyear c = y ∧ Cal.wno c = k ∧ Cal.wday c = d
        · have hmm := Cal.match_of c y k d hin.1 hin.2 hm.1 hm.2.1 hm.2.2
          have HX : Hid (X = c ∧ E = 0) := by
            rcases hT with ⟨a, b, e⟩ | ⟨a, _⟩
            · exact ⟨by rw [b, hmm.2], e⟩
            · exact absurd hmm.1 a
          go_wp2_with fail
          refine (weekOf_ok c _ hin.1 hin.2).mono ?_; rintro e w2 ⟨rfl, b2⟩
          rw [hm.1, hm.2.1, hm.2.2]
          have p3 := (pr.below b2).alloc (.cells #[.int .i64 y, .int .i64 k, .int .i64 d] 35)
          have B3 := below_next (below_next Br (Nat.le_refl _) b2) (Nat.le_refl _) (below_box w2 (.cells #[.int .i64 y, .int .i64 k, .int .i64 d] 35))
          have s0 := p3.2.1
          have s1 := p3.2.2.1
          have s2 := p3.2.2.2
          clear hm hmm
          go_wp2
          go_ret2
          obtain ⟨rfl, rfl⟩ := HX.out
          exact ⟨rfl, B3⟩
        · have HC2 : Hid (Cal.wok y k d → c + 1 ≤ Cal.wnum y k d) := by
            intro hk
            have h := HC.out hk
            have hne : c ≠ Cal.wnum y k d := by
              rintro rfl
              exact hm (Cal.week_of y k d hk)
            omega
          by_cases m1 : Cal.wyear c = y
          · by_cases m2 : Cal.wno c = k
            · have m3 : ¬ Cal.wday c = d := fun h => hm ⟨m1, m2, h⟩
              clear hm
              go_wp2_with fail
              refine (weekOf_ok c _ hin.1 hin.2).mono ?_; rintro e w2 ⟨rfl, b2⟩
              rw [m1, m2]
              clear m1 m2
              have p3 := (pr.below b2).alloc (.cells #[.int .i64 y, .int .i64 k, .int .i64 (Cal.wday c)] 35)
              have B3 := below_next (below_next Br (Nat.le_refl _) b2) (Nat.le_refl _) (below_box w2 (.cells #[.int .i64 y, .int .i64 k, .int .i64 (Cal.wday c)] 35))
              have s0 := p3.2.1
              have s1 := p3.2.2.1
              have s2 := p3.2.2.2
              go_wp2
              go_roundw
              case rel => exact ⟨c + 1, by omega, by omega, HC2.out, rfl, p3, B3⟩
              case measure => simp [intOf]; omega
            · clear hm
              go_wp2_with fail
              refine (weekOf_ok c _ hin.1 hin.2).mono ?_; rintro e w2 ⟨rfl, b2⟩
              rw [m1]
              clear m1
              have p3 := (pr.below b2).alloc (.cells #[.int .i64 y, .int .i64 (Cal.wno c), .int .i64 (Cal.wday c)] 35)
              have B3 := below_next (below_next Br (Nat.le_refl _) b2) (Nat.le_refl _) (below_box w2 (.cells #[.int .i64 y, .int .i64 (Cal.wno c), .int .i64 (Cal.wday c)] 35))
              have s0 := p3.2.1
              have s1 := p3.2.2.1
              have s2 := p3.2.2.2
              go_wp2
              go_roundw
              case rel => exact ⟨c + 1, by omega, by omega, HC2.out, rfl, p3, B3⟩
              case measure => simp [intOf]; omega
          · clear hm
            go_wp2_with fail
            refine (weekOf_ok c _ hin.1 hin.2).mono ?_; rintro e w2 ⟨rfl, b2⟩
            have p3 := (pr.below b2).alloc (.cells #[.int .i64 (Cal.wyear c), .int .i64 (Cal.wno c), .int .i64 (Cal.wday c)] 35)
            have B3 := below_next (below_next Br (Nat.le_refl _) b2) (Nat.le_refl _) (below_box w2 (.cells #[.int .i64 (Cal.wyear c), .int .i64 (Cal.wno c), .int .i64 (Cal.wday c)] 35))
            have s0 := p3.2.1
            have s1 := p3.2.2.1
            have s2 := p3.2.2.2
            go_wp2
            go_roundw
            case rel => exact ⟨c + 1, by omega, by omega, HC2.out, rfl, p3, B3⟩
            case measure => simp [intOf]; omega
      · have HC2 : Hid (Cal.wok y k d → c + 1 ≤ Cal.wnum y k d) := by
          intro hk
          have h := HC.out hk
          have h8 := hk.2.2.2.2.2.2.2.1
          have h9 := hk.2.2.2.2.2.2.2.2
          omega
        have HO : Hid (c < 1 ∨ 3652059 < c) := by unfold Hid; omega
        clear hin
        go_wp2_with fail
        refine (weekOf_err c _ HO.out).mono ?_; rintro e w2 ⟨rfl, b2⟩
        have p3 := (pr.below b2).alloc (.cells #[.int .i64 0, .int .i64 0, .int .i64 0] 35)
        have B3 := below_next (below_next Br (Nat.le_refl _) b2) (Nat.le_refl _) (below_box w2 (.cells #[.int .i64 0, .int .i64 0, .int .i64 0] 35))
        have s0 := p3.2.1
        have s1 := p3.2.2.1
        have s2 := p3.2.2.2
        go_wp2
        go_roundw
        case rel => exact ⟨c + 1, by omega, by omega, HC2.out, rfl, p3, B3⟩
        case measure => simp [intOf]; omega
    · have HX : Hid (X = 0 ∧ E = 3) := by
        rcases hT with ⟨a, _⟩ | ⟨_, b⟩
        · have h := HC.out a
          have := HNR.out.2
          omega
        · exact b
      go_wp2
      go_ret2
      obtain ⟨rfl, rfl⟩ := HX.out
      exact ⟨rfl, Br⟩
theorem weekNo_all (y k d X E : Int) (w : World) (hT : Told y k d X E) :
    Calls Tryd.prog 21 #[.agg #[.int .i64 y, .int .i64 k, .int .i64 d]] w fun e w' => e = .returned (.tuple #[.int .i64 X, .int .i64 E]) ∧ Below w.heap.size w w' := by
  by_cases h : 1 ≤ y ∧ y ≤ 9999 ∧ 1 ≤ k ∧ k ≤ 53 ∧ 1 ≤ d ∧ d ≤ 7
  · obtain ⟨h1, h2, h3, h4, h5, h6⟩ := h
    exact weekNo_in y k d X E w h1 h2 h3 h4 h5 h6 hT
  · have hX : X = 0 ∧ E = 3 := by
      rcases hT with ⟨⟨a1, a2, a3, a4, a5, a6, _⟩, _⟩ | ⟨_, b⟩
      · exact absurd ⟨a1, a2, a5, a6, a3, a4⟩ h
      · exact b
    obtain ⟨rfl, rfl⟩ := hX
    exact weekNo_out y k d w h
theorem ofWeek_all (y k d X E : Int) (w : World) (hT : Told y k d X E) :
    Calls Tryd.prog 19 #[.agg #[.int .i64 y, .int .i64 k, .int .i64 d]] w fun e w' => e = .returned (.tuple #[.int .i64 X, .int .i64 E]) ∧ Below w.heap.size w w' := by
  rcases hT with ⟨a, rfl, rfl⟩ | ⟨a, rfl, rfl⟩
  · exact ofWeek_ok y k d w a
  · exact ofWeek_err y k d w a
theorem told_ex (y k d : Int) : ∃ X E, Told y k d X E := by
  by_cases h : Cal.wok y k d
  · exact ⟨_, _, .inl ⟨h, rfl, rfl⟩⟩
  · exact ⟨_, _, .inr ⟨h, rfl, rfl⟩⟩
end Go.Proofs.YtbolcbfbcjmpnaaDoor
