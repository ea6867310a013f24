/- The walk of WorkAdds: it answers true, whatever it is handed. -/
import Derived.Test.YtpjpmfcbddkjnaaDoorLawWork4
namespace Go.Proofs.YtpjpmfcbddkjnaaDoor
open Go.RowKit
theorem pAdd_at (R : Wk.Rst) (l : List Wk.Rl) (a : Option Addr) (cap : Nat) (n m x c : Int) (hl : l.length ≤ maxLen) (h : Wk.told R l (Wk.add R l n m) = (x, c)) :
    ∀ w, Laid w → Row4 w a l → Calls Tryd.prog 17 #[calV R a l.length cap, .int .i64 n, .int .i64 m] w fun e w' => e = .returned (.tuple #[.int .i64 x, .int .i64 c]) ∧ Below w.heap.size w w' := by
  intro w hw hr
  have := pAdd R l a cap n m w hl hw hr
  rw [h] at this; exact this
set_option maxRecDepth 100000 in
set_option maxHeartbeats 4000000 in
theorem workAdds_any (R : Wk.Rst) (l : List Wk.Rl) (a : Option Addr) (cap : Nat) (n p q : Int) (w : World) (hl : l.length ≤ maxLen) (hw : Laid w) (hr : Row4 w a l) :
    Calls Tryd.prog 6 #[calV R a l.length cap, .int .i64 n, .int .i64 p, .int .i64 q] w fun e w' => e = .returned (.bool true) ∧ Below w.heap.size w w' := by
  have s0 : WSt w (w.alloc (calBox R a l.length cap)) R l a l.length cap := WSt.start hw hr
  by_cases h1 : p < 0
  · have d1 : decide (p < 0) = true := decide_eq_true h1
    clear h1
    go_enter Tryd.func6, Tryd.ntmps6
    go_wp2_with fail
    refine (wbegun_any _ s0.laid).mono ?_; rintro e w1 ⟨rfl, b1⟩
    have s1 := s0.on b1
    clear s0 b1
    go_wp2
    go_ret
    exact ⟨rfl, s1.below⟩
  by_cases h2 : q < 0
  · have d1 : decide (p < 0) = false := decide_eq_false h1
    have d2 : decide (q < 0) = true := decide_eq_true h2
    clear h1 h2
    go_enter Tryd.func6, Tryd.ntmps6
    go_wp2_with fail
    refine (wbegun_any _ s0.laid).mono ?_; rintro e w1 ⟨rfl, b1⟩
    have s1 := s0.on b1
    clear s0 b1
    go_wp2
    go_ret
    exact ⟨rfl, s1.below⟩
  by_cases h3 : 400 < p
  · have d1 : decide (p < 0) = false := decide_eq_false h1
    have d2 : decide (q < 0) = false := decide_eq_false h2
    have d3 : decide (400 < p) = true := decide_eq_true h3
    clear h1 h2 h3
    go_enter Tryd.func6, Tryd.ntmps6
    go_wp2_with fail
    refine (wbegun_any _ s0.laid).mono ?_; rintro e w1 ⟨rfl, b1⟩
    have s1 := s0.on b1
    clear s0 b1
    go_wp2
    go_ret
    exact ⟨rfl, s1.below⟩
  have d1 : decide (p < 0) = false := decide_eq_false h1
  have d2 : decide (q < 0) = false := decide_eq_false h2
  have d3 : decide (400 < p) = false := decide_eq_false h3
  have hf : IntKind.i64.wrap (400 - p) = 400 - p := by rw [IntKind.wrap_i64]; omega
  by_cases h4 : 400 - p < q
  · have d4 : decide (400 - p < q) = true := decide_eq_true h4
    clear h1 h2 h3 h4
    go_enter Tryd.func6, Tryd.ntmps6
    go_wp2_with fail
    refine (wbegun_any _ s0.laid).mono ?_; rintro e w1 ⟨rfl, b1⟩
    have s1 := s0.on b1
    clear s0 b1
    go_wp2
    go_ret
    exact ⟨rfl, s1.below⟩
  have d4 : decide (400 - p < q) = false := decide_eq_false h4
  have hf2 : IntKind.i64.wrap (p + q) = p + q := by rw [IntKind.wrap_i64]; omega
  rcases Wk.told_add R l n p q (by omega) (by omega) (by omega) with ⟨hc, hx⟩ | ⟨x, y, c, d, e1, e2, e3, e4, e5, n1, n2, x1, x2, y1, y2⟩
  · obtain ⟨c, hc'⟩ : ∃ c, (Wk.told R l (Wk.add R l n (p + q))).2 = c := ⟨_, rfl⟩
    have pC := pAdd_at R l a cap n (p + q) 0 c hl (by rw [← hc', ← hx])
    rw [hc'] at hc
    have hd : (c != 0) = true := by simpa using hc
    clear hx hc' hc h1 h2 h3 h4
    go_enter Tryd.func6, Tryd.ntmps6
    go_wp2_with fail
    refine (wbegun_any _ s0.laid).mono ?_; rintro e w1 ⟨rfl, b1⟩
    have s1 := s0.on b1
    clear s0 b1
    obtain ⟨g0, g1, g2, g3, g4, g5, g6, g7⟩ := s1.cells
    go_wp2_with fail
    clear g0 g1 g2 g3 g4 g5 g6 g7
    refine (pC _ s1.laid s1.row).mono ?_; rintro e w2 ⟨rfl, b2⟩
    have s2 := s1.on b2
    clear s1 b2
    go_wp2
    go_ret
    exact ⟨rfl, s2.below⟩
  · have pX := pAdd_at R l a cap n (p + q) x 0 hl e1
    have pY := pAdd_at R l a cap n p y 0 hl e2
    have pZ := pAdd_at R l a cap y q x 0 hl e3
    have pC := pCount_at R l a cap (n + 1) (x + 1) c d hl e4
    have hf3 : IntKind.i64.wrap (n + 1) = n + 1 := by rw [IntKind.wrap_i64]; omega
    have hf4 : IntKind.i64.wrap (x + 1) = x + 1 := by rw [IntKind.wrap_i64]; omega
    clear e1 e2 e3 e4 h1 h2 h3 h4 n1 n2 x1 x2 y1 y2
    rcases e5 with rfl | rfl | ⟨rfl, rfl⟩
    all_goals
      go_enter Tryd.func6, Tryd.ntmps6
      go_wp2_with fail
      refine (wbegun_any _ s0.laid).mono ?_; rintro e w1 ⟨rfl, b1⟩
      have s1 := s0.on b1
      clear s0 b1
      obtain ⟨g0, g1, g2, g3, g4, g5, g6, g7⟩ := s1.cells
      go_wp2_with fail
      clear g0 g1 g2 g3 g4 g5 g6 g7
      refine (pX _ s1.laid s1.row).mono ?_; rintro e w2 ⟨rfl, b2⟩
      have s2 := s1.on b2
      clear s1 b2
      obtain ⟨g0, g1, g2, g3, g4, g5, g6, g7⟩ := s2.cells
      go_wp2_with fail
      clear g0 g1 g2 g3 g4 g5 g6 g7
      refine (pY _ s2.laid s2.row).mono ?_; rintro e w3 ⟨rfl, b3⟩
      have s3 := s2.on b3
      clear s2 b3
      obtain ⟨g0, g1, g2, g3, g4, g5, g6, g7⟩ := s3.cells
      go_wp2_with fail
      clear g0 g1 g2 g3 g4 g5 g6 g7
      refine (pZ _ s3.laid s3.row).mono ?_; rintro e w4 ⟨rfl, b4⟩
      have s4 := s3.on b4
      clear s3 b4
      obtain ⟨g0, g1, g2, g3, g4, g5, g6, g7⟩ := s4.cells
      go_wp2_with fail
      clear g0 g1 g2 g3 g4 g5 g6 g7
      refine (pC _ s4.laid s4.row).mono ?_; rintro e w5 ⟨rfl, b5⟩
      have s5 := s4.on b5
      clear s4 b5
      go_wp2
      go_ret
      exact ⟨rfl, s5.below⟩
end Go.Proofs.YtpjpmfcbddkjnaaDoor
