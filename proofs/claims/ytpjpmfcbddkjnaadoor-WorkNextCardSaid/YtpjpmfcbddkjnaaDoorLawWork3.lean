/- The walk of WorkNext: it answers true, whatever it is handed. -/
import Derived.Test.YtpjpmfcbddkjnaaDoorWLaw
import Derived.Test.YtpjpmfcbddkjnaaDoorWk3
namespace Go.Proofs.YtpjpmfcbddkjnaaDoor
open Go.RowKit
theorem pIs_at (R : Wk.Rst) (l : List Wk.Rl) (a : Option Addr) (cap : Nat) (n : Int) (b : Bool) (c : Int) (hl : l.length ≤ maxLen) (h1 : Wk.isB R l n = b) (h2 : Wk.isC R l n = c) :
    ∀ w, Laid w → Row4 w a l → Calls Tryd.prog 15 #[calV R a l.length cap, .int .i64 n] w fun e w' => e = .returned (.tuple #[.bool b, .int .i64 c]) ∧ Below w.heap.size w w' := by
  subst h1 h2
  exact fun w hw hr => pIs R l a cap n w hl hw hr
theorem pNext_at (R : Wk.Rst) (l : List Wk.Rl) (a : Option Addr) (cap : Nat) (n x c : Int) (hl : l.length ≤ maxLen) (h : Wk.told R l (Wk.next R l n) = (x, c)) :
    ∀ w, Laid w → Row4 w a l → Calls Tryd.prog 16 #[calV R a l.length cap, .int .i64 n] w fun e w' => e = .returned (.tuple #[.int .i64 x, .int .i64 c]) ∧ Below w.heap.size w w' := by
  intro w hw hr
  have := pNext R l a cap n w hl hw hr
  rw [h] at this; exact this
set_option maxRecDepth 100000 in
set_option maxHeartbeats 4000000 in
theorem workNext_any (R : Wk.Rst) (l : List Wk.Rl) (a : Option Addr) (cap : Nat) (n k : Int) (w : World) (hl : l.length ≤ maxLen) (hw : Laid w) (hr : Row4 w a l) :
    Calls Tryd.prog 5 #[calV R a l.length cap, .int .i64 n, .int .i64 k] w fun e w' => e = .returned (.bool true) ∧ Below w.heap.size w w' := by
  have s0 : WSt w (w.alloc (calBox R a l.length cap)) R l a l.length cap := WSt.start hw hr
  rcases Wk.told_next R l n with ⟨hc, hx⟩ | ⟨x, hx, n1, nx, x2, b1, c1, hj⟩
  · obtain ⟨c, hc'⟩ : ∃ c, (Wk.told R l (Wk.next R l n)).2 = c := ⟨_, rfl⟩
    have pN := pNext_at R l a cap n 0 c hl (by rw [← hc', ← hx])
    rw [hc'] at hc
    have hd : (c != 0) = true := by simpa using hc
    clear hx hc' hc
    go_enter Tryd.func5, Tryd.ntmps5
    go_wp2_with fail
    refine (pN _ s0.laid s0.row).mono ?_; rintro e w1 ⟨rfl, b1⟩
    have s1 := s0.on b1
    clear s0 b1
    obtain ⟨g0, g1, g2, g3, g4, g5, g6, g7⟩ := s1.cells
    go_wp2_with fail
    clear g0 g1 g2 g3 g4 g5 g6 g7
    refine (wbegun_any _ s1.laid).mono ?_; rintro e w2 ⟨rfl, b2⟩
    have s2 := s1.on b2
    clear s1 b2
    go_wp2
    go_ret
    exact ⟨rfl, s2.below⟩
  · have pN := pNext_at R l a cap n x 0 hl hx
    have pX := pIs_at R l a cap x true 0 hl b1 c1
    have hd1 : decide (x < n) = false := decide_eq_false (by omega)
    clear b1 c1 hx
    by_cases hk1 : k < n
    · have hk1' : decide (k < n) = true := decide_eq_true hk1
      clear hj n1 nx x2 hk1
      go_enter Tryd.func5, Tryd.ntmps5
      go_wp2_with fail
      refine (pN _ s0.laid s0.row).mono ?_; rintro e w1 ⟨rfl, b1⟩
      have s1 := s0.on b1
      clear s0 b1
      obtain ⟨g0, g1, g2, g3, g4, g5, g6, g7⟩ := s1.cells
      go_wp2_with fail
      clear g0 g1 g2 g3 g4 g5 g6 g7
      refine (wbegun_any _ s1.laid).mono ?_; rintro e w2 ⟨rfl, b2⟩
      have s2 := s1.on b2
      clear s1 b2
      obtain ⟨g0, g1, g2, g3, g4, g5, g6, g7⟩ := s2.cells
      go_wp2_with fail
      clear g0 g1 g2 g3 g4 g5 g6 g7
      refine (pX _ s2.laid s2.row).mono ?_; rintro e w3 ⟨rfl, b3⟩
      have s3 := s2.on b3
      clear s2 b3
      go_wp2
      go_ret
      exact ⟨rfl, s3.below⟩
    · have hk1' : decide (k < n) = false := decide_eq_false hk1
      by_cases hk2 : x ≤ k
      · have hk2' : decide (x ≤ k) = true := decide_eq_true hk2
        clear hj n1 nx x2 hk1 hk2
        go_enter Tryd.func5, Tryd.ntmps5
        go_wp2_with fail
        refine (pN _ s0.laid s0.row).mono ?_; rintro e w1 ⟨rfl, b1⟩
        have s1 := s0.on b1
        clear s0 b1
        obtain ⟨g0, g1, g2, g3, g4, g5, g6, g7⟩ := s1.cells
        go_wp2_with fail
        clear g0 g1 g2 g3 g4 g5 g6 g7
        refine (wbegun_any _ s1.laid).mono ?_; rintro e w2 ⟨rfl, b2⟩
        have s2 := s1.on b2
        clear s1 b2
        obtain ⟨g0, g1, g2, g3, g4, g5, g6, g7⟩ := s2.cells
        go_wp2_with fail
        clear g0 g1 g2 g3 g4 g5 g6 g7
        refine (pX _ s2.laid s2.row).mono ?_; rintro e w3 ⟨rfl, b3⟩
        have s3 := s2.on b3
        clear s2 b3
        go_wp2
        go_ret
        exact ⟨rfl, s3.below⟩
      · have hk2' : decide (x ≤ k) = false := decide_eq_false hk2
        obtain ⟨b2, c2⟩ := hj k (by omega) (by omega)
        have pK := pIs_at R l a cap k false 0 hl b2 c2
        clear hj n1 nx x2 hk1 hk2 b2 c2
        go_enter Tryd.func5, Tryd.ntmps5
        go_wp2_with fail
        refine (pN _ s0.laid s0.row).mono ?_; rintro e w1 ⟨rfl, b1⟩
        have s1 := s0.on b1
        clear s0 b1
        obtain ⟨g0, g1, g2, g3, g4, g5, g6, g7⟩ := s1.cells
        go_wp2_with fail
        clear g0 g1 g2 g3 g4 g5 g6 g7
        refine (wbegun_any _ s1.laid).mono ?_; rintro e w2 ⟨rfl, b2⟩
        have s2 := s1.on b2
        clear s1 b2
        obtain ⟨g0, g1, g2, g3, g4, g5, g6, g7⟩ := s2.cells
        go_wp2_with fail
        clear g0 g1 g2 g3 g4 g5 g6 g7
        refine (pX _ s2.laid s2.row).mono ?_; rintro e w3 ⟨rfl, b3⟩
        have s3 := s2.on b3
        clear s2 b3
        obtain ⟨g0, g1, g2, g3, g4, g5, g6, g7⟩ := s3.cells
        go_wp2_with fail
        clear g0 g1 g2 g3 g4 g5 g6 g7
        refine (pK _ s3.laid s3.row).mono ?_; rintro e w4 ⟨rfl, b4⟩
        have s4 := s3.on b4
        clear s3 b4
        go_wp2
        go_ret
        exact ⟨rfl, s4.below⟩
end Go.Proofs.YtpjpmfcbddkjnaaDoor
