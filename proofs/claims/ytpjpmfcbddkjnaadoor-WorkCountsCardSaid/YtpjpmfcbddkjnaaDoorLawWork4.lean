/- The walk of WorkCounts: it answers true, whatever it is handed. -/
import Derived.Test.YtpjpmfcbddkjnaaDoorLawWork3
namespace Go.Proofs.YtpjpmfcbddkjnaaDoor
open Go.RowKit
theorem pCount_at (R : Wk.Rst) (l : List Wk.Rl) (a : Option Addr) (cap : Nat) (n m x c : Int) (hl : l.length ≤ maxLen) (h : Wk.told R l (Wk.count R l n m) = (x, c)) :
    ∀ w, Laid w → Row4 w a l → Calls Tryd.prog 18 #[calV R a l.length cap, .int .i64 n, .int .i64 m] w fun e w' => e = .returned (.tuple #[.int .i64 x, .int .i64 c]) ∧ Below w.heap.size w w' := by
  intro w hw hr
  have := pCount R l a cap n m w hl hw hr
  rw [h] at this; exact this
set_option maxRecDepth 100000 in
set_option maxHeartbeats 4000000 in
theorem workCounts_any (R : Wk.Rst) (l : List Wk.Rl) (a : Option Addr) (cap : Nat) (n k m : Int) (w : World) (hl : l.length ≤ maxLen) (hw : Laid w) (hr : Row4 w a l) :
    Calls Tryd.prog 7 #[calV R a l.length cap, .int .i64 n, .int .i64 k, .int .i64 m] w fun e w' => e = .returned (.bool true) ∧ Below w.heap.size w w' := by
  have s0 : WSt w (w.alloc (calBox R a l.length cap)) R l a l.length cap := WSt.start hw hr
  rcases Wk.told_count R l n m with ⟨hc, hx⟩ | ⟨x, hx, n1, nx, x2, x0, xb, hj⟩
  · obtain ⟨c, hc'⟩ : ∃ c, (Wk.told R l (Wk.count R l n m)).2 = c := ⟨_, rfl⟩
    have pC := pCount_at R l a cap n m 0 c hl (by rw [← hc', ← hx])
    rw [hc'] at hc
    have hd : (c != 0) = true := by simpa using hc
    clear hx hc' hc
    go_enter Tryd.func7, Tryd.ntmps7
    go_wp2_with fail
    refine (pC _ s0.laid s0.row).mono ?_; rintro e w1 ⟨rfl, b1⟩
    have s1 := s0.on b1
    clear s0 b1
    go_wp2_with fail
    refine (wbegun_any _ s1.laid).mono ?_; rintro e w2 ⟨rfl, b2⟩
    have s2 := s1.on b2
    clear s1 b2
    go_wp2
    go_ret
    exact ⟨rfl, s2.below⟩
  · have pC := pCount_at R l a cap n m x 0 hl hx
    have hd1 : decide (x < 0) = false := decide_eq_false (by omega)
    have hf : IntKind.i64.wrap (m - n) = m - n := by rw [IntKind.wrap_i64]; omega
    have hd2 : decide (m - n < x) = false := decide_eq_false (by omega)
    clear hx
    by_cases hk1 : k < n
    · have hk1' : decide (k < n) = true := decide_eq_true hk1
      clear hj n1 nx x2 hk1 x0 xb
      go_enter Tryd.func7, Tryd.ntmps7
      go_wp2_with fail
      refine (pC _ s0.laid s0.row).mono ?_; rintro e w1 ⟨rfl, b1⟩
      have s1 := s0.on b1
      clear s0 b1
      go_wp2_with fail
      refine (wbegun_any _ s1.laid).mono ?_; rintro e w2 ⟨rfl, b2⟩
      have s2 := s1.on b2
      clear s1 b2
      go_wp2
      go_ret
      exact ⟨rfl, s2.below⟩
    · have hk1' : decide (k < n) = false := decide_eq_false hk1
      by_cases hk2 : m < k
      · have hk2' : decide (m < k) = true := decide_eq_true hk2
        clear hj n1 nx x2 hk1 hk2 x0 xb
        go_enter Tryd.func7, Tryd.ntmps7
        go_wp2_with fail
        refine (pC _ s0.laid s0.row).mono ?_; rintro e w1 ⟨rfl, b1⟩
        have s1 := s0.on b1
        clear s0 b1
        go_wp2_with fail
        refine (wbegun_any _ s1.laid).mono ?_; rintro e w2 ⟨rfl, b2⟩
        have s2 := s1.on b2
        clear s1 b2
        go_wp2
        go_ret
        exact ⟨rfl, s2.below⟩
      · have hk2' : decide (m < k) = false := decide_eq_false hk2
        obtain ⟨y, z, hy, hz, e, y1, z1, y2, z2⟩ := hj k (by omega) (by omega)
        have pY := pCount_at R l a cap n k y 0 hl hy
        have pZ := pCount_at R l a cap k m z 0 hl hz
        have hf2 : IntKind.i64.wrap (y + z) = x := by rw [IntKind.wrap_i64]; omega
        clear hj n1 nx x2 hk1 hk2 x0 xb hy hz e y1 z1 y2 z2
        go_enter Tryd.func7, Tryd.ntmps7
        go_wp2_with fail
        refine (pC _ s0.laid s0.row).mono ?_; rintro e w1 ⟨rfl, b1⟩
        have s1 := s0.on b1
        clear s0 b1
        go_wp2_with fail
        refine (wbegun_any _ s1.laid).mono ?_; rintro e w2 ⟨rfl, b2⟩
        have s2 := s1.on b2
        clear s1 b2
        obtain ⟨g0, g1, g2, g3, g4, g5, g6, g7⟩ := s2.cells
        go_wp2_with fail
        clear g0 g1 g2 g3 g4 g5 g6 g7
        refine (pY _ s2.laid s2.row).mono ?_; rintro e w3 ⟨rfl, b3⟩
        have s3 := s2.on b3
        clear s2 b3
        obtain ⟨g0, g1, g2, g3, g4, g5, g6, g7⟩ := s3.cells
        go_wp2_with fail
        clear g0 g1 g2 g3 g4 g5 g6 g7
        refine (pZ _ s3.laid s3.row).mono ?_; rintro e w4 ⟨rfl, b4⟩
        have s4 := s3.on b4
        clear s3 b4
        go_wp2
        go_ret
        exact ⟨rfl, s4.below⟩
end Go.Proofs.YtpjpmfcbddkjnaaDoor
