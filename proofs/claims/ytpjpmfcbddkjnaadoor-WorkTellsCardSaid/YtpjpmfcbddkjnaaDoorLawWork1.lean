/- The walk of WorkTells: it answers true, whatever it is handed. -/
import Derived.Test.YtpjpmfcbddkjnaaDoorWLaw
namespace Go.Proofs.YtpjpmfcbddkjnaaDoor
open Go.RowKit
set_option maxRecDepth 100000 in
set_option maxHeartbeats 4000000 in
theorem workTells_any (R : Wk.Rst) (l : List Wk.Rl) (a : Option Addr) (cap : Nat) (n m t : Int) (w : World) (hl : l.length ≤ maxLen) (hw : Laid w) (hr : Row4 w a l) :
    Calls Tryd.prog 4 #[calV R a l.length cap, .int .i64 n, .int .i64 m, .int .i64 t] w fun e w' => e = .returned (.bool true) ∧ Below w.heap.size w w' := by
  obtain ⟨vi, ci, pI, rI⟩ := both_is R l a cap n hl
  obtain ⟨vn, cn, pN, rN⟩ := both_next R l a cap n hl
  obtain ⟨va, ca, pA, rA⟩ := both_add R l a cap n m hl
  obtain ⟨vc, cc, pC, rC⟩ := both_count R l a cap n t hl
  have s0 : WSt w (w.alloc (calBox R a l.length cap)) R l a l.length cap := WSt.start hw hr
  go_enter Tryd.func4, Tryd.ntmps4
  go_wp2_with fail
  refine (pI _ s0.laid s0.row).mono ?_; rintro e w1 ⟨rfl, b1⟩
  have s1 := s0.on b1
  clear s0 b1
  obtain ⟨g0, g1, g2, g3, g4, g5, g6, g7⟩ := s1.cells
  go_wp2_with fail
  clear g0 g1 g2 g3 g4 g5 g6 g7
  refine (pN _ s1.laid s1.row).mono ?_; rintro e w2 ⟨rfl, b2⟩
  have s2 := s1.on b2
  clear s1 b2
  obtain ⟨g0, g1, g2, g3, g4, g5, g6, g7⟩ := s2.cells
  go_wp2_with fail
  clear g0 g1 g2 g3 g4 g5 g6 g7
  refine (pA _ s2.laid s2.row).mono ?_; rintro e w3 ⟨rfl, b3⟩
  have s3 := s2.on b3
  clear s2 b3
  obtain ⟨g0, g1, g2, g3, g4, g5, g6, g7⟩ := s3.cells
  go_wp2_with fail
  clear g0 g1 g2 g3 g4 g5 g6 g7
  refine (pC _ s3.laid s3.row).mono ?_; rintro e w4 ⟨rfl, b4⟩
  have s4 := s3.on b4
  clear s3 b4
  obtain ⟨g0, g1, g2, g3, g4, g5, g6, g7⟩ := s4.cells
  go_wp2_with fail
  clear g0 g1 g2 g3 g4 g5 g6 g7
  refine (rI _ s4.row).mono ?_; rintro e w5 ⟨rfl, b5⟩
  have s5 := s4.on b5
  clear s4 b5
  obtain ⟨g0, g1, g2, g3, g4, g5, g6, g7⟩ := s5.cells
  go_wp2_with fail
  clear g0 g1 g2 g3 g4 g5 g6 g7
  refine (rN _ s5.row).mono ?_; rintro e w6 ⟨rfl, b6⟩
  have s6 := s5.on b6
  clear s5 b6
  obtain ⟨g0, g1, g2, g3, g4, g5, g6, g7⟩ := s6.cells
  go_wp2_with fail
  clear g0 g1 g2 g3 g4 g5 g6 g7
  refine (rA _ s6.row).mono ?_; rintro e w7 ⟨rfl, b7⟩
  have s7 := s6.on b7
  clear s6 b7
  obtain ⟨g0, g1, g2, g3, g4, g5, g6, g7⟩ := s7.cells
  go_wp2_with fail
  clear g0 g1 g2 g3 g4 g5 g6 g7
  refine (rC _ s7.row).mono ?_; rintro e w8 ⟨rfl, b8⟩
  have s8 := s7.on b8
  clear s7 b8
  obtain ⟨g0, g1, g2, g3, g4, g5, g6, g7⟩ := s8.cells
  go_wp2_with fail
  clear g0 g1 g2 g3 g4 g5 g6 g7
  refine (wbegun_any _ s8.laid).mono ?_; rintro e w9 ⟨rfl, b9⟩
  have s9 := s8.on b9
  clear s8 b9
  go_wp2
  go_ret
  exact ⟨rfl, s9.below⟩
end Go.Proofs.YtpjpmfcbddkjnaaDoor
