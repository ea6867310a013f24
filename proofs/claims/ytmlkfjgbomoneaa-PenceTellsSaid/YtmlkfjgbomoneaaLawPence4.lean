/- The walk of PenceTells: it answers true, whatever it is handed. -/
import Derived.Test.YtmlkfjgbomoneaaPBegun
namespace Go.Proofs.Ytmlkfjgbomoneaa
open Go.RowKit

theorem refPart_at (p num d way x e : Int) (w : World) (hx : Pen.part p num d way = x) (he : Pen.partE p num d way = e) :
    Calls Try.prog 11 #[.int .i64 p, .int .i64 num, .int .i64 d, .int .i64 way] w fun e' w' => e' = .returned (.tuple #[.int .i64 x, .int .i64 e]) ∧ w' = w := by
  subst hx he; exact refPart_any p num d way w
theorem refSum_at (l : List Int) (x e : Int) (a : Option Addr) (cap : Nat) (w : World) (hl : l.length ≤ 32) (hr : Row1 w a l) (hx : Pen.tot l = x) (he : Pen.totE l = e) :
    Calls Try.prog 10 #[.slice a l.length cap] w fun e' w' => e' = .returned (.tuple #[.int .i64 x, .int .i64 e]) ∧ w' = w := by
  subst hx he; exact refSum_any l a cap w hl hr
set_option maxHeartbeats 1000000 in
theorem penceTells_any (a b : Int) (l : List Int) (al : Option Addr) (cap : Nat) (num d way : Int) (w : World) (hl : l.length ≤ maxLen) (hr : Row1 w al l) :
    Calls Try.prog 3 #[.int .i64 a, .int .i64 b, .slice al l.length cap, .int .i64 num, .int .i64 d, .int .i64 way] w fun e w' => e = .returned (.bool true) ∧ Below w.heap.size w w' := by
  obtain ⟨n, hn⟩ : ∃ n, Pen.tot [a, b] = n := ⟨_, rfl⟩
  obtain ⟨en, hen⟩ : ∃ n, Pen.totE [a, b] = n := ⟨_, rfl⟩
  obtain ⟨s, hs⟩ : ∃ n, Pen.tot l = n := ⟨_, rfl⟩
  obtain ⟨es, hes⟩ : ∃ n, Pen.totE l = n := ⟨_, rfl⟩
  obtain ⟨p, hp⟩ : ∃ n, Pen.part a num d way = n := ⟨_, rfl⟩
  obtain ⟨ep, hep⟩ : ∃ n, Pen.partE a num d way = n := ⟨_, rfl⟩
  have N : Hid (Pen.tot [a, b] = n ∧ Pen.totE [a, b] = en) := ⟨hn, hen⟩
  have S : Hid (Pen.tot l = s ∧ Pen.totE l = es) := ⟨hs, hes⟩
  have P : Hid (Pen.part a num d way = p ∧ Pen.partE a num d way = ep) := ⟨hp, hep⟩
  have HL : Hid (l.length ≤ maxLen) := hl
  clear hn hen hs hes hp hep
  unfold maxLen at hl
  by_cases h32 : 32 < l.length
  · have h' : (32 : Int) < (l.length : Int) := by omega
    go_enter Try.func3, Try.ntmps3
    go_wp2_with fail
    refine (pAdd_at _ _ n en _ N.out.1 N.out.2).mono ?_; rintro _ w1 ⟨rfl, q1⟩
    have r1 := hr.below q1
    go_wp2_with fail
    refine (pSum_many l al cap _ HL.out h32).mono ?_; rintro _ _ ⟨rfl, rfl⟩
    go_wp2_with fail
    refine (pPart_at _ _ _ _ p ep _ P.out.1 P.out.2).mono ?_; rintro _ w3 ⟨rfl, q3⟩
    have B3 := below_on q1 (Nat.le_refl _) q3
    have r3 := r1.below q3
    clear q1 q3 r1
    go_wp2_with fail
    refine (refSum_at [a, b] n en _ _ _ (by simp) (row1_two _ _ _ _) N.out.1 N.out.2).mono ?_; rintro _ _ ⟨rfl, rfl⟩
    have q4 := below_box w3 (.cells #[.int .i64 a, .int .i64 b] 3)
    have B4 := below_on B3 (Nat.le_refl _) q4
    have r4 := r3.below q4
    clear B3 q4 r3
    go_wp2_with fail
    refine (refSum_long l al cap _ HL.out r4).mono ?_; rintro _ _ ⟨⟨x, c, rfl⟩, rfl⟩
    go_wp2_with fail
    refine (refPart_at _ _ _ _ p ep _ P.out.1 P.out.2).mono ?_; rintro _ _ ⟨rfl, rfl⟩
    go_wp2_with fail
    refine (pbegun_any _).mono ?_; rintro _ w5 ⟨rfl, q5⟩
    have B5 := below_on B4 (Nat.le_refl _) q5
    clear B4 q5
    go_wp2
    go_ret
    exact ⟨rfl, B5⟩
  · have h32' : l.length ≤ 32 := by omega
    have h' : (l.length : Int) ≤ 32 := by omega
    go_enter Try.func3, Try.ntmps3
    go_wp2_with fail
    refine (pAdd_at _ _ n en _ N.out.1 N.out.2).mono ?_; rintro _ w1 ⟨rfl, q1⟩
    have r1 := hr.below q1
    go_wp2_with fail
    refine (pSum_at l s es al cap _ h32' r1 S.out.1 S.out.2).mono ?_; rintro _ _ ⟨rfl, rfl⟩
    go_wp2_with fail
    refine (pPart_at _ _ _ _ p ep _ P.out.1 P.out.2).mono ?_; rintro _ w3 ⟨rfl, q3⟩
    have B3 := below_on q1 (Nat.le_refl _) q3
    have r3 := r1.below q3
    clear q1 q3 r1
    go_wp2_with fail
    refine (refSum_at [a, b] n en _ _ _ (by simp) (row1_two _ _ _ _) N.out.1 N.out.2).mono ?_; rintro _ _ ⟨rfl, rfl⟩
    have q4 := below_box w3 (.cells #[.int .i64 a, .int .i64 b] 3)
    have B4 := below_on B3 (Nat.le_refl _) q4
    have r4 := r3.below q4
    clear B3 q4 r3
    go_wp2_with fail
    refine (refSum_at l s es al cap _ h32' r4 S.out.1 S.out.2).mono ?_; rintro _ _ ⟨rfl, rfl⟩
    go_wp2_with fail
    refine (refPart_at _ _ _ _ p ep _ P.out.1 P.out.2).mono ?_; rintro _ _ ⟨rfl, rfl⟩
    go_wp2_with fail
    refine (pbegun_any _).mono ?_; rintro _ w5 ⟨rfl, q5⟩
    have B5 := below_on B4 (Nat.le_refl _) q5
    clear B4 q5
    go_wp2
    go_ret
    exact ⟨rfl, B5⟩
end Go.Proofs.Ytmlkfjgbomoneaa
