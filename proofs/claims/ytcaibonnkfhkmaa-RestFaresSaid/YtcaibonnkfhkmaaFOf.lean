/- The walks of fares: the price of zones a to b with so many percent off. -/
import Derived.Test.YtcaibonnkfhkmaaFCk
import Derived.Test.YtcaibonnkfhkmaaFRk
import Derived.Test.YtcaibonnkfhkmaaPPart2
import Derived.Test.YtcaibonnkfhkmaaPRef3
namespace Go.Proofs.Ytcaibonnkfhkmaa
open Go.RowKit

namespace Fr
def g1 (n : Nat) (a : Int) : Bool := decide (0 ≤ a ∧ a ≤ (n : Int) - 1)
def g2 (n : Nat) (a b : Int) : Bool := decide (a ≤ b ∧ b ≤ (n : Int) - 1)
def g3 (p : Int) : Bool := decide (0 ≤ p ∧ p ≤ 100)
def good (f : List (List Int)) (a b p : Int) : Bool := g1 f.length a && g2 f.length a b && g3 p
def ofV (f : List (List Int)) (a b p way : Int) : Int := if chk f ≠ 0 then 0 else if good f a b p then Pen.part (pr f a.toNat b.toNat) (100 - p) 100 way else 0
def ofE (f : List (List Int)) (a b p way : Int) : Int := if chk f ≠ 0 then chk f else if good f a b p then Pen.partE (pr f a.toNat b.toNat) (100 - p) 100 way else 3
end Fr
set_option maxRecDepth 100000 in
set_option maxHeartbeats 800000 in
theorem pOf_any {f : List (List Int)} (ad : Option Addr) (cap : Nat) (a b p way : Int) (w : World) (hl : f.length ≤ maxLen) (hm : Mat w ad f) :
    Calls Try.prog 10 #[.slice ad f.length cap, .int .i64 a, .int .i64 b, .int .i64 p, .int .i64 way] w fun e w' => e = .returned (.tuple #[.int .i64 (Fr.ofV f a b p way), .int .i64 (Fr.ofE f a b p way)]) ∧ Below w.heap.size w w' := by
  have C := fcheck_any f ad cap w hl hm
  have HM : Hid (Mat w ad f) := hm
  by_cases hc : Fr.chk f = 0
  · obtain ⟨hn1, hn6, hs, hP⟩ := Fr.chk_zero hc
    have HS : Hid (Sq f) := hs
    have HV : Hid (Fr.ofV f a b p way = if Fr.good f a b p then Pen.part (Fr.pr f a.toNat b.toNat) (100 - p) 100 way else 0) := by show _ = _; unfold Fr.ofV; rw [if_neg (by omega)]
    have HE : Hid (Fr.ofE f a b p way = if Fr.good f a b p then Pen.partE (Fr.pr f a.toNat b.toNat) (100 - p) 100 way else 3) := by show _ = _; unfold Fr.ofE; rw [if_neg (by omega)]
    rw [hc] at C
    have HG : Hid (Fr.good f a b p = (Fr.g1 f.length a && Fr.g2 f.length a b && Fr.g3 p)) := rfl
    obtain ⟨n, hn⟩ : ∃ n, f.length = n := ⟨_, rfl⟩
    have HN : Hid (f.length = n) := hn
    rw [hn] at hn1 hn6 HG C ⊢
    clear hs hP hn hc hm hl
    have w1 := fun b' h => within_is a 0 ((n : Int) - 1) b' w h
    have w2 := fun b' h => within_is b a ((n : Int) - 1) b' w h
    have w3 := fun b' h => within_is p 0 100 b' w h
    cases e1 : Fr.g1 n a with
    | false =>
      rw [e1] at HG
      have W1 := w1 false e1
      have HGG : Hid (Fr.good f a b p = false) := HG.out
      clear w1 w2 w3 e1
      go_enter Try.func10, Try.ntmps10
      go_wp2_with fail
      refine C.mono ?_; rintro e w' ⟨rfl, rfl⟩
      go_wp2_with fail
      refine W1.mono ?_; rintro e w' ⟨rfl, rfl⟩
      go_wp2
      go_ret2
      exact ⟨by rw [HV.out, HE.out, HGG.out]; rfl, Below.refl _ _⟩
    | true =>
    cases e2 : Fr.g2 n a b with
    | false =>
      rw [e1, e2] at HG
      have W1 := w1 true e1
      have W2 := w2 false e2
      have HGG : Hid (Fr.good f a b p = false) := HG.out
      clear w1 w2 w3 e1 e2
      go_enter Try.func10, Try.ntmps10
      go_wp2_with fail
      refine C.mono ?_; rintro e w' ⟨rfl, rfl⟩
      go_wp2_with fail
      refine W1.mono ?_; rintro e w' ⟨rfl, rfl⟩
      go_wp2_with fail
      refine W2.mono ?_; rintro e w' ⟨rfl, rfl⟩
      go_wp2
      go_ret2
      exact ⟨by rw [HV.out, HE.out, HGG.out]; rfl, Below.refl _ _⟩
    | true =>
    cases e3 : Fr.g3 p with
    | false =>
      rw [e1, e2, e3] at HG
      have W1 := w1 true e1
      have W2 := w2 true e2
      have W3 := w3 false e3
      have HGG : Hid (Fr.good f a b p = false) := HG.out
      clear w1 w2 w3 e1 e2 e3
      go_enter Try.func10, Try.ntmps10
      go_wp2_with fail
      refine C.mono ?_; rintro e w' ⟨rfl, rfl⟩
      go_wp2_with fail
      refine W1.mono ?_; rintro e w' ⟨rfl, rfl⟩
      go_wp2_with fail
      refine W2.mono ?_; rintro e w' ⟨rfl, rfl⟩
      go_wp2_with fail
      refine W3.mono ?_; rintro e w' ⟨rfl, rfl⟩
      go_wp2
      go_ret2
      exact ⟨by rw [HV.out, HE.out, HGG.out]; rfl, Below.refl _ _⟩
    | true =>
      rw [e1, e2, e3] at HG
      have W1 := w1 true e1
      have W2 := w2 true e2
      have W3 := w3 true e3
      have HGG : Hid (Fr.good f a b p = true) := HG.out
      have h1 : 0 ≤ a ∧ a ≤ (n : Int) - 1 := by simpa [Fr.g1] using e1
      have h2 : a ≤ b ∧ b ≤ (n : Int) - 1 := by simpa [Fr.g2] using e2
      have h3 : 0 ≤ p ∧ p ≤ 100 := by simpa [Fr.g3] using e3
      have PR := price_at HS.out ad cap n a.toNat b.toNat a b w HN.out (by omega) (by omega) HM.out (by omega) (by omega)
      generalize Fr.pr f a.toNat b.toNat = x at *
      have PP := pPart_any x (100 - p) 100 way w
      clear w1 w2 w3 e1 e2 e3
      go_enter Try.func10, Try.ntmps10
      go_wp2_with fail
      refine C.mono ?_; rintro e w' ⟨rfl, rfl⟩
      go_wp2_with fail
      refine W1.mono ?_; rintro e w' ⟨rfl, rfl⟩
      go_wp2_with fail
      refine W2.mono ?_; rintro e w' ⟨rfl, rfl⟩
      go_wp2_with fail
      refine W3.mono ?_; rintro e w' ⟨rfl, rfl⟩
      go_wp2_with fail
      refine PR.mono ?_; rintro e w' ⟨rfl, rfl⟩
      go_wp2_with fail
      refine PP.mono ?_; rintro e w' ⟨rfl, hb⟩
      go_wp2
      go_ret2
      exact ⟨by rw [HV.out, HE.out, HGG.out]; rfl, hb⟩
  · have HV : Hid (Fr.ofV f a b p way = 0) := by show _ = _; unfold Fr.ofV; rw [if_pos hc]
    have HE : Hid (Fr.ofE f a b p way = Fr.chk f) := by show _ = _; unfold Fr.ofE; rw [if_pos hc]
    have hc' : (Fr.chk f != 0) = true := by simpa using hc
    generalize Fr.chk f = c at *
    clear hm
    go_enter Try.func10, Try.ntmps10
    go_wp2_with (go_at_call 14; refine C.mono ?_; rintro e w' ⟨rfl, rfl⟩)
    go_ret2
    exact ⟨by rw [HV.out, HE.out]; rfl, Below.refl _ _⟩
end Go.Proofs.Ytcaibonnkfhkmaa
