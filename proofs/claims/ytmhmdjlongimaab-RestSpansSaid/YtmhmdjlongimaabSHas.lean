/- The program's test whether a day is of a set: a closure over the day, handed to the library's look. -/
import Derived.Test.YtmhmdjlongimaabSLeaf
import Derived.Test.YtmhmdjlongimaabShA
namespace Go.Proofs.Ytmhmdjlongimaab
open Go.RowKit Go.BigFrame Go.Lib

def encSp (s : Spn.Sp) : List Value := [.int .i64 s.1, .int .i64 s.2]
/-- the closure of 'has': is a day one of a span? -/
theorem has_pred (n : Int) (B : Nat) (w : World) (hB : B < w.heap.size) (hcell : w.cell? ⟨B, 0, none⟩ = some (.int .i64 n)) :
    PredBelow Try.prog 33 #[.pointer (some ⟨B, 0, none⟩)] (fun x => .agg (encSp x).toArray) (fun s => decide (s.1 ≤ n) && decide (n < s.2)) w := fun W x hb => by
  have hc : W.cell? ⟨B, 0, none⟩ = some (.int .i64 n) := (hb.cell (p := ⟨B, 0, none⟩) hB).trans hcell
  have hBW : B < W.heap.size := Nat.lt_of_lt_of_le hB hb.size
  have hne : B ≠ W.heap.size := by omega
  have bA := hb.alloc hb.size (.cells #[.int .i64 x.1, .int .i64 x.2] 24)
  show Calls Try.prog 33 #[.agg #[.int .i64 x.1, .int .i64 x.2], .pointer (some ⟨B, 0, none⟩)] W _
  by_cases h1 : x.1 ≤ n
  · by_cases h2 : n < x.2
    · go_enter Try.func33, Try.ntmps33
      go_wp2
      go_ret
      exact ⟨by simp [h1, h2], bA⟩
    · go_enter Try.func33, Try.ntmps33
      go_wp2
      go_ret
      exact ⟨by simp [h2], bA⟩
  · have h1' : decide (x.1 ≤ n) = false := by simpa using h1
    go_enter Try.func33, Try.ntmps33
    go_wp2
    go_ret
    exact ⟨by simp, bA⟩
theorem idxNone (a : Option Addr) (c : Nat) (fv : Value) (w : World) :
    Calls Try.prog 45 #[.slice a 0 c, fv] w fun e w' => e = .returned (.int .i64 (-1)) ∧ w' = w := by
  go_enter Try.func45, Try.ntmps45
  go_wp2
  go_loopg [5, 8] 0 (fun _ _ s8 wr => s8 = .int .i64 0 ∧ wr = w)
  case atStart => exact ⟨rfl, rfl⟩
  case round =>
    obtain ⟨rfl, rfl⟩ := hrel
    go_wp2
    go_ret
    exact ⟨rfl, rfl⟩
theorem hasNone (a : Option Addr) (c : Nat) (fv : Value) (w : World) :
    Calls Try.prog 32 #[.slice a 0 c, fv] w fun e w' => e = .returned (.bool false) ∧ w' = w := by
  go_enter Try.func32, Try.ntmps32
  go_wp2_with fail
  refine (idxNone a c fv _).mono ?_
  rintro e w' ⟨rfl, rfl⟩
  go_wp2
  go_ret
  exact ⟨rfl, rfl⟩
set_option maxHeartbeats 1000000 in
theorem has_any (l : List Spn.Sp) (a : Option Addr) (cap : Nat) (n : Int) (w : World) (hl : l.length ≤ maxLen) (hr : Row2 w a l) :
    Calls Try.prog 25 #[.slice a l.length cap, .int .i64 n] w fun e w' => e = .returned (.bool (Spn.memB l n)) ∧ Below w.heap.size w w' := by
  have bA := (Below.refl w.heap.size w).alloc (Nat.le_refl _) (.cells #[.int .i64 n] 3)
  rcases hr with rfl | ⟨b, off, rfl, hb, hc⟩
  · go_enter Try.func25, Try.ntmps25
    go_wp2_with fail
    refine (hasNone a cap _ _).mono ?_
    rintro e w' ⟨rfl, rfl⟩
    go_wp2
    go_ret
    exact ⟨rfl, bA⟩
  · have eg : ∀ args w, (callFunc 33 args).run Try.prog w = .ok (.enter 33 args) w := enters_of Try.func33 (by kernel_rfl) rfl
    have hcon := AnyQ.slices_ContainsFunc Try.lhas 2 Try.isAgg24 Try.sizeOf24 encSp (fun _ => rfl) (fun s => decide (s.1 ≤ n) && decide (n < s.2)) 33 #[.pointer (some ⟨w.heap.size, 0, none⟩)] eg b off l.length cap l (w.alloc (.cells #[.int .i64 n] 3))
      (has_pred n w.heap.size _ (by simp) (by simp)) (Nat.le_refl _) (by unfold maxLen at hl; omega) (by simp; omega) (fun j hj i v hi => by
        refine Lib.cell?_alloc_some _ ?_
        have h1 := hc j hj
        have e0 : l[j]! = l.getD j (0, 0) := by simp [List.getD, hj]
        rw [e0] at hi
        generalize l.getD j (0, 0) = y at hi h1
        match i, hi with
        | 0, hi => simp [encSp] at hi; rw [← hi]; exact h1.1
        | 1, hi => simp [encSp] at hi; rw [← hi]; exact h1.2
        | i + 2, hi => simp [encSp] at hi)
    change Calls Try.prog 32 _ _ _ at hcon
    have e1 : ((l.take l.length).any fun s => decide (s.1 ≤ n) && decide (n < s.2)) = Spn.memB l n := by rw [List.take_length]; rfl
    rw [e1] at hcon
    clear hc e1
    generalize Spn.memB l n = r at hcon ⊢
    go_enter Try.func25, Try.ntmps25
    go_wp2_with fail
    refine hcon.mono ?_
    rintro e w' ⟨rfl, hb'⟩
    clear hcon
    go_wp2
    go_ret
    exact ⟨rfl, below_on bA (Nat.le_refl _) hb'⟩
set_option maxHeartbeats 400000 in
theorem pHas (l : List Spn.Sp) (a : Option Addr) (cap : Nat) (n : Int) (w : World) (hl : l.length ≤ maxLen) (hr : Row2 w a l) :
    Calls Try.prog 22 #[.slice a l.length cap, .int .i64 n] w fun e w' => e = .returned (.tuple #[.bool (decide (Spn.chk l = 0) && Spn.memB l n), .int .i64 (Spn.chk l)]) ∧ Below w.heap.size w w' := by
  by_cases h : Spn.chk l = 0
  · have e0 : (decide (Spn.chk l = 0) && Spn.memB l n) = Spn.memB l n := by simp [h]
    rw [e0, h]
    go_enter Try.func22, Try.ntmps22
    go_wp2_with fail
    refine (pCheck l a cap w hl hr).mono ?_
    rintro e w1 ⟨rfl, b⟩
    rw [h]
    clear e0 h
    go_wp2_with fail
    refine (has_any l a cap n w1 hl (hr.below b)).mono ?_
    rintro e w2 ⟨rfl, b2⟩
    go_wp2
    go_ret2
    exact ⟨rfl, below_on b (Nat.le_refl _) b2⟩
  · have e0 : (decide (Spn.chk l = 0) && Spn.memB l n) = false := by simp [h]
    rw [e0]
    have hne : (Spn.chk l != 0) = true := by simpa using h
    go_enter Try.func22, Try.ntmps22
    go_wp2_with fail
    refine (pCheck l a cap w hl hr).mono ?_
    rintro e w1 ⟨rfl, b⟩
    clear e0
    go_wp2
    go_ret2
    exact ⟨rfl, b⟩
end Go.Proofs.Ytmhmdjlongimaab
