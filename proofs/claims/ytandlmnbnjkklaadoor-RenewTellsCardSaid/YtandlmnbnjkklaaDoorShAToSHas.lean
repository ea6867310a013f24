/- Where the functions of the standard library that the program calls lie in this dump, so that what is proved of them once can be used here. Made by shelf.py. The program's test whether a day is of a set: a closure over the day, handed to the library's look. -/
import Derived.Shelf.SlGeneric
import Derived.Shelf.SlicesQ.IndexFunc
import Derived.Ground.SlgfProg
import Derived.Test.YtandlmnbnjkklaaDoorProg
import Derived.Test.YtandlmnbnjkklaaDoorSLeaf
namespace Go.Proofs
open Go.Shelf
def Tryd.lhas_ren : Go.Shelf.Ren := ⟨fun | 8 => 63 | 6 => 74 | n => n, fun | 22 => 22 | 23 => 47 | 25 => 71 | 4 => 4 | 3 => 3 | 0 => 0 | n => n, fun | n => n⟩
theorem Tryd.lhas : Go.Proofs.SlLaysH0.n8 Tryd.prog Tryd.lhas_ren := {
  mixed := by kernel_rfl
  f6 := ⟨Tryd.f74.name, by decide, Tryd.func74.trans (congrArg some (by kernel_rfl))⟩
  f8 := ⟨Tryd.f63.name, by decide, Tryd.func63.trans (congrArg some (by kernel_rfl))⟩
  t0 := Tryd.underlying0
  a0 := Tryd.isAgg0
  z0 := Tryd.sizeOf0
  v0 := Tryd.zeroValue0
  t3 := Tryd.underlying3
  a3 := Tryd.isAgg3
  z3 := Tryd.sizeOf3
  v3 := Tryd.zeroValue3
  t4 := Tryd.underlying4
  a4 := Tryd.isAgg4
  z4 := Tryd.sizeOf4
  v4 := Tryd.zeroValue4
  t22 := Tryd.underlying22
  a22 := Tryd.isAgg22
  z22 := Tryd.sizeOf22
  v22 := Tryd.zeroValue22
  t25 := Tryd.underlying71
  a25 := Tryd.isAgg71
  z25 := Tryd.sizeOf71
  v25 := Tryd.zeroValue71 }
end Go.Proofs
namespace Go.Proofs.YtandlmnbnjkklaaDoor
open Go.RowKit Go.BigFrame Go.Lib

def encSp (s : Spn.Sp) : List Value := [.int .i64 s.1, .int .i64 s.2]
/-- the closure of 'has': is a day one of a span? -/
theorem has_pred (n : Int) (B : Nat) (w : World) (hB : B < w.heap.size) (hcell : w.cell? ⟨B, 0, none⟩ = some (.int .i64 n)) :
    PredBelow Tryd.prog 64 #[.pointer (some ⟨B, 0, none⟩)] (fun x => .agg (encSp x).toArray) (fun s => decide (s.1 ≤ n) && decide (n < s.2)) w := fun W x hb => by
  have hc : W.cell? ⟨B, 0, none⟩ = some (.int .i64 n) := (hb.cell (p := ⟨B, 0, none⟩) hB).trans hcell
  have hBW : B < W.heap.size := Nat.lt_of_lt_of_le hB hb.size
  have hne : B ≠ W.heap.size := by omega
  have bA := hb.alloc hb.size (.cells #[.int .i64 x.1, .int .i64 x.2] 47)
  show Calls Tryd.prog 64 #[.agg #[.int .i64 x.1, .int .i64 x.2], .pointer (some ⟨B, 0, none⟩)] W _
  by_cases h1 : x.1 ≤ n
  · by_cases h2 : n < x.2
    · go_enter Tryd.func64, Tryd.ntmps64
      go_wp2
      go_ret
      exact ⟨by simp [h1, h2], bA⟩
    · go_enter Tryd.func64, Tryd.ntmps64
      go_wp2
      go_ret
      exact ⟨by simp [h2], bA⟩
  · have h1' : decide (x.1 ≤ n) = false := by simpa using h1
    go_enter Tryd.func64, Tryd.ntmps64
    go_wp2
    go_ret
    exact ⟨by simp, bA⟩
theorem idxNone (a : Option Addr) (c : Nat) (fv : Value) (w : World) :
    Calls Tryd.prog 74 #[.slice a 0 c, fv] w fun e w' => e = .returned (.int .i64 (-1)) ∧ w' = w := by
  go_enter Tryd.func74, Tryd.ntmps74
  go_wp2
  go_loopg [5, 8] 0 (fun _ _ s8 wr => s8 = .int .i64 0 ∧ wr = w)
  case atStart => exact ⟨rfl, rfl⟩
  case round =>
    obtain ⟨rfl, rfl⟩ := hrel
    go_wp2
    go_ret
    exact ⟨rfl, rfl⟩
theorem hasNone (a : Option Addr) (c : Nat) (fv : Value) (w : World) :
    Calls Tryd.prog 63 #[.slice a 0 c, fv] w fun e w' => e = .returned (.bool false) ∧ w' = w := by
  go_enter Tryd.func63, Tryd.ntmps63
  go_wp2_with fail
  refine (idxNone a c fv _).mono ?_
  rintro e w' ⟨rfl, rfl⟩
  go_wp2
  go_ret
  exact ⟨rfl, rfl⟩
set_option maxHeartbeats 1000000 in
theorem has_any (l : List Spn.Sp) (a : Option Addr) (cap : Nat) (n : Int) (w : World) (hl : l.length ≤ maxLen) (hr : Row2 w a l) :
    Calls Tryd.prog 50 #[.slice a l.length cap, .int .i64 n] w fun e w' => e = .returned (.bool (Spn.memB l n)) ∧ Below w.heap.size w w' := by
  have bA := (Below.refl w.heap.size w).alloc (Nat.le_refl _) (.cells #[.int .i64 n] 3)
  rcases hr with rfl | ⟨b, off, rfl, hb, hc⟩
  · go_enter Tryd.func50, Tryd.ntmps50
    go_wp2_with fail
    refine (hasNone a cap _ _).mono ?_
    rintro e w' ⟨rfl, rfl⟩
    go_wp2
    go_ret
    exact ⟨rfl, bA⟩
  · have eg : ∀ args w, (callFunc 64 args).run Tryd.prog w = .ok (.enter 64 args) w := enters_of Tryd.func64 (by kernel_rfl) rfl
    have hcon := AnyQ.slices_ContainsFunc Tryd.lhas 2 Tryd.isAgg47 Tryd.sizeOf47 encSp (fun _ => rfl) (fun s => decide (s.1 ≤ n) && decide (n < s.2)) 64 #[.pointer (some ⟨w.heap.size, 0, none⟩)] eg b off l.length cap l (w.alloc (.cells #[.int .i64 n] 3))
      (has_pred n w.heap.size _ (by simp) (by simp)) (Nat.le_refl _) (by unfold maxLen at hl; omega) (by simp; omega) (fun j hj i v hi => by
        refine Lib.cell?_alloc_some _ ?_
        have h1 := hc j hj
        have e0 : l[j]! = l.getD j (0, 0) := by simp [List.getD, hj]
        rw [e0] at hi
        generalize l.getD j (0, 0) = y at hi h1
        match i, hi with
        | 0, hi => simp [encSp] at hi; rw [← hi]; exact h1.1
        | 1, hi => simp [encSp] at hi; rw [← hi]; exact h1.2
        | i + 2, hi => simp [encSp] at hi)
    change Calls Tryd.prog 63 _ _ _ at hcon
    have e1 : ((l.take l.length).any fun s => decide (s.1 ≤ n) && decide (n < s.2)) = Spn.memB l n := by rw [List.take_length]; rfl
    rw [e1] at hcon
    clear hc e1
    generalize Spn.memB l n = r at hcon ⊢
    go_enter Tryd.func50, Tryd.ntmps50
    go_wp2_with fail
    refine hcon.mono ?_
    rintro e w' ⟨rfl, hb'⟩
    clear hcon
    go_wp2
    go_ret
    exact ⟨rfl, below_on bA (Nat.le_refl _) hb'⟩
set_option maxHeartbeats 400000 in
theorem pHas (l : List Spn.Sp) (a : Option Addr) (cap : Nat) (n : Int) (w : World) (hl : l.length ≤ maxLen) (hr : Row2 w a l) :
    Calls Tryd.prog 30 #[.slice a l.length cap, .int .i64 n] w fun e w' => e = .returned (.tuple #[.bool (decide (Spn.chk l = 0) && Spn.memB l n), .int .i64 (Spn.chk l)]) ∧ Below w.heap.size w w' := by
  by_cases h : Spn.chk l = 0
  · have e0 : (decide (Spn.chk l = 0) && Spn.memB l n) = Spn.memB l n := by simp [h]
    rw [e0, h]
    go_enter Tryd.func30, Tryd.ntmps30
    go_wp2_with fail
    refine (pCheck l a cap w hl hr).mono ?_
    rintro e w1 ⟨rfl, b⟩
    rw [h]
    clear e0 h
    go_wp2_with fail
    refine (has_any l a cap n w1 hl (hr.below b)).mono ?_
    rintro e w2 ⟨rfl, b2⟩
    go_wp2
    go_ret2
    exact ⟨rfl, below_on b (Nat.le_refl _) b2⟩
  · have e0 : (decide (Spn.chk l = 0) && Spn.memB l n) = false := by simp [h]
    rw [e0]
    have hne : (Spn.chk l != 0) = true := by simpa using h
    go_enter Tryd.func30, Tryd.ntmps30
    go_wp2_with fail
    refine (pCheck l a cap w hl hr).mono ?_
    rintro e w1 ⟨rfl, b⟩
    clear e0
    go_wp2
    go_ret2
    exact ⟨rfl, b⟩
end Go.Proofs.YtandlmnbnjkklaaDoor
