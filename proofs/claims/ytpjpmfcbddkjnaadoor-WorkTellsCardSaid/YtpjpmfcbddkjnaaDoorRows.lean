/-
  NARROWER THAN 'FOR EVERY INPUT', by the rows' own cells (each row's printed sentence says how): HolidaysTell: laid · WorkTells: laid · WorkNext: laid · WorkAdds: laid · WorkCounts: laid · WorkRests: laid.
  DERIVED. THE GIVEN ROWS OF THIS SEAT. 6 by the template 'for every input the law returns true; each argument reads behind the call as it read before'; 0 by the template 'total and deterministic' (their statements: YtpjpmfcbddkjnaaDoorTotals.lean).
  GIVEN WITH THE SEED: the statements are not yours to turn. If you find one false, say at which input.
  Laid BY PROGRAM, IN A SANDBOX (cutbox-rows.mjs): the forced cells as the released guide's own fill.sh prints them over the translation 9ef35c6dc89f26f0… (all of the seat's roots in one cut). By AI agents, Wed Nov 11 2026. No macro, syntax, notation, axiom, sorry.
-/
import Derived.Test.YtpjpmfcbddkjnaaDoorChecked
import GoSem.Claim
import GoSem.ClaimJoined
import GoSem.ClaimMapViews
import Derived.JoinedTies
import Derived.KernelRfl
namespace Go.Proofs.YtpjpmfcbddkjnaaDoor
/- THE CELL 'sum', in the pinned program and in every row, IS THE sha256 OF THE DUMP (.gsa) THAT YtpjpmfcbddkjnaaDoorProg.lean LOADS. Nothing in Lean hashes anything: it is a label: what it is worth is what the hold of that sum in a sandbox is worth. -/
noncomputable def Tryd.pinned : Pinned := { name := "ytpjpmfcbddkjnaadoor", sum := "9ef35c6dc89f26f0fd01de0c6a7bb2f5e950cc4a669c0e1f3cc484f901578361", checked := Tryd.checked }
namespace Rows
def none {H : Type} : Left H := { results := [], args := [] }

/- WHAT THE LISTED PACKAGE-LEVEL VARIABLES READ AS WHEN THE CALL BEGINS. Each datum BY PROGRAM (the guide's laid-datum.mjs) off the statement by which the dump's own 'gosem.cut.vars' lays the variable. In a bare row this is a premise. The card (YtpjpmfcbddkjnaaDoorCards.lean) ties it to the program's text. -/
def laid_swinggate_date_lengths {H : Type} : DataW H := .agg [.lit (.int .i64 31), .lit (.int .i64 28), .lit (.int .i64 31), .lit (.int .i64 30), .lit (.int .i64 31), .lit (.int .i64 30), .lit (.int .i64 31), .lit (.int .i64 31), .lit (.int .i64 30), .lit (.int .i64 31), .lit (.int .i64 30), .lit (.int .i64 31)]

/-- 'swinggatelaw.HolidaysTell': WHATEVER THE INPUT: true; the input reads as it did. -/
def holidaysTellSpec : ChangeSpec := { name := "holidaysTell", fn := fun _ => fun
  | [d1, d2] => { results := [.lit (.bool true)], args := [d1, d2] }
  | _ => none }
def holidaysTellRow : OpenClaim := { program := "ytpjpmfcbddkjnaadoor", sum := "9ef35c6dc89f26f0fd01de0c6a7bb2f5e950cc4a669c0e1f3cc484f901578361", func := "swinggate/swinggatelaw.HolidaysTell", spec := "holidaysTell", unfollowed := true, recurses := true, named := ["swinggate/date.lengths"], apart := false, laid := [("swinggate/date.lengths", laid_swinggate_date_lengths)] }
def HolidaysTellSaid : Prop := holidaysTellRow.holds Tryd.pinned (OpenSpec.ofChange holidaysTellSpec)

/-- ITS FALSE NEIGHBOUR: 'it returns false'. Refute it at one input. -/
def holidaysTellWrong : ChangeSpec := { name := "holidaysTell", fn := fun _ => fun
  | [d1, d2] => { results := [.lit (.bool false)], args := [d1, d2] }
  | _ => none }
def HolidaysTellWrongFalsely : Prop := holidaysTellRow.holds Tryd.pinned (OpenSpec.ofChange holidaysTellWrong)

/-- 'swinggatelaw.WorkTells': WHATEVER THE INPUT: true; the input reads as it did. -/
def workTellsSpec : ChangeSpec := { name := "workTells", fn := fun _ => fun
  | [d1, d2, d3, d4] => { results := [.lit (.bool true)], args := [d1, d2, d3, d4] }
  | _ => none }
def workTellsRow : OpenClaim := { program := "ytpjpmfcbddkjnaadoor", sum := "9ef35c6dc89f26f0fd01de0c6a7bb2f5e950cc4a669c0e1f3cc484f901578361", func := "swinggate/swinggatelaw.WorkTells", spec := "workTells", unfollowed := true, recurses := true, named := ["swinggate/date.lengths"], apart := false, laid := [("swinggate/date.lengths", laid_swinggate_date_lengths)] }
def WorkTellsSaid : Prop := workTellsRow.holds Tryd.pinned (OpenSpec.ofChange workTellsSpec)

/-- ITS FALSE NEIGHBOUR: 'it returns false'. Refute it at one input. -/
def workTellsWrong : ChangeSpec := { name := "workTells", fn := fun _ => fun
  | [d1, d2, d3, d4] => { results := [.lit (.bool false)], args := [d1, d2, d3, d4] }
  | _ => none }
def WorkTellsWrongFalsely : Prop := workTellsRow.holds Tryd.pinned (OpenSpec.ofChange workTellsWrong)

/-- 'swinggatelaw.WorkNext': WHATEVER THE INPUT: true; the input reads as it did. -/
def workNextSpec : ChangeSpec := { name := "workNext", fn := fun _ => fun
  | [d1, d2, d3] => { results := [.lit (.bool true)], args := [d1, d2, d3] }
  | _ => none }
def workNextRow : OpenClaim := { program := "ytpjpmfcbddkjnaadoor", sum := "9ef35c6dc89f26f0fd01de0c6a7bb2f5e950cc4a669c0e1f3cc484f901578361", func := "swinggate/swinggatelaw.WorkNext", spec := "workNext", unfollowed := true, recurses := true, named := ["swinggate/date.lengths"], apart := false, laid := [("swinggate/date.lengths", laid_swinggate_date_lengths)] }
def WorkNextSaid : Prop := workNextRow.holds Tryd.pinned (OpenSpec.ofChange workNextSpec)

/-- ITS FALSE NEIGHBOUR: 'it returns false'. Refute it at one input. -/
def workNextWrong : ChangeSpec := { name := "workNext", fn := fun _ => fun
  | [d1, d2, d3] => { results := [.lit (.bool false)], args := [d1, d2, d3] }
  | _ => none }
def WorkNextWrongFalsely : Prop := workNextRow.holds Tryd.pinned (OpenSpec.ofChange workNextWrong)

/-- 'swinggatelaw.WorkAdds': WHATEVER THE INPUT: true; the input reads as it did. -/
def workAddsSpec : ChangeSpec := { name := "workAdds", fn := fun _ => fun
  | [d1, d2, d3, d4] => { results := [.lit (.bool true)], args := [d1, d2, d3, d4] }
  | _ => none }
def workAddsRow : OpenClaim := { program := "ytpjpmfcbddkjnaadoor", sum := "9ef35c6dc89f26f0fd01de0c6a7bb2f5e950cc4a669c0e1f3cc484f901578361", func := "swinggate/swinggatelaw.WorkAdds", spec := "workAdds", unfollowed := true, recurses := true, named := ["swinggate/date.lengths"], apart := false, laid := [("swinggate/date.lengths", laid_swinggate_date_lengths)] }
def WorkAddsSaid : Prop := workAddsRow.holds Tryd.pinned (OpenSpec.ofChange workAddsSpec)

/-- ITS FALSE NEIGHBOUR: 'it returns false'. Refute it at one input. -/
def workAddsWrong : ChangeSpec := { name := "workAdds", fn := fun _ => fun
  | [d1, d2, d3, d4] => { results := [.lit (.bool false)], args := [d1, d2, d3, d4] }
  | _ => none }
def WorkAddsWrongFalsely : Prop := workAddsRow.holds Tryd.pinned (OpenSpec.ofChange workAddsWrong)

/-- 'swinggatelaw.WorkCounts': WHATEVER THE INPUT: true; the input reads as it did. -/
def workCountsSpec : ChangeSpec := { name := "workCounts", fn := fun _ => fun
  | [d1, d2, d3, d4] => { results := [.lit (.bool true)], args := [d1, d2, d3, d4] }
  | _ => none }
def workCountsRow : OpenClaim := { program := "ytpjpmfcbddkjnaadoor", sum := "9ef35c6dc89f26f0fd01de0c6a7bb2f5e950cc4a669c0e1f3cc484f901578361", func := "swinggate/swinggatelaw.WorkCounts", spec := "workCounts", unfollowed := true, recurses := true, named := ["swinggate/date.lengths"], apart := false, laid := [("swinggate/date.lengths", laid_swinggate_date_lengths)] }
def WorkCountsSaid : Prop := workCountsRow.holds Tryd.pinned (OpenSpec.ofChange workCountsSpec)

/-- ITS FALSE NEIGHBOUR: 'it returns false'. Refute it at one input. -/
def workCountsWrong : ChangeSpec := { name := "workCounts", fn := fun _ => fun
  | [d1, d2, d3, d4] => { results := [.lit (.bool false)], args := [d1, d2, d3, d4] }
  | _ => none }
def WorkCountsWrongFalsely : Prop := workCountsRow.holds Tryd.pinned (OpenSpec.ofChange workCountsWrong)

/-- 'swinggatelaw.WorkRests': WHATEVER THE INPUT: true; the input reads as it did. -/
def workRestsSpec : ChangeSpec := { name := "workRests", fn := fun _ => fun
  | [d1, d2] => { results := [.lit (.bool true)], args := [d1, d2] }
  | _ => none }
def workRestsRow : OpenClaim := { program := "ytpjpmfcbddkjnaadoor", sum := "9ef35c6dc89f26f0fd01de0c6a7bb2f5e950cc4a669c0e1f3cc484f901578361", func := "swinggate/swinggatelaw.WorkRests", spec := "workRests", unfollowed := true, recurses := true, named := ["swinggate/date.lengths"], apart := false, laid := [("swinggate/date.lengths", laid_swinggate_date_lengths)] }
def WorkRestsSaid : Prop := workRestsRow.holds Tryd.pinned (OpenSpec.ofChange workRestsSpec)

/-- ITS FALSE NEIGHBOUR: 'it returns false'. Refute it at one input. -/
def workRestsWrong : ChangeSpec := { name := "workRests", fn := fun _ => fun
  | [d1, d2] => { results := [.lit (.bool false)], args := [d1, d2] }
  | _ => none }
def WorkRestsWrongFalsely : Prop := workRestsRow.holds Tryd.pinned (OpenSpec.ofChange workRestsWrong)

/- THE SECOND FORM. 'bulk': how many values and letters a reading holds, each counted each time it is reached (what is shared counts as often as it is met; a slice's spare places count too). A statement '..UptoSaid' is the law's where the arguments, and the package variables that the reading takes, are together of bulk at most 1048576: NARROWER than '..Said'. Prove '..Said' where nothing that the law and all that it calls make is longer than what came in: it says more and counts as full. Else prove '..UptoSaid'. A law counts once. -/
mutual
def uptoBulk {H : Type} : DataW H → Nat
  | .lit (.string bytes) => bytes.length + 1
  | .lit _ => 1
  | .nil => 1
  | .ptr d => uptoBulk d + 1
  | .slice elems spare => uptoBulkAll elems + uptoBulkAll spare + 1
  | .agg parts => uptoBulkAll parts + 1
  | .iface _ d => uptoBulk d + 1
  | .map entries => uptoBulkEntries entries + 1
  | .held _ => 1
def uptoBulkAll {H : Type} : List (DataW H) → Nat
  | [] => 0
  | d :: r => uptoBulk d + uptoBulkAll r
def uptoBulkEntries {H : Type} : List (Lit × DataW H) → Nat
  | [] => 0
  | x :: r => uptoBulkEntry x + uptoBulkEntries r
def uptoBulkEntry {H : Type} : Lit × DataW H → Nat
  | (.string bytes, d) => bytes.length + uptoBulk d + 1
  | (_, d) => uptoBulk d + 1
 end
def uptoSmall : (H : Type) → List (DataW H) → Bool := fun _ ds => decide (uptoBulkAll ds ≤ 1048576)
def OpenSpec.upto (s : _root_.Go.ChangeSpec) : _root_.Go.OpenSpec := { _root_.Go.OpenSpec.ofChange s with cond := some uptoSmall }

/-- 'swinggatelaw.HolidaysTell', WHERE WHAT IT READS IS OF BULK AT MOST 1048576: true; the input reads as it did. -/
def holidaysTellUptoRow : OpenClaim := { program := "ytpjpmfcbddkjnaadoor", sum := "9ef35c6dc89f26f0fd01de0c6a7bb2f5e950cc4a669c0e1f3cc484f901578361", func := "swinggate/swinggatelaw.HolidaysTell", spec := "holidaysTell", unfollowed := true, recurses := true, named := ["swinggate/date.lengths"], apart := false, laid := [("swinggate/date.lengths", laid_swinggate_date_lengths)], narrowed := true }
def HolidaysTellUptoSaid : Prop := holidaysTellUptoRow.holds Tryd.pinned (OpenSpec.upto holidaysTellSpec)

/-- 'swinggatelaw.WorkTells', WHERE WHAT IT READS IS OF BULK AT MOST 1048576: true; the input reads as it did. -/
def workTellsUptoRow : OpenClaim := { program := "ytpjpmfcbddkjnaadoor", sum := "9ef35c6dc89f26f0fd01de0c6a7bb2f5e950cc4a669c0e1f3cc484f901578361", func := "swinggate/swinggatelaw.WorkTells", spec := "workTells", unfollowed := true, recurses := true, named := ["swinggate/date.lengths"], apart := false, laid := [("swinggate/date.lengths", laid_swinggate_date_lengths)], narrowed := true }
def WorkTellsUptoSaid : Prop := workTellsUptoRow.holds Tryd.pinned (OpenSpec.upto workTellsSpec)

/-- 'swinggatelaw.WorkNext', WHERE WHAT IT READS IS OF BULK AT MOST 1048576: true; the input reads as it did. -/
def workNextUptoRow : OpenClaim := { program := "ytpjpmfcbddkjnaadoor", sum := "9ef35c6dc89f26f0fd01de0c6a7bb2f5e950cc4a669c0e1f3cc484f901578361", func := "swinggate/swinggatelaw.WorkNext", spec := "workNext", unfollowed := true, recurses := true, named := ["swinggate/date.lengths"], apart := false, laid := [("swinggate/date.lengths", laid_swinggate_date_lengths)], narrowed := true }
def WorkNextUptoSaid : Prop := workNextUptoRow.holds Tryd.pinned (OpenSpec.upto workNextSpec)

/-- 'swinggatelaw.WorkAdds', WHERE WHAT IT READS IS OF BULK AT MOST 1048576: true; the input reads as it did. -/
def workAddsUptoRow : OpenClaim := { program := "ytpjpmfcbddkjnaadoor", sum := "9ef35c6dc89f26f0fd01de0c6a7bb2f5e950cc4a669c0e1f3cc484f901578361", func := "swinggate/swinggatelaw.WorkAdds", spec := "workAdds", unfollowed := true, recurses := true, named := ["swinggate/date.lengths"], apart := false, laid := [("swinggate/date.lengths", laid_swinggate_date_lengths)], narrowed := true }
def WorkAddsUptoSaid : Prop := workAddsUptoRow.holds Tryd.pinned (OpenSpec.upto workAddsSpec)

/-- 'swinggatelaw.WorkCounts', WHERE WHAT IT READS IS OF BULK AT MOST 1048576: true; the input reads as it did. -/
def workCountsUptoRow : OpenClaim := { program := "ytpjpmfcbddkjnaadoor", sum := "9ef35c6dc89f26f0fd01de0c6a7bb2f5e950cc4a669c0e1f3cc484f901578361", func := "swinggate/swinggatelaw.WorkCounts", spec := "workCounts", unfollowed := true, recurses := true, named := ["swinggate/date.lengths"], apart := false, laid := [("swinggate/date.lengths", laid_swinggate_date_lengths)], narrowed := true }
def WorkCountsUptoSaid : Prop := workCountsUptoRow.holds Tryd.pinned (OpenSpec.upto workCountsSpec)

/-- 'swinggatelaw.WorkRests', WHERE WHAT IT READS IS OF BULK AT MOST 1048576: true; the input reads as it did. -/
def workRestsUptoRow : OpenClaim := { program := "ytpjpmfcbddkjnaadoor", sum := "9ef35c6dc89f26f0fd01de0c6a7bb2f5e950cc4a669c0e1f3cc484f901578361", func := "swinggate/swinggatelaw.WorkRests", spec := "workRests", unfollowed := true, recurses := true, named := ["swinggate/date.lengths"], apart := false, laid := [("swinggate/date.lengths", laid_swinggate_date_lengths)], narrowed := true }
def WorkRestsUptoSaid : Prop := workRestsUptoRow.holds Tryd.pinned (OpenSpec.upto workRestsSpec)

end Rows
end Go.Proofs.YtpjpmfcbddkjnaaDoor
