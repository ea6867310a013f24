/-
  NARROWER THAN 'FOR EVERY INPUT', by the rows' own cells (each row's printed sentence says how): DateTells: laid · DateBack: laid · DateNext: laid · DateCycle: laid · WeekTells: laid · WeekBack: laid.
  DERIVED. THE GIVEN ROWS OF THIS SEAT. 6 by the template 'for every input the law returns true; each argument reads behind the call as it read before'; 0 by the template 'total and deterministic' (their statements: YtbolcbfbcjmpnaaDoorTotals.lean).
  GIVEN WITH THE SEED: the statements are not yours to turn. If you find one false, say at which input.
  Laid BY PROGRAM, IN A SANDBOX (cutbox-rows.mjs): the forced cells as the released guide's own fill.sh prints them over the translation 7f2f9fe91b16332c… (all of the seat's roots in one cut). By AI agents, Wed Nov 11 2026. No macro, syntax, notation, axiom, sorry.
-/
import Derived.Test.YtbolcbfbcjmpnaaDoorChecked
import GoSem.Claim
import GoSem.ClaimJoined
import GoSem.ClaimMapViews
import Derived.JoinedTies
import Derived.KernelRfl
namespace Go.Proofs.YtbolcbfbcjmpnaaDoor
/- THE CELL 'sum', in the pinned program and in every row, IS THE sha256 OF THE DUMP (.gsa) THAT YtbolcbfbcjmpnaaDoorProg.lean LOADS. Nothing in Lean hashes anything: it is a label: what it is worth is what the hold of that sum in a sandbox is worth. -/
noncomputable def Tryd.pinned : Pinned := { name := "ytbolcbfbcjmpnaadoor", sum := "7f2f9fe91b16332c9142ac4829fd1a76e7fffce3d36441f36c726e514f4869de", checked := Tryd.checked }
namespace Rows
def none {H : Type} : Left H := { results := [], args := [] }

/- WHAT THE LISTED PACKAGE-LEVEL VARIABLES READ AS WHEN THE CALL BEGINS. Each datum BY PROGRAM (the guide's laid-datum.mjs) off the statement by which the dump's own 'gosem.cut.vars' lays the variable. In a bare row this is a premise. The card (YtbolcbfbcjmpnaaDoorCards.lean) ties it to the program's text. -/
def laid_swinggate_date_lengths {H : Type} : DataW H := .agg [.lit (.int .i64 31), .lit (.int .i64 28), .lit (.int .i64 31), .lit (.int .i64 30), .lit (.int .i64 31), .lit (.int .i64 30), .lit (.int .i64 31), .lit (.int .i64 31), .lit (.int .i64 30), .lit (.int .i64 31), .lit (.int .i64 30), .lit (.int .i64 31)]

/-- 'swinggatelaw.DateTells': WHATEVER THE INPUT: true; the input reads as it did. -/
def dateTellsSpec : ChangeSpec := { name := "dateTells", fn := fun _ => fun
  | [d1, d2] => { results := [.lit (.bool true)], args := [d1, d2] }
  | _ => none }
def dateTellsRow : OpenClaim := { program := "ytbolcbfbcjmpnaadoor", sum := "7f2f9fe91b16332c9142ac4829fd1a76e7fffce3d36441f36c726e514f4869de", func := "swinggate/swinggatelaw.DateTells", spec := "dateTells", named := ["swinggate/date.lengths"], apart := false, laid := [("swinggate/date.lengths", laid_swinggate_date_lengths)] }
def DateTellsSaid : Prop := dateTellsRow.holds Tryd.pinned (OpenSpec.ofChange dateTellsSpec)

/-- ITS FALSE NEIGHBOUR: 'it returns false'. Refute it at one input. -/
def dateTellsWrong : ChangeSpec := { name := "dateTells", fn := fun _ => fun
  | [d1, d2] => { results := [.lit (.bool false)], args := [d1, d2] }
  | _ => none }
def DateTellsWrongFalsely : Prop := dateTellsRow.holds Tryd.pinned (OpenSpec.ofChange dateTellsWrong)

/-- 'swinggatelaw.DateBack': WHATEVER THE INPUT: true; the input reads as it did. -/
def dateBackSpec : ChangeSpec := { name := "dateBack", fn := fun _ => fun
  | [d1, d2] => { results := [.lit (.bool true)], args := [d1, d2] }
  | _ => none }
def dateBackRow : OpenClaim := { program := "ytbolcbfbcjmpnaadoor", sum := "7f2f9fe91b16332c9142ac4829fd1a76e7fffce3d36441f36c726e514f4869de", func := "swinggate/swinggatelaw.DateBack", spec := "dateBack", named := ["swinggate/date.lengths"], apart := false, laid := [("swinggate/date.lengths", laid_swinggate_date_lengths)] }
def DateBackSaid : Prop := dateBackRow.holds Tryd.pinned (OpenSpec.ofChange dateBackSpec)

/-- ITS FALSE NEIGHBOUR: 'it returns false'. Refute it at one input. -/
def dateBackWrong : ChangeSpec := { name := "dateBack", fn := fun _ => fun
  | [d1, d2] => { results := [.lit (.bool false)], args := [d1, d2] }
  | _ => none }
def DateBackWrongFalsely : Prop := dateBackRow.holds Tryd.pinned (OpenSpec.ofChange dateBackWrong)

/-- 'swinggatelaw.DateNext': WHATEVER THE INPUT: true; the input reads as it did. -/
def dateNextSpec : ChangeSpec := { name := "dateNext", fn := fun _ => fun
  | [d] => { results := [.lit (.bool true)], args := [d] }
  | _ => none }
def dateNextRow : OpenClaim := { program := "ytbolcbfbcjmpnaadoor", sum := "7f2f9fe91b16332c9142ac4829fd1a76e7fffce3d36441f36c726e514f4869de", func := "swinggate/swinggatelaw.DateNext", spec := "dateNext", named := ["swinggate/date.lengths"], apart := false, laid := [("swinggate/date.lengths", laid_swinggate_date_lengths)] }
def DateNextSaid : Prop := dateNextRow.holds Tryd.pinned (OpenSpec.ofChange dateNextSpec)

/-- ITS FALSE NEIGHBOUR: 'it returns false'. Refute it at one input. -/
def dateNextWrong : ChangeSpec := { name := "dateNext", fn := fun _ => fun
  | [d] => { results := [.lit (.bool false)], args := [d] }
  | _ => none }
def DateNextWrongFalsely : Prop := dateNextRow.holds Tryd.pinned (OpenSpec.ofChange dateNextWrong)

/-- 'swinggatelaw.DateCycle': WHATEVER THE INPUT: true; the input reads as it did. -/
def dateCycleSpec : ChangeSpec := { name := "dateCycle", fn := fun _ => fun
  | [d] => { results := [.lit (.bool true)], args := [d] }
  | _ => none }
def dateCycleRow : OpenClaim := { program := "ytbolcbfbcjmpnaadoor", sum := "7f2f9fe91b16332c9142ac4829fd1a76e7fffce3d36441f36c726e514f4869de", func := "swinggate/swinggatelaw.DateCycle", spec := "dateCycle", named := ["swinggate/date.lengths"], apart := false, laid := [("swinggate/date.lengths", laid_swinggate_date_lengths)] }
def DateCycleSaid : Prop := dateCycleRow.holds Tryd.pinned (OpenSpec.ofChange dateCycleSpec)

/-- ITS FALSE NEIGHBOUR: 'it returns false'. Refute it at one input. -/
def dateCycleWrong : ChangeSpec := { name := "dateCycle", fn := fun _ => fun
  | [d] => { results := [.lit (.bool false)], args := [d] }
  | _ => none }
def DateCycleWrongFalsely : Prop := dateCycleRow.holds Tryd.pinned (OpenSpec.ofChange dateCycleWrong)

/-- 'swinggatelaw.WeekTells': WHATEVER THE INPUT: true; the input reads as it did. -/
def weekTellsSpec : ChangeSpec := { name := "weekTells", fn := fun _ => fun
  | [d1, d2] => { results := [.lit (.bool true)], args := [d1, d2] }
  | _ => none }
def weekTellsRow : OpenClaim := { program := "ytbolcbfbcjmpnaadoor", sum := "7f2f9fe91b16332c9142ac4829fd1a76e7fffce3d36441f36c726e514f4869de", func := "swinggate/swinggatelaw.WeekTells", spec := "weekTells", named := ["swinggate/date.lengths"], apart := false, laid := [("swinggate/date.lengths", laid_swinggate_date_lengths)] }
def WeekTellsSaid : Prop := weekTellsRow.holds Tryd.pinned (OpenSpec.ofChange weekTellsSpec)

/-- ITS FALSE NEIGHBOUR: 'it returns false'. Refute it at one input. -/
def weekTellsWrong : ChangeSpec := { name := "weekTells", fn := fun _ => fun
  | [d1, d2] => { results := [.lit (.bool false)], args := [d1, d2] }
  | _ => none }
def WeekTellsWrongFalsely : Prop := weekTellsRow.holds Tryd.pinned (OpenSpec.ofChange weekTellsWrong)

/-- 'swinggatelaw.WeekBack': WHATEVER THE INPUT: true; the input reads as it did. -/
def weekBackSpec : ChangeSpec := { name := "weekBack", fn := fun _ => fun
  | [d1, d2] => { results := [.lit (.bool true)], args := [d1, d2] }
  | _ => none }
def weekBackRow : OpenClaim := { program := "ytbolcbfbcjmpnaadoor", sum := "7f2f9fe91b16332c9142ac4829fd1a76e7fffce3d36441f36c726e514f4869de", func := "swinggate/swinggatelaw.WeekBack", spec := "weekBack", named := ["swinggate/date.lengths"], apart := false, laid := [("swinggate/date.lengths", laid_swinggate_date_lengths)] }
def WeekBackSaid : Prop := weekBackRow.holds Tryd.pinned (OpenSpec.ofChange weekBackSpec)

/-- ITS FALSE NEIGHBOUR: 'it returns false'. Refute it at one input. -/
def weekBackWrong : ChangeSpec := { name := "weekBack", fn := fun _ => fun
  | [d1, d2] => { results := [.lit (.bool false)], args := [d1, d2] }
  | _ => none }
def WeekBackWrongFalsely : Prop := weekBackRow.holds Tryd.pinned (OpenSpec.ofChange weekBackWrong)

/- THE SECOND FORM. 'bulk': how many values and letters a reading holds, each counted each time it is reached (what is shared counts as often as it is met; a slice's spare places count too). A statement '..UptoSaid' is the law's where the arguments, and the package variables that the reading takes, are together of bulk at most 1048576: NARROWER than '..Said'. Prove '..Said' where nothing that the law and all that it calls make is longer than what came in: it says more and counts as full. Else prove '..UptoSaid'. A law counts once. -/
mutual
def uptoBulk {H : Type} : DataW H → Nat
  | .lit (.string bytes) => bytes.length + 1
  | .lit _ => 1
  | .nil => 1
  | .ptr d => uptoBulk d + 1
  | .slice elems spare => uptoBulkAll elems + uptoBulkAll spare + 1
  | .agg parts => uptoBulkAll parts + 1
  | .iface _ d => uptoBulk d + 1
  | .map entries => uptoBulkEntries entries + 1
  | .held _ => 1
def uptoBulkAll {H : Type} : List (DataW H) → Nat
  | [] => 0
  | d :: r => uptoBulk d + uptoBulkAll r
def uptoBulkEntries {H : Type} : List (Lit × DataW H) → Nat
  | [] => 0
  | x :: r => uptoBulkEntry x + uptoBulkEntries r
def uptoBulkEntry {H : Type} : Lit × DataW H → Nat
  | (.string bytes, d) => bytes.length + uptoBulk d + 1
  | (_, d) => uptoBulk d + 1
 end
def uptoSmall : (H : Type) → List (DataW H) → Bool := fun _ ds => decide (uptoBulkAll ds ≤ 1048576)
def OpenSpec.upto (s : _root_.Go.ChangeSpec) : _root_.Go.OpenSpec := { _root_.Go.OpenSpec.ofChange s with cond := some uptoSmall }

/-- 'swinggatelaw.DateTells', WHERE WHAT IT READS IS OF BULK AT MOST 1048576: true; the input reads as it did. -/
def dateTellsUptoRow : OpenClaim := { program := "ytbolcbfbcjmpnaadoor", sum := "7f2f9fe91b16332c9142ac4829fd1a76e7fffce3d36441f36c726e514f4869de", func := "swinggate/swinggatelaw.DateTells", spec := "dateTells", named := ["swinggate/date.lengths"], apart := false, laid := [("swinggate/date.lengths", laid_swinggate_date_lengths)], narrowed := true }
def DateTellsUptoSaid : Prop := dateTellsUptoRow.holds Tryd.pinned (OpenSpec.upto dateTellsSpec)

/-- 'swinggatelaw.DateBack', WHERE WHAT IT READS IS OF BULK AT MOST 1048576: true; the input reads as it did. -/
def dateBackUptoRow : OpenClaim := { program := "ytbolcbfbcjmpnaadoor", sum := "7f2f9fe91b16332c9142ac4829fd1a76e7fffce3d36441f36c726e514f4869de", func := "swinggate/swinggatelaw.DateBack", spec := "dateBack", named := ["swinggate/date.lengths"], apart := false, laid := [("swinggate/date.lengths", laid_swinggate_date_lengths)], narrowed := true }
def DateBackUptoSaid : Prop := dateBackUptoRow.holds Tryd.pinned (OpenSpec.upto dateBackSpec)

/-- 'swinggatelaw.DateNext', WHERE WHAT IT READS IS OF BULK AT MOST 1048576: true; the input reads as it did. -/
def dateNextUptoRow : OpenClaim := { program := "ytbolcbfbcjmpnaadoor", sum := "7f2f9fe91b16332c9142ac4829fd1a76e7fffce3d36441f36c726e514f4869de", func := "swinggate/swinggatelaw.DateNext", spec := "dateNext", named := ["swinggate/date.lengths"], apart := false, laid := [("swinggate/date.lengths", laid_swinggate_date_lengths)], narrowed := true }
def DateNextUptoSaid : Prop := dateNextUptoRow.holds Tryd.pinned (OpenSpec.upto dateNextSpec)

/-- 'swinggatelaw.DateCycle', WHERE WHAT IT READS IS OF BULK AT MOST 1048576: true; the input reads as it did. -/
def dateCycleUptoRow : OpenClaim := { program := "ytbolcbfbcjmpnaadoor", sum := "7f2f9fe91b16332c9142ac4829fd1a76e7fffce3d36441f36c726e514f4869de", func := "swinggate/swinggatelaw.DateCycle", spec := "dateCycle", named := ["swinggate/date.lengths"], apart := false, laid := [("swinggate/date.lengths", laid_swinggate_date_lengths)], narrowed := true }
def DateCycleUptoSaid : Prop := dateCycleUptoRow.holds Tryd.pinned (OpenSpec.upto dateCycleSpec)

/-- 'swinggatelaw.WeekTells', WHERE WHAT IT READS IS OF BULK AT MOST 1048576: true; the input reads as it did. -/
def weekTellsUptoRow : OpenClaim := { program := "ytbolcbfbcjmpnaadoor", sum := "7f2f9fe91b16332c9142ac4829fd1a76e7fffce3d36441f36c726e514f4869de", func := "swinggate/swinggatelaw.WeekTells", spec := "weekTells", named := ["swinggate/date.lengths"], apart := false, laid := [("swinggate/date.lengths", laid_swinggate_date_lengths)], narrowed := true }
def WeekTellsUptoSaid : Prop := weekTellsUptoRow.holds Tryd.pinned (OpenSpec.upto weekTellsSpec)

/-- 'swinggatelaw.WeekBack', WHERE WHAT IT READS IS OF BULK AT MOST 1048576: true; the input reads as it did. -/
def weekBackUptoRow : OpenClaim := { program := "ytbolcbfbcjmpnaadoor", sum := "7f2f9fe91b16332c9142ac4829fd1a76e7fffce3d36441f36c726e514f4869de", func := "swinggate/swinggatelaw.WeekBack", spec := "weekBack", named := ["swinggate/date.lengths"], apart := false, laid := [("swinggate/date.lengths", laid_swinggate_date_lengths)], narrowed := true }
def WeekBackUptoSaid : Prop := weekBackUptoRow.holds Tryd.pinned (OpenSpec.upto weekBackSpec)

end Rows
end Go.Proofs.YtbolcbfbcjmpnaaDoor
