/-
  NARROWER THAN 'FOR EVERY INPUT', by the rows' own cells (each row's printed sentence says how): WeekThursday: laid · EasterTells: laid · EasterSunday: laid · EasterGap: laid.
  DERIVED. THE GIVEN ROWS OF THIS SEAT. 4 by the template 'for every input the law returns true; each argument reads behind the call as it read before'; 0 by the template 'total and deterministic' (their statements: YtbolcbfbcjmpnabDoorTotals.lean).
  GIVEN WITH THE SEED: the statements are not yours to turn. If you find one false, say at which input.
  Laid BY PROGRAM, IN A SANDBOX (cutbox-rows.mjs): the forced cells as the released guide's own fill.sh prints them over the translation fefeec4eb9480435… (all of the seat's roots in one cut). By AI agents, Wed Nov 11 2026. No macro, syntax, notation, axiom, sorry.
-/
import Derived.Test.YtbolcbfbcjmpnabDoorChecked
import GoSem.Claim
import GoSem.ClaimJoined
import GoSem.ClaimMapViews
import Derived.JoinedTies
import Derived.KernelRfl
namespace Go.Proofs.YtbolcbfbcjmpnabDoor
/- THE CELL 'sum', in the pinned program and in every row, IS THE sha256 OF THE DUMP (.gsa) THAT YtbolcbfbcjmpnabDoorProg.lean LOADS. Nothing in Lean hashes anything: it is a label: what it is worth is what the hold of that sum in a sandbox is worth. -/
noncomputable def Tryd.pinned : Pinned := { name := "ytbolcbfbcjmpnabdoor", sum := "fefeec4eb948043588d7ef4421252e77297c2833d4fa13e754f6c627bd7141ad", checked := Tryd.checked }
namespace Rows
def none {H : Type} : Left H := { results := [], args := [] }

/- WHAT THE LISTED PACKAGE-LEVEL VARIABLES READ AS WHEN THE CALL BEGINS. Each datum BY PROGRAM (the guide's laid-datum.mjs) off the statement by which the dump's own 'gosem.cut.vars' lays the variable. In a bare row this is a premise. The card (YtbolcbfbcjmpnabDoorCards.lean) ties it to the program's text. -/
def laid_swinggate_date_lengths {H : Type} : DataW H := .agg [.lit (.int .i64 31), .lit (.int .i64 28), .lit (.int .i64 31), .lit (.int .i64 30), .lit (.int .i64 31), .lit (.int .i64 30), .lit (.int .i64 31), .lit (.int .i64 31), .lit (.int .i64 30), .lit (.int .i64 31), .lit (.int .i64 30), .lit (.int .i64 31)]

/-- 'swinggatelaw.WeekThursday': WHATEVER THE INPUT: true; the input reads as it did. -/
def weekThursdaySpec : ChangeSpec := { name := "weekThursday", fn := fun _ => fun
  | [d] => { results := [.lit (.bool true)], args := [d] }
  | _ => none }
def weekThursdayRow : OpenClaim := { program := "ytbolcbfbcjmpnabdoor", sum := "fefeec4eb948043588d7ef4421252e77297c2833d4fa13e754f6c627bd7141ad", func := "swinggate/swinggatelaw.WeekThursday", spec := "weekThursday", named := ["swinggate/date.lengths"], apart := false, laid := [("swinggate/date.lengths", laid_swinggate_date_lengths)] }
def WeekThursdaySaid : Prop := weekThursdayRow.holds Tryd.pinned (OpenSpec.ofChange weekThursdaySpec)

/-- ITS FALSE NEIGHBOUR: 'it returns false'. Refute it at one input. -/
def weekThursdayWrong : ChangeSpec := { name := "weekThursday", fn := fun _ => fun
  | [d] => { results := [.lit (.bool false)], args := [d] }
  | _ => none }
def WeekThursdayWrongFalsely : Prop := weekThursdayRow.holds Tryd.pinned (OpenSpec.ofChange weekThursdayWrong)

/-- 'swinggatelaw.EasterTells': WHATEVER THE INPUT: true; the input reads as it did. -/
def easterTellsSpec : ChangeSpec := { name := "easterTells", fn := fun _ => fun
  | [d1, d2] => { results := [.lit (.bool true)], args := [d1, d2] }
  | _ => none }
def easterTellsRow : OpenClaim := { program := "ytbolcbfbcjmpnabdoor", sum := "fefeec4eb948043588d7ef4421252e77297c2833d4fa13e754f6c627bd7141ad", func := "swinggate/swinggatelaw.EasterTells", spec := "easterTells", named := ["swinggate/date.lengths"], apart := false, laid := [("swinggate/date.lengths", laid_swinggate_date_lengths)] }
def EasterTellsSaid : Prop := easterTellsRow.holds Tryd.pinned (OpenSpec.ofChange easterTellsSpec)

/-- ITS FALSE NEIGHBOUR: 'it returns false'. Refute it at one input. -/
def easterTellsWrong : ChangeSpec := { name := "easterTells", fn := fun _ => fun
  | [d1, d2] => { results := [.lit (.bool false)], args := [d1, d2] }
  | _ => none }
def EasterTellsWrongFalsely : Prop := easterTellsRow.holds Tryd.pinned (OpenSpec.ofChange easterTellsWrong)

/-- 'swinggatelaw.EasterSunday': WHATEVER THE INPUT: true; the input reads as it did. -/
def easterSundaySpec : ChangeSpec := { name := "easterSunday", fn := fun _ => fun
  | [d] => { results := [.lit (.bool true)], args := [d] }
  | _ => none }
def easterSundayRow : OpenClaim := { program := "ytbolcbfbcjmpnabdoor", sum := "fefeec4eb948043588d7ef4421252e77297c2833d4fa13e754f6c627bd7141ad", func := "swinggate/swinggatelaw.EasterSunday", spec := "easterSunday", named := ["swinggate/date.lengths"], apart := false, laid := [("swinggate/date.lengths", laid_swinggate_date_lengths)] }
def EasterSundaySaid : Prop := easterSundayRow.holds Tryd.pinned (OpenSpec.ofChange easterSundaySpec)

/-- ITS FALSE NEIGHBOUR: 'it returns false'. Refute it at one input. -/
def easterSundayWrong : ChangeSpec := { name := "easterSunday", fn := fun _ => fun
  | [d] => { results := [.lit (.bool false)], args := [d] }
  | _ => none }
def EasterSundayWrongFalsely : Prop := easterSundayRow.holds Tryd.pinned (OpenSpec.ofChange easterSundayWrong)

/-- 'swinggatelaw.EasterGap': WHATEVER THE INPUT: true; the input reads as it did. -/
def easterGapSpec : ChangeSpec := { name := "easterGap", fn := fun _ => fun
  | [d] => { results := [.lit (.bool true)], args := [d] }
  | _ => none }
def easterGapRow : OpenClaim := { program := "ytbolcbfbcjmpnabdoor", sum := "fefeec4eb948043588d7ef4421252e77297c2833d4fa13e754f6c627bd7141ad", func := "swinggate/swinggatelaw.EasterGap", spec := "easterGap", named := ["swinggate/date.lengths"], apart := false, laid := [("swinggate/date.lengths", laid_swinggate_date_lengths)] }
def EasterGapSaid : Prop := easterGapRow.holds Tryd.pinned (OpenSpec.ofChange easterGapSpec)

/-- ITS FALSE NEIGHBOUR: 'it returns false'. Refute it at one input. -/
def easterGapWrong : ChangeSpec := { name := "easterGap", fn := fun _ => fun
  | [d] => { results := [.lit (.bool false)], args := [d] }
  | _ => none }
def EasterGapWrongFalsely : Prop := easterGapRow.holds Tryd.pinned (OpenSpec.ofChange easterGapWrong)

/- THE SECOND FORM. 'bulk': how many values and letters a reading holds, each counted each time it is reached (what is shared counts as often as it is met; a slice's spare places count too). A statement '..UptoSaid' is the law's where the arguments, and the package variables that the reading takes, are together of bulk at most 1048576: NARROWER than '..Said'. Prove '..Said' where nothing that the law and all that it calls make is longer than what came in: it says more and counts as full. Else prove '..UptoSaid'. A law counts once. -/
mutual
def uptoBulk {H : Type} : DataW H → Nat
  | .lit (.string bytes) => bytes.length + 1
  | .lit _ => 1
  | .nil => 1
  | .ptr d => uptoBulk d + 1
  | .slice elems spare => uptoBulkAll elems + uptoBulkAll spare + 1
  | .agg parts => uptoBulkAll parts + 1
  | .iface _ d => uptoBulk d + 1
  | .map entries => uptoBulkEntries entries + 1
  | .held _ => 1
def uptoBulkAll {H : Type} : List (DataW H) → Nat
  | [] => 0
  | d :: r => uptoBulk d + uptoBulkAll r
def uptoBulkEntries {H : Type} : List (Lit × DataW H) → Nat
  | [] => 0
  | x :: r => uptoBulkEntry x + uptoBulkEntries r
def uptoBulkEntry {H : Type} : Lit × DataW H → Nat
  | (.string bytes, d) => bytes.length + uptoBulk d + 1
  | (_, d) => uptoBulk d + 1
 end
def uptoSmall : (H : Type) → List (DataW H) → Bool := fun _ ds => decide (uptoBulkAll ds ≤ 1048576)
def OpenSpec.upto (s : _root_.Go.ChangeSpec) : _root_.Go.OpenSpec := { _root_.Go.OpenSpec.ofChange s with cond := some uptoSmall }

/-- 'swinggatelaw.WeekThursday', WHERE WHAT IT READS IS OF BULK AT MOST 1048576: true; the input reads as it did. -/
def weekThursdayUptoRow : OpenClaim := { program := "ytbolcbfbcjmpnabdoor", sum := "fefeec4eb948043588d7ef4421252e77297c2833d4fa13e754f6c627bd7141ad", func := "swinggate/swinggatelaw.WeekThursday", spec := "weekThursday", named := ["swinggate/date.lengths"], apart := false, laid := [("swinggate/date.lengths", laid_swinggate_date_lengths)], narrowed := true }
def WeekThursdayUptoSaid : Prop := weekThursdayUptoRow.holds Tryd.pinned (OpenSpec.upto weekThursdaySpec)

/-- 'swinggatelaw.EasterTells', WHERE WHAT IT READS IS OF BULK AT MOST 1048576: true; the input reads as it did. -/
def easterTellsUptoRow : OpenClaim := { program := "ytbolcbfbcjmpnabdoor", sum := "fefeec4eb948043588d7ef4421252e77297c2833d4fa13e754f6c627bd7141ad", func := "swinggate/swinggatelaw.EasterTells", spec := "easterTells", named := ["swinggate/date.lengths"], apart := false, laid := [("swinggate/date.lengths", laid_swinggate_date_lengths)], narrowed := true }
def EasterTellsUptoSaid : Prop := easterTellsUptoRow.holds Tryd.pinned (OpenSpec.upto easterTellsSpec)

/-- 'swinggatelaw.EasterSunday', WHERE WHAT IT READS IS OF BULK AT MOST 1048576: true; the input reads as it did. -/
def easterSundayUptoRow : OpenClaim := { program := "ytbolcbfbcjmpnabdoor", sum := "fefeec4eb948043588d7ef4421252e77297c2833d4fa13e754f6c627bd7141ad", func := "swinggate/swinggatelaw.EasterSunday", spec := "easterSunday", named := ["swinggate/date.lengths"], apart := false, laid := [("swinggate/date.lengths", laid_swinggate_date_lengths)], narrowed := true }
def EasterSundayUptoSaid : Prop := easterSundayUptoRow.holds Tryd.pinned (OpenSpec.upto easterSundaySpec)

/-- 'swinggatelaw.EasterGap', WHERE WHAT IT READS IS OF BULK AT MOST 1048576: true; the input reads as it did. -/
def easterGapUptoRow : OpenClaim := { program := "ytbolcbfbcjmpnabdoor", sum := "fefeec4eb948043588d7ef4421252e77297c2833d4fa13e754f6c627bd7141ad", func := "swinggate/swinggatelaw.EasterGap", spec := "easterGap", named := ["swinggate/date.lengths"], apart := false, laid := [("swinggate/date.lengths", laid_swinggate_date_lengths)], narrowed := true }
def EasterGapUptoSaid : Prop := easterGapUptoRow.holds Tryd.pinned (OpenSpec.upto easterGapSpec)

end Rows
end Go.Proofs.YtbolcbfbcjmpnabDoor
