/-
  NARROWER THAN 'FOR EVERY INPUT', by the rows' own cells (each row's printed sentence says how): DuesTell: laid · DuesWhole: laid · DuesPaid: laid.
  DERIVED. THE GIVEN ROWS OF THIS SEAT. 3 by the template 'for every input the law returns true; each argument reads behind the call as it read before'; 0 by the template 'total and deterministic' (their statements: YtehopfpcikbaiaaDoorTotals.lean).
  GIVEN WITH THE SEED: the statements are not yours to turn. If you find one false, say at which input.
  Laid BY PROGRAM, IN A SANDBOX (cutbox-rows.mjs): the forced cells as the released guide's own fill.sh prints them over the translation 1dd621a4b61b4f38… (all of the seat's roots in one cut). By AI agents, Wed Nov 11 2026. No macro, syntax, notation, axiom, sorry.
-/
import Derived.Test.YtehopfpcikbaiaaDoorChecked
import GoSem.Claim
import GoSem.ClaimJoined
import GoSem.ClaimMapViews
import Derived.JoinedTies
import Derived.KernelRfl
namespace Go.Proofs.YtehopfpcikbaiaaDoor
/- THE CELL 'sum', in the pinned program and in every row, IS THE sha256 OF THE DUMP (.gsa) THAT YtehopfpcikbaiaaDoorProg.lean LOADS. Nothing in Lean hashes anything: it is a label: what it is worth is what the hold of that sum in a sandbox is worth. -/
noncomputable def Tryd.pinned : Pinned := { name := "ytehopfpcikbaiaadoor", sum := "1dd621a4b61b4f383c5c2858a3e8aa9a8b5896698da58946f46800b7c18587e1", checked := Tryd.checked }
namespace Rows
def none {H : Type} : Left H := { results := [], args := [] }

/- WHAT THE LISTED PACKAGE-LEVEL VARIABLES READ AS WHEN THE CALL BEGINS. Each datum BY PROGRAM (the guide's laid-datum.mjs) off the statement by which the dump's own 'gosem.cut.vars' lays the variable. In a bare row this is a premise. The card (YtehopfpcikbaiaaDoorCards.lean) ties it to the program's text. -/
def laid_swinggate_date_lengths {H : Type} : DataW H := .agg [.lit (.int .i64 31), .lit (.int .i64 28), .lit (.int .i64 31), .lit (.int .i64 30), .lit (.int .i64 31), .lit (.int .i64 30), .lit (.int .i64 31), .lit (.int .i64 31), .lit (.int .i64 30), .lit (.int .i64 31), .lit (.int .i64 30), .lit (.int .i64 31)]

/-- 'swinggatelaw.DuesTell': WHATEVER THE INPUT: true; the input reads as it did. -/
def duesTellSpec : ChangeSpec := { name := "duesTell", fn := fun _ => fun
  | [d1, d2, d3, d4, d5, d6, d7] => { results := [.lit (.bool true)], args := [d1, d2, d3, d4, d5, d6, d7] }
  | _ => none }
def duesTellRow : OpenClaim := { program := "ytehopfpcikbaiaadoor", sum := "1dd621a4b61b4f383c5c2858a3e8aa9a8b5896698da58946f46800b7c18587e1", func := "swinggate/swinggatelaw.DuesTell", spec := "duesTell", unfollowed := true, recurses := true, named := ["swinggate/date.lengths"], apart := false, laid := [("swinggate/date.lengths", laid_swinggate_date_lengths)] }
def DuesTellSaid : Prop := duesTellRow.holds Tryd.pinned (OpenSpec.ofChange duesTellSpec)

/-- ITS FALSE NEIGHBOUR: 'it returns false'. Refute it at one input. -/
def duesTellWrong : ChangeSpec := { name := "duesTell", fn := fun _ => fun
  | [d1, d2, d3, d4, d5, d6, d7] => { results := [.lit (.bool false)], args := [d1, d2, d3, d4, d5, d6, d7] }
  | _ => none }
def DuesTellWrongFalsely : Prop := duesTellRow.holds Tryd.pinned (OpenSpec.ofChange duesTellWrong)

/-- 'swinggatelaw.DuesWhole': WHATEVER THE INPUT: true; the input reads as it did. -/
def duesWholeSpec : ChangeSpec := { name := "duesWhole", fn := fun _ => fun
  | [d1, d2, d3, d4, d5] => { results := [.lit (.bool true)], args := [d1, d2, d3, d4, d5] }
  | _ => none }
def duesWholeRow : OpenClaim := { program := "ytehopfpcikbaiaadoor", sum := "1dd621a4b61b4f383c5c2858a3e8aa9a8b5896698da58946f46800b7c18587e1", func := "swinggate/swinggatelaw.DuesWhole", spec := "duesWhole", unfollowed := true, recurses := true, named := ["swinggate/date.lengths"], apart := false, laid := [("swinggate/date.lengths", laid_swinggate_date_lengths)] }
def DuesWholeSaid : Prop := duesWholeRow.holds Tryd.pinned (OpenSpec.ofChange duesWholeSpec)

/-- ITS FALSE NEIGHBOUR: 'it returns false'. Refute it at one input. -/
def duesWholeWrong : ChangeSpec := { name := "duesWhole", fn := fun _ => fun
  | [d1, d2, d3, d4, d5] => { results := [.lit (.bool false)], args := [d1, d2, d3, d4, d5] }
  | _ => none }
def DuesWholeWrongFalsely : Prop := duesWholeRow.holds Tryd.pinned (OpenSpec.ofChange duesWholeWrong)

/-- 'swinggatelaw.DuesPaid': WHATEVER THE INPUT: true; the input reads as it did. -/
def duesPaidSpec : ChangeSpec := { name := "duesPaid", fn := fun _ => fun
  | [d1, d2, d3] => { results := [.lit (.bool true)], args := [d1, d2, d3] }
  | _ => none }
def duesPaidRow : OpenClaim := { program := "ytehopfpcikbaiaadoor", sum := "1dd621a4b61b4f383c5c2858a3e8aa9a8b5896698da58946f46800b7c18587e1", func := "swinggate/swinggatelaw.DuesPaid", spec := "duesPaid", unfollowed := true, recurses := true, named := ["swinggate/date.lengths"], apart := false, laid := [("swinggate/date.lengths", laid_swinggate_date_lengths)] }
def DuesPaidSaid : Prop := duesPaidRow.holds Tryd.pinned (OpenSpec.ofChange duesPaidSpec)

/-- ITS FALSE NEIGHBOUR: 'it returns false'. Refute it at one input. -/
def duesPaidWrong : ChangeSpec := { name := "duesPaid", fn := fun _ => fun
  | [d1, d2, d3] => { results := [.lit (.bool false)], args := [d1, d2, d3] }
  | _ => none }
def DuesPaidWrongFalsely : Prop := duesPaidRow.holds Tryd.pinned (OpenSpec.ofChange duesPaidWrong)

/- THE SECOND FORM. 'bulk': how many values and letters a reading holds, each counted each time it is reached (what is shared counts as often as it is met; a slice's spare places count too). A statement '..UptoSaid' is the law's where the arguments, and the package variables that the reading takes, are together of bulk at most 1048576: NARROWER than '..Said'. Prove '..Said' where nothing that the law and all that it calls make is longer than what came in: it says more and counts as full. Else prove '..UptoSaid'. A law counts once. -/
mutual
def uptoBulk {H : Type} : DataW H → Nat
  | .lit (.string bytes) => bytes.length + 1
  | .lit _ => 1
  | .nil => 1
  | .ptr d => uptoBulk d + 1
  | .slice elems spare => uptoBulkAll elems + uptoBulkAll spare + 1
  | .agg parts => uptoBulkAll parts + 1
  | .iface _ d => uptoBulk d + 1
  | .map entries => uptoBulkEntries entries + 1
  | .held _ => 1
def uptoBulkAll {H : Type} : List (DataW H) → Nat
  | [] => 0
  | d :: r => uptoBulk d + uptoBulkAll r
def uptoBulkEntries {H : Type} : List (Lit × DataW H) → Nat
  | [] => 0
  | x :: r => uptoBulkEntry x + uptoBulkEntries r
def uptoBulkEntry {H : Type} : Lit × DataW H → Nat
  | (.string bytes, d) => bytes.length + uptoBulk d + 1
  | (_, d) => uptoBulk d + 1
 end
def uptoSmall : (H : Type) → List (DataW H) → Bool := fun _ ds => decide (uptoBulkAll ds ≤ 1048576)
def OpenSpec.upto (s : _root_.Go.ChangeSpec) : _root_.Go.OpenSpec := { _root_.Go.OpenSpec.ofChange s with cond := some uptoSmall }

/-- 'swinggatelaw.DuesTell', WHERE WHAT IT READS IS OF BULK AT MOST 1048576: true; the input reads as it did. -/
def duesTellUptoRow : OpenClaim := { program := "ytehopfpcikbaiaadoor", sum := "1dd621a4b61b4f383c5c2858a3e8aa9a8b5896698da58946f46800b7c18587e1", func := "swinggate/swinggatelaw.DuesTell", spec := "duesTell", unfollowed := true, recurses := true, named := ["swinggate/date.lengths"], apart := false, laid := [("swinggate/date.lengths", laid_swinggate_date_lengths)], narrowed := true }
def DuesTellUptoSaid : Prop := duesTellUptoRow.holds Tryd.pinned (OpenSpec.upto duesTellSpec)

/-- 'swinggatelaw.DuesWhole', WHERE WHAT IT READS IS OF BULK AT MOST 1048576: true; the input reads as it did. -/
def duesWholeUptoRow : OpenClaim := { program := "ytehopfpcikbaiaadoor", sum := "1dd621a4b61b4f383c5c2858a3e8aa9a8b5896698da58946f46800b7c18587e1", func := "swinggate/swinggatelaw.DuesWhole", spec := "duesWhole", unfollowed := true, recurses := true, named := ["swinggate/date.lengths"], apart := false, laid := [("swinggate/date.lengths", laid_swinggate_date_lengths)], narrowed := true }
def DuesWholeUptoSaid : Prop := duesWholeUptoRow.holds Tryd.pinned (OpenSpec.upto duesWholeSpec)

/-- 'swinggatelaw.DuesPaid', WHERE WHAT IT READS IS OF BULK AT MOST 1048576: true; the input reads as it did. -/
def duesPaidUptoRow : OpenClaim := { program := "ytehopfpcikbaiaadoor", sum := "1dd621a4b61b4f383c5c2858a3e8aa9a8b5896698da58946f46800b7c18587e1", func := "swinggate/swinggatelaw.DuesPaid", spec := "duesPaid", unfollowed := true, recurses := true, named := ["swinggate/date.lengths"], apart := false, laid := [("swinggate/date.lengths", laid_swinggate_date_lengths)], narrowed := true }
def DuesPaidUptoSaid : Prop := duesPaidUptoRow.holds Tryd.pinned (OpenSpec.upto duesPaidSpec)

end Rows
end Go.Proofs.YtehopfpcikbaiaaDoor
