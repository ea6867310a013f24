/-
  NARROWER THAN 'FOR EVERY INPUT', by the rows' own cells (each row's printed sentence says how): TermTells: laid · TermRises: laid · TermYears: laid · TermDay: laid · TermFinds: laid.
  DERIVED. THE GIVEN ROWS OF THIS SEAT. 5 by the template 'for every input the law returns true; each argument reads behind the call as it read before'; 0 by the template 'total and deterministic' (their statements: YthojffiajlpneaaDoorTotals.lean).
  GIVEN WITH THE SEED: the statements are not yours to turn. If you find one false, say at which input.
  Laid BY PROGRAM, IN A SANDBOX (cutbox-rows.mjs): the forced cells as the released guide's own fill.sh prints them over the translation ef8c8e856141351c… (all of the seat's roots in one cut). By AI agents, Wed Nov 11 2026. No macro, syntax, notation, axiom, sorry.
-/
import Derived.Test.YthojffiajlpneaaDoorChecked
import GoSem.Claim
import GoSem.ClaimJoined
import GoSem.ClaimMapViews
import Derived.JoinedTies
import Derived.KernelRfl
namespace Go.Proofs.YthojffiajlpneaaDoor
/- THE CELL 'sum', in the pinned program and in every row, IS THE sha256 OF THE DUMP (.gsa) THAT YthojffiajlpneaaDoorProg.lean LOADS. Nothing in Lean hashes anything: it is a label: what it is worth is what the hold of that sum in a sandbox is worth. -/
noncomputable def Tryd.pinned : Pinned := { name := "ythojffiajlpneaadoor", sum := "ef8c8e856141351cb6d73a47404d39feb4de3cc1b7d9d9d75b722e43fbdb13b7", checked := Tryd.checked }
namespace Rows
def none {H : Type} : Left H := { results := [], args := [] }

/- WHAT THE LISTED PACKAGE-LEVEL VARIABLES READ AS WHEN THE CALL BEGINS. Each datum BY PROGRAM (the guide's laid-datum.mjs) off the statement by which the dump's own 'gosem.cut.vars' lays the variable. In a bare row this is a premise. The card (YthojffiajlpneaaDoorCards.lean) ties it to the program's text. -/
def laid_swinggate_date_lengths {H : Type} : DataW H := .agg [.lit (.int .i64 31), .lit (.int .i64 28), .lit (.int .i64 31), .lit (.int .i64 30), .lit (.int .i64 31), .lit (.int .i64 30), .lit (.int .i64 31), .lit (.int .i64 31), .lit (.int .i64 30), .lit (.int .i64 31), .lit (.int .i64 30), .lit (.int .i64 31)]

/-- 'swinggatelaw.TermTells': WHATEVER THE INPUT: true; the input reads as it did. -/
def termTellsSpec : ChangeSpec := { name := "termTells", fn := fun _ => fun
  | [d1, d2, d3, d4] => { results := [.lit (.bool true)], args := [d1, d2, d3, d4] }
  | _ => none }
def termTellsRow : OpenClaim := { program := "ythojffiajlpneaadoor", sum := "ef8c8e856141351cb6d73a47404d39feb4de3cc1b7d9d9d75b722e43fbdb13b7", func := "swinggate/swinggatelaw.TermTells", spec := "termTells", unfollowed := true, recurses := true, named := ["swinggate/date.lengths"], apart := false, laid := [("swinggate/date.lengths", laid_swinggate_date_lengths)] }
def TermTellsSaid : Prop := termTellsRow.holds Tryd.pinned (OpenSpec.ofChange termTellsSpec)

/-- ITS FALSE NEIGHBOUR: 'it returns false'. Refute it at one input. -/
def termTellsWrong : ChangeSpec := { name := "termTells", fn := fun _ => fun
  | [d1, d2, d3, d4] => { results := [.lit (.bool false)], args := [d1, d2, d3, d4] }
  | _ => none }
def TermTellsWrongFalsely : Prop := termTellsRow.holds Tryd.pinned (OpenSpec.ofChange termTellsWrong)

/-- 'swinggatelaw.TermRises': WHATEVER THE INPUT: true; the input reads as it did. -/
def termRisesSpec : ChangeSpec := { name := "termRises", fn := fun _ => fun
  | [d1, d2, d3, d4, d5] => { results := [.lit (.bool true)], args := [d1, d2, d3, d4, d5] }
  | _ => none }
def termRisesRow : OpenClaim := { program := "ythojffiajlpneaadoor", sum := "ef8c8e856141351cb6d73a47404d39feb4de3cc1b7d9d9d75b722e43fbdb13b7", func := "swinggate/swinggatelaw.TermRises", spec := "termRises", unfollowed := true, recurses := true, named := ["swinggate/date.lengths"], apart := false, laid := [("swinggate/date.lengths", laid_swinggate_date_lengths)] }
def TermRisesSaid : Prop := termRisesRow.holds Tryd.pinned (OpenSpec.ofChange termRisesSpec)

/-- ITS FALSE NEIGHBOUR: 'it returns false'. Refute it at one input. -/
def termRisesWrong : ChangeSpec := { name := "termRises", fn := fun _ => fun
  | [d1, d2, d3, d4, d5] => { results := [.lit (.bool false)], args := [d1, d2, d3, d4, d5] }
  | _ => none }
def TermRisesWrongFalsely : Prop := termRisesRow.holds Tryd.pinned (OpenSpec.ofChange termRisesWrong)

/-- 'swinggatelaw.TermYears': WHATEVER THE INPUT: true; the input reads as it did. -/
def termYearsSpec : ChangeSpec := { name := "termYears", fn := fun _ => fun
  | [d1, d2, d3, d4] => { results := [.lit (.bool true)], args := [d1, d2, d3, d4] }
  | _ => none }
def termYearsRow : OpenClaim := { program := "ythojffiajlpneaadoor", sum := "ef8c8e856141351cb6d73a47404d39feb4de3cc1b7d9d9d75b722e43fbdb13b7", func := "swinggate/swinggatelaw.TermYears", spec := "termYears", unfollowed := true, recurses := true, named := ["swinggate/date.lengths"], apart := false, laid := [("swinggate/date.lengths", laid_swinggate_date_lengths)] }
def TermYearsSaid : Prop := termYearsRow.holds Tryd.pinned (OpenSpec.ofChange termYearsSpec)

/-- ITS FALSE NEIGHBOUR: 'it returns false'. Refute it at one input. -/
def termYearsWrong : ChangeSpec := { name := "termYears", fn := fun _ => fun
  | [d1, d2, d3, d4] => { results := [.lit (.bool false)], args := [d1, d2, d3, d4] }
  | _ => none }
def TermYearsWrongFalsely : Prop := termYearsRow.holds Tryd.pinned (OpenSpec.ofChange termYearsWrong)

/-- 'swinggatelaw.TermDay': WHATEVER THE INPUT: true; the input reads as it did. -/
def termDaySpec : ChangeSpec := { name := "termDay", fn := fun _ => fun
  | [d1, d2, d3] => { results := [.lit (.bool true)], args := [d1, d2, d3] }
  | _ => none }
def termDayRow : OpenClaim := { program := "ythojffiajlpneaadoor", sum := "ef8c8e856141351cb6d73a47404d39feb4de3cc1b7d9d9d75b722e43fbdb13b7", func := "swinggate/swinggatelaw.TermDay", spec := "termDay", unfollowed := true, recurses := true, named := ["swinggate/date.lengths"], apart := false, laid := [("swinggate/date.lengths", laid_swinggate_date_lengths)] }
def TermDaySaid : Prop := termDayRow.holds Tryd.pinned (OpenSpec.ofChange termDaySpec)

/-- ITS FALSE NEIGHBOUR: 'it returns false'. Refute it at one input. -/
def termDayWrong : ChangeSpec := { name := "termDay", fn := fun _ => fun
  | [d1, d2, d3] => { results := [.lit (.bool false)], args := [d1, d2, d3] }
  | _ => none }
def TermDayWrongFalsely : Prop := termDayRow.holds Tryd.pinned (OpenSpec.ofChange termDayWrong)

/-- 'swinggatelaw.TermFinds': WHATEVER THE INPUT: true; the input reads as it did. -/
def termFindsSpec : ChangeSpec := { name := "termFinds", fn := fun _ => fun
  | [d1, d2, d3, d4] => { results := [.lit (.bool true)], args := [d1, d2, d3, d4] }
  | _ => none }
def termFindsRow : OpenClaim := { program := "ythojffiajlpneaadoor", sum := "ef8c8e856141351cb6d73a47404d39feb4de3cc1b7d9d9d75b722e43fbdb13b7", func := "swinggate/swinggatelaw.TermFinds", spec := "termFinds", unfollowed := true, recurses := true, named := ["swinggate/date.lengths"], apart := false, laid := [("swinggate/date.lengths", laid_swinggate_date_lengths)] }
def TermFindsSaid : Prop := termFindsRow.holds Tryd.pinned (OpenSpec.ofChange termFindsSpec)

/-- ITS FALSE NEIGHBOUR: 'it returns false'. Refute it at one input. -/
def termFindsWrong : ChangeSpec := { name := "termFinds", fn := fun _ => fun
  | [d1, d2, d3, d4] => { results := [.lit (.bool false)], args := [d1, d2, d3, d4] }
  | _ => none }
def TermFindsWrongFalsely : Prop := termFindsRow.holds Tryd.pinned (OpenSpec.ofChange termFindsWrong)

/- THE SECOND FORM. 'bulk': how many values and letters a reading holds, each counted each time it is reached (what is shared counts as often as it is met; a slice's spare places count too). A statement '..UptoSaid' is the law's where the arguments, and the package variables that the reading takes, are together of bulk at most 1048576: NARROWER than '..Said'. Prove '..Said' where nothing that the law and all that it calls make is longer than what came in: it says more and counts as full. Else prove '..UptoSaid'. A law counts once. -/
mutual
def uptoBulk {H : Type} : DataW H → Nat
  | .lit (.string bytes) => bytes.length + 1
  | .lit _ => 1
  | .nil => 1
  | .ptr d => uptoBulk d + 1
  | .slice elems spare => uptoBulkAll elems + uptoBulkAll spare + 1
  | .agg parts => uptoBulkAll parts + 1
  | .iface _ d => uptoBulk d + 1
  | .map entries => uptoBulkEntries entries + 1
  | .held _ => 1
def uptoBulkAll {H : Type} : List (DataW H) → Nat
  | [] => 0
  | d :: r => uptoBulk d + uptoBulkAll r
def uptoBulkEntries {H : Type} : List (Lit × DataW H) → Nat
  | [] => 0
  | x :: r => uptoBulkEntry x + uptoBulkEntries r
def uptoBulkEntry {H : Type} : Lit × DataW H → Nat
  | (.string bytes, d) => bytes.length + uptoBulk d + 1
  | (_, d) => uptoBulk d + 1
 end
def uptoSmall : (H : Type) → List (DataW H) → Bool := fun _ ds => decide (uptoBulkAll ds ≤ 1048576)
def OpenSpec.upto (s : _root_.Go.ChangeSpec) : _root_.Go.OpenSpec := { _root_.Go.OpenSpec.ofChange s with cond := some uptoSmall }

/-- 'swinggatelaw.TermTells', WHERE WHAT IT READS IS OF BULK AT MOST 1048576: true; the input reads as it did. -/
def termTellsUptoRow : OpenClaim := { program := "ythojffiajlpneaadoor", sum := "ef8c8e856141351cb6d73a47404d39feb4de3cc1b7d9d9d75b722e43fbdb13b7", func := "swinggate/swinggatelaw.TermTells", spec := "termTells", unfollowed := true, recurses := true, named := ["swinggate/date.lengths"], apart := false, laid := [("swinggate/date.lengths", laid_swinggate_date_lengths)], narrowed := true }
def TermTellsUptoSaid : Prop := termTellsUptoRow.holds Tryd.pinned (OpenSpec.upto termTellsSpec)

/-- 'swinggatelaw.TermRises', WHERE WHAT IT READS IS OF BULK AT MOST 1048576: true; the input reads as it did. -/
def termRisesUptoRow : OpenClaim := { program := "ythojffiajlpneaadoor", sum := "ef8c8e856141351cb6d73a47404d39feb4de3cc1b7d9d9d75b722e43fbdb13b7", func := "swinggate/swinggatelaw.TermRises", spec := "termRises", unfollowed := true, recurses := true, named := ["swinggate/date.lengths"], apart := false, laid := [("swinggate/date.lengths", laid_swinggate_date_lengths)], narrowed := true }
def TermRisesUptoSaid : Prop := termRisesUptoRow.holds Tryd.pinned (OpenSpec.upto termRisesSpec)

/-- 'swinggatelaw.TermYears', WHERE WHAT IT READS IS OF BULK AT MOST 1048576: true; the input reads as it did. -/
def termYearsUptoRow : OpenClaim := { program := "ythojffiajlpneaadoor", sum := "ef8c8e856141351cb6d73a47404d39feb4de3cc1b7d9d9d75b722e43fbdb13b7", func := "swinggate/swinggatelaw.TermYears", spec := "termYears", unfollowed := true, recurses := true, named := ["swinggate/date.lengths"], apart := false, laid := [("swinggate/date.lengths", laid_swinggate_date_lengths)], narrowed := true }
def TermYearsUptoSaid : Prop := termYearsUptoRow.holds Tryd.pinned (OpenSpec.upto termYearsSpec)

/-- 'swinggatelaw.TermDay', WHERE WHAT IT READS IS OF BULK AT MOST 1048576: true; the input reads as it did. -/
def termDayUptoRow : OpenClaim := { program := "ythojffiajlpneaadoor", sum := "ef8c8e856141351cb6d73a47404d39feb4de3cc1b7d9d9d75b722e43fbdb13b7", func := "swinggate/swinggatelaw.TermDay", spec := "termDay", unfollowed := true, recurses := true, named := ["swinggate/date.lengths"], apart := false, laid := [("swinggate/date.lengths", laid_swinggate_date_lengths)], narrowed := true }
def TermDayUptoSaid : Prop := termDayUptoRow.holds Tryd.pinned (OpenSpec.upto termDaySpec)

/-- 'swinggatelaw.TermFinds', WHERE WHAT IT READS IS OF BULK AT MOST 1048576: true; the input reads as it did. -/
def termFindsUptoRow : OpenClaim := { program := "ythojffiajlpneaadoor", sum := "ef8c8e856141351cb6d73a47404d39feb4de3cc1b7d9d9d75b722e43fbdb13b7", func := "swinggate/swinggatelaw.TermFinds", spec := "termFinds", unfollowed := true, recurses := true, named := ["swinggate/date.lengths"], apart := false, laid := [("swinggate/date.lengths", laid_swinggate_date_lengths)], narrowed := true }
def TermFindsUptoSaid : Prop := termFindsUptoRow.holds Tryd.pinned (OpenSpec.upto termFindsSpec)

end Rows
end Go.Proofs.YthojffiajlpneaaDoor
