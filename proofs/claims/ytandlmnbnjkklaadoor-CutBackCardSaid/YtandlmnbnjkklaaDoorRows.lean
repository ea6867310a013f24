/-
  NARROWER THAN 'FOR EVERY INPUT', by the rows' own cells (each row's printed sentence says how): PassTells: laid · RenewTells: laid · RenewJoins: laid · CutHas: laid · CutBack: laid.
  DERIVED. THE GIVEN ROWS OF THIS SEAT. 5 by the template 'for every input the law returns true; each argument reads behind the call as it read before'; 0 by the template 'total and deterministic' (their statements: YtandlmnbnjkklaaDoorTotals.lean).
  GIVEN WITH THE SEED: the statements are not yours to turn. If you find one false, say at which input.
  Laid BY PROGRAM, IN A SANDBOX (cutbox-rows.mjs): the forced cells as the released guide's own fill.sh prints them over the translation 591439550b79bee1… (all of the seat's roots in one cut). By AI agents, Wed Nov 11 2026. No macro, syntax, notation, axiom, sorry.
-/
import Derived.Test.YtandlmnbnjkklaaDoorChecked
import GoSem.Claim
import GoSem.ClaimJoined
import GoSem.ClaimMapViews
import Derived.JoinedTies
import Derived.KernelRfl
namespace Go.Proofs.YtandlmnbnjkklaaDoor
/- THE CELL 'sum', in the pinned program and in every row, IS THE sha256 OF THE DUMP (.gsa) THAT YtandlmnbnjkklaaDoorProg.lean LOADS. Nothing in Lean hashes anything: it is a label: what it is worth is what the hold of that sum in a sandbox is worth. -/
noncomputable def Tryd.pinned : Pinned := { name := "ytandlmnbnjkklaadoor", sum := "591439550b79bee1ffe641cb0b7d505644f516552585b0a05df6c7eb2c7ef3a3", checked := Tryd.checked }
namespace Rows
def none {H : Type} : Left H := { results := [], args := [] }

/- WHAT THE LISTED PACKAGE-LEVEL VARIABLES READ AS WHEN THE CALL BEGINS. Each datum BY PROGRAM (the guide's laid-datum.mjs) off the statement by which the dump's own 'gosem.cut.vars' lays the variable. In a bare row this is a premise. The card (YtandlmnbnjkklaaDoorCards.lean) ties it to the program's text. -/
def laid_swinggate_date_lengths {H : Type} : DataW H := .agg [.lit (.int .i64 31), .lit (.int .i64 28), .lit (.int .i64 31), .lit (.int .i64 30), .lit (.int .i64 31), .lit (.int .i64 30), .lit (.int .i64 31), .lit (.int .i64 31), .lit (.int .i64 30), .lit (.int .i64 31), .lit (.int .i64 30), .lit (.int .i64 31)]

/-- 'swinggatelaw.PassTells': WHATEVER THE INPUT: true; the input reads as it did. -/
def passTellsSpec : ChangeSpec := { name := "passTells", fn := fun _ => fun
  | [d1, d2, d3, d4] => { results := [.lit (.bool true)], args := [d1, d2, d3, d4] }
  | _ => none }
def passTellsRow : OpenClaim := { program := "ytandlmnbnjkklaadoor", sum := "591439550b79bee1ffe641cb0b7d505644f516552585b0a05df6c7eb2c7ef3a3", func := "swinggate/swinggatelaw.PassTells", spec := "passTells", unfollowed := true, recurses := true, named := ["swinggate/date.lengths"], apart := false, laid := [("swinggate/date.lengths", laid_swinggate_date_lengths)] }
def PassTellsSaid : Prop := passTellsRow.holds Tryd.pinned (OpenSpec.ofChange passTellsSpec)

/-- ITS FALSE NEIGHBOUR: 'it returns false'. Refute it at one input. -/
def passTellsWrong : ChangeSpec := { name := "passTells", fn := fun _ => fun
  | [d1, d2, d3, d4] => { results := [.lit (.bool false)], args := [d1, d2, d3, d4] }
  | _ => none }
def PassTellsWrongFalsely : Prop := passTellsRow.holds Tryd.pinned (OpenSpec.ofChange passTellsWrong)

/-- 'swinggatelaw.RenewTells': WHATEVER THE INPUT: true; the input reads as it did. -/
def renewTellsSpec : ChangeSpec := { name := "renewTells", fn := fun _ => fun
  | [d1, d2, d3] => { results := [.lit (.bool true)], args := [d1, d2, d3] }
  | _ => none }
def renewTellsRow : OpenClaim := { program := "ytandlmnbnjkklaadoor", sum := "591439550b79bee1ffe641cb0b7d505644f516552585b0a05df6c7eb2c7ef3a3", func := "swinggate/swinggatelaw.RenewTells", spec := "renewTells", unfollowed := true, recurses := true, named := ["swinggate/date.lengths"], apart := false, laid := [("swinggate/date.lengths", laid_swinggate_date_lengths)] }
def RenewTellsSaid : Prop := renewTellsRow.holds Tryd.pinned (OpenSpec.ofChange renewTellsSpec)

/-- ITS FALSE NEIGHBOUR: 'it returns false'. Refute it at one input. -/
def renewTellsWrong : ChangeSpec := { name := "renewTells", fn := fun _ => fun
  | [d1, d2, d3] => { results := [.lit (.bool false)], args := [d1, d2, d3] }
  | _ => none }
def RenewTellsWrongFalsely : Prop := renewTellsRow.holds Tryd.pinned (OpenSpec.ofChange renewTellsWrong)

/-- 'swinggatelaw.RenewJoins': WHATEVER THE INPUT: true; the input reads as it did. -/
def renewJoinsSpec : ChangeSpec := { name := "renewJoins", fn := fun _ => fun
  | [d1, d2, d3, d4, d5] => { results := [.lit (.bool true)], args := [d1, d2, d3, d4, d5] }
  | _ => none }
def renewJoinsRow : OpenClaim := { program := "ytandlmnbnjkklaadoor", sum := "591439550b79bee1ffe641cb0b7d505644f516552585b0a05df6c7eb2c7ef3a3", func := "swinggate/swinggatelaw.RenewJoins", spec := "renewJoins", unfollowed := true, recurses := true, named := ["swinggate/date.lengths"], apart := false, laid := [("swinggate/date.lengths", laid_swinggate_date_lengths)] }
def RenewJoinsSaid : Prop := renewJoinsRow.holds Tryd.pinned (OpenSpec.ofChange renewJoinsSpec)

/-- ITS FALSE NEIGHBOUR: 'it returns false'. Refute it at one input. -/
def renewJoinsWrong : ChangeSpec := { name := "renewJoins", fn := fun _ => fun
  | [d1, d2, d3, d4, d5] => { results := [.lit (.bool false)], args := [d1, d2, d3, d4, d5] }
  | _ => none }
def RenewJoinsWrongFalsely : Prop := renewJoinsRow.holds Tryd.pinned (OpenSpec.ofChange renewJoinsWrong)

/-- 'swinggatelaw.CutHas': WHATEVER THE INPUT: true; the input reads as it did. -/
def cutHasSpec : ChangeSpec := { name := "cutHas", fn := fun _ => fun
  | [d1, d2, d3, d4] => { results := [.lit (.bool true)], args := [d1, d2, d3, d4] }
  | _ => none }
def cutHasRow : OpenClaim := { program := "ytandlmnbnjkklaadoor", sum := "591439550b79bee1ffe641cb0b7d505644f516552585b0a05df6c7eb2c7ef3a3", func := "swinggate/swinggatelaw.CutHas", spec := "cutHas", unfollowed := true, recurses := true, named := ["swinggate/date.lengths"], apart := false, laid := [("swinggate/date.lengths", laid_swinggate_date_lengths)] }
def CutHasSaid : Prop := cutHasRow.holds Tryd.pinned (OpenSpec.ofChange cutHasSpec)

/-- ITS FALSE NEIGHBOUR: 'it returns false'. Refute it at one input. -/
def cutHasWrong : ChangeSpec := { name := "cutHas", fn := fun _ => fun
  | [d1, d2, d3, d4] => { results := [.lit (.bool false)], args := [d1, d2, d3, d4] }
  | _ => none }
def CutHasWrongFalsely : Prop := cutHasRow.holds Tryd.pinned (OpenSpec.ofChange cutHasWrong)

/-- 'swinggatelaw.CutBack': WHATEVER THE INPUT: true; the input reads as it did. -/
def cutBackSpec : ChangeSpec := { name := "cutBack", fn := fun _ => fun
  | [d1, d2, d3] => { results := [.lit (.bool true)], args := [d1, d2, d3] }
  | _ => none }
def cutBackRow : OpenClaim := { program := "ytandlmnbnjkklaadoor", sum := "591439550b79bee1ffe641cb0b7d505644f516552585b0a05df6c7eb2c7ef3a3", func := "swinggate/swinggatelaw.CutBack", spec := "cutBack", unfollowed := true, recurses := true, named := ["swinggate/date.lengths"], apart := false, laid := [("swinggate/date.lengths", laid_swinggate_date_lengths)] }
def CutBackSaid : Prop := cutBackRow.holds Tryd.pinned (OpenSpec.ofChange cutBackSpec)

/-- ITS FALSE NEIGHBOUR: 'it returns false'. Refute it at one input. -/
def cutBackWrong : ChangeSpec := { name := "cutBack", fn := fun _ => fun
  | [d1, d2, d3] => { results := [.lit (.bool false)], args := [d1, d2, d3] }
  | _ => none }
def CutBackWrongFalsely : Prop := cutBackRow.holds Tryd.pinned (OpenSpec.ofChange cutBackWrong)

/- THE SECOND FORM. 'bulk': how many values and letters a reading holds, each counted each time it is reached (what is shared counts as often as it is met; a slice's spare places count too). A statement '..UptoSaid' is the law's where the arguments, and the package variables that the reading takes, are together of bulk at most 1048576: NARROWER than '..Said'. Prove '..Said' where nothing that the law and all that it calls make is longer than what came in: it says more and counts as full. Else prove '..UptoSaid'. A law counts once. -/
mutual
def uptoBulk {H : Type} : DataW H → Nat
  | .lit (.string bytes) => bytes.length + 1
  | .lit _ => 1
  | .nil => 1
  | .ptr d => uptoBulk d + 1
  | .slice elems spare => uptoBulkAll elems + uptoBulkAll spare + 1
  | .agg parts => uptoBulkAll parts + 1
  | .iface _ d => uptoBulk d + 1
  | .map entries => uptoBulkEntries entries + 1
  | .held _ => 1
def uptoBulkAll {H : Type} : List (DataW H) → Nat
  | [] => 0
  | d :: r => uptoBulk d + uptoBulkAll r
def uptoBulkEntries {H : Type} : List (Lit × DataW H) → Nat
  | [] => 0
  | x :: r => uptoBulkEntry x + uptoBulkEntries r
def uptoBulkEntry {H : Type} : Lit × DataW H → Nat
  | (.string bytes, d) => bytes.length + uptoBulk d + 1
  | (_, d) => uptoBulk d + 1
 end
def uptoSmall : (H : Type) → List (DataW H) → Bool := fun _ ds => decide (uptoBulkAll ds ≤ 1048576)
def OpenSpec.upto (s : _root_.Go.ChangeSpec) : _root_.Go.OpenSpec := { _root_.Go.OpenSpec.ofChange s with cond := some uptoSmall }

/-- 'swinggatelaw.PassTells', WHERE WHAT IT READS IS OF BULK AT MOST 1048576: true; the input reads as it did. -/
def passTellsUptoRow : OpenClaim := { program := "ytandlmnbnjkklaadoor", sum := "591439550b79bee1ffe641cb0b7d505644f516552585b0a05df6c7eb2c7ef3a3", func := "swinggate/swinggatelaw.PassTells", spec := "passTells", unfollowed := true, recurses := true, named := ["swinggate/date.lengths"], apart := false, laid := [("swinggate/date.lengths", laid_swinggate_date_lengths)], narrowed := true }
def PassTellsUptoSaid : Prop := passTellsUptoRow.holds Tryd.pinned (OpenSpec.upto passTellsSpec)

/-- 'swinggatelaw.RenewTells', WHERE WHAT IT READS IS OF BULK AT MOST 1048576: true; the input reads as it did. -/
def renewTellsUptoRow : OpenClaim := { program := "ytandlmnbnjkklaadoor", sum := "591439550b79bee1ffe641cb0b7d505644f516552585b0a05df6c7eb2c7ef3a3", func := "swinggate/swinggatelaw.RenewTells", spec := "renewTells", unfollowed := true, recurses := true, named := ["swinggate/date.lengths"], apart := false, laid := [("swinggate/date.lengths", laid_swinggate_date_lengths)], narrowed := true }
def RenewTellsUptoSaid : Prop := renewTellsUptoRow.holds Tryd.pinned (OpenSpec.upto renewTellsSpec)

/-- 'swinggatelaw.RenewJoins', WHERE WHAT IT READS IS OF BULK AT MOST 1048576: true; the input reads as it did. -/
def renewJoinsUptoRow : OpenClaim := { program := "ytandlmnbnjkklaadoor", sum := "591439550b79bee1ffe641cb0b7d505644f516552585b0a05df6c7eb2c7ef3a3", func := "swinggate/swinggatelaw.RenewJoins", spec := "renewJoins", unfollowed := true, recurses := true, named := ["swinggate/date.lengths"], apart := false, laid := [("swinggate/date.lengths", laid_swinggate_date_lengths)], narrowed := true }
def RenewJoinsUptoSaid : Prop := renewJoinsUptoRow.holds Tryd.pinned (OpenSpec.upto renewJoinsSpec)

/-- 'swinggatelaw.CutHas', WHERE WHAT IT READS IS OF BULK AT MOST 1048576: true; the input reads as it did. -/
def cutHasUptoRow : OpenClaim := { program := "ytandlmnbnjkklaadoor", sum := "591439550b79bee1ffe641cb0b7d505644f516552585b0a05df6c7eb2c7ef3a3", func := "swinggate/swinggatelaw.CutHas", spec := "cutHas", unfollowed := true, recurses := true, named := ["swinggate/date.lengths"], apart := false, laid := [("swinggate/date.lengths", laid_swinggate_date_lengths)], narrowed := true }
def CutHasUptoSaid : Prop := cutHasUptoRow.holds Tryd.pinned (OpenSpec.upto cutHasSpec)

/-- 'swinggatelaw.CutBack', WHERE WHAT IT READS IS OF BULK AT MOST 1048576: true; the input reads as it did. -/
def cutBackUptoRow : OpenClaim := { program := "ytandlmnbnjkklaadoor", sum := "591439550b79bee1ffe641cb0b7d505644f516552585b0a05df6c7eb2c7ef3a3", func := "swinggate/swinggatelaw.CutBack", spec := "cutBack", unfollowed := true, recurses := true, named := ["swinggate/date.lengths"], apart := false, laid := [("swinggate/date.lengths", laid_swinggate_date_lengths)], narrowed := true }
def CutBackUptoSaid : Prop := cutBackUptoRow.holds Tryd.pinned (OpenSpec.upto cutBackSpec)

end Rows
end Go.Proofs.YtandlmnbnjkklaaDoor
