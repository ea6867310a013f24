/-
  DERIVED. GIVEN WITH THE SEED: THE CARDS: each row of YtehopfpcikbaiaaDoorRows.lean that lists a variable, with what it lists TIED to the program's text (the seventh form; the later family's looks); each row that meets fmt, with fmt's text TOLD by the authors' own Lean function (tested against real Go, not proved from fmt's source: count such statements apart). THE CARD IS WHAT COUNTS. Prove the row's statement (the work); the ties are given (YtehopfpcikbaiaaDoorTie.lean); close each card by the builder's one call (the guide's Derived/Test/ToyasCard.lean, 'card_holds'). Laid BY PROGRAM, IN A SANDBOX (cutbox-door.mjs). By AI agents, Wed Nov 11 2026. No macro, syntax, notation, axiom, sorry.
-/
import Derived.Test.YtehopfpcikbaiaaDoorRows
import GoSem.ClaimSeven
namespace Go.Proofs.YtehopfpcikbaiaaDoor
namespace Rows

/-- THE TIED CARD OF 'swinggatelaw.DuesTell'. -/
def duesTellCard : Claim7 := { stood := { row := duesTellRow, standIns := [], harness := (true, "9e908ad59ec2035b9ab265ed4b504bdfbd117ec128a4c7d6e781cf1a2d344500"), looks := false }, kinds := [], alts := [], laidByText := true, laidKinds := [.data], laidTests := true, laidLooks := .later }
def DuesTellCardSaid : Prop := Claim7.holds Tryd.pinned (.plain (OpenSpec.ofChange duesTellSpec)) duesTellCard

/-- THE TIED CARD OF 'swinggatelaw.DuesWhole'. -/
def duesWholeCard : Claim7 := { stood := { row := duesWholeRow, standIns := [], harness := (true, "9e908ad59ec2035b9ab265ed4b504bdfbd117ec128a4c7d6e781cf1a2d344500"), looks := false }, kinds := [], alts := [], laidByText := true, laidKinds := [.data], laidTests := true, laidLooks := .later }
def DuesWholeCardSaid : Prop := Claim7.holds Tryd.pinned (.plain (OpenSpec.ofChange duesWholeSpec)) duesWholeCard

/-- THE TIED CARD OF 'swinggatelaw.DuesPaid'. -/
def duesPaidCard : Claim7 := { stood := { row := duesPaidRow, standIns := [], harness := (true, "9e908ad59ec2035b9ab265ed4b504bdfbd117ec128a4c7d6e781cf1a2d344500"), looks := false }, kinds := [], alts := [], laidByText := true, laidKinds := [.data], laidTests := true, laidLooks := .later }
def DuesPaidCardSaid : Prop := Claim7.holds Tryd.pinned (.plain (OpenSpec.ofChange duesPaidSpec)) duesPaidCard

/-- THE SECOND FORM's CARD OF 'swinggatelaw.DuesTell'. -/
def duesTellUptoCard : Claim7 := { stood := { row := duesTellUptoRow, standIns := [], harness := (true, "9e908ad59ec2035b9ab265ed4b504bdfbd117ec128a4c7d6e781cf1a2d344500"), looks := false }, kinds := [], alts := [], laidByText := true, laidKinds := [.data], laidTests := true, laidLooks := .later }
def DuesTellUptoCardSaid : Prop := Claim7.holds Tryd.pinned (.plain (OpenSpec.upto duesTellSpec)) duesTellUptoCard

/-- THE SECOND FORM's CARD OF 'swinggatelaw.DuesWhole'. -/
def duesWholeUptoCard : Claim7 := { stood := { row := duesWholeUptoRow, standIns := [], harness := (true, "9e908ad59ec2035b9ab265ed4b504bdfbd117ec128a4c7d6e781cf1a2d344500"), looks := false }, kinds := [], alts := [], laidByText := true, laidKinds := [.data], laidTests := true, laidLooks := .later }
def DuesWholeUptoCardSaid : Prop := Claim7.holds Tryd.pinned (.plain (OpenSpec.upto duesWholeSpec)) duesWholeUptoCard

/-- THE SECOND FORM's CARD OF 'swinggatelaw.DuesPaid'. -/
def duesPaidUptoCard : Claim7 := { stood := { row := duesPaidUptoRow, standIns := [], harness := (true, "9e908ad59ec2035b9ab265ed4b504bdfbd117ec128a4c7d6e781cf1a2d344500"), looks := false }, kinds := [], alts := [], laidByText := true, laidKinds := [.data], laidTests := true, laidLooks := .later }
def DuesPaidUptoCardSaid : Prop := Claim7.holds Tryd.pinned (.plain (OpenSpec.upto duesPaidSpec)) duesPaidUptoCard
end Rows
end Go.Proofs.YtehopfpcikbaiaaDoor
