/-
  DERIVED. GIVEN WITH THE SEED: THE CARDS: each row of YtbolcbfbcjmpnabDoorRows.lean that lists a variable, with what it lists TIED to the program's text (the seventh form; the later family's looks); each row that meets fmt, with fmt's text TOLD by the authors' own Lean function (tested against real Go, not proved from fmt's source: count such statements apart). THE CARD IS WHAT COUNTS. Prove the row's statement (the work); the ties are given (YtbolcbfbcjmpnabDoorTie.lean); close each card by the builder's one call (the guide's Derived/Test/ToyasCard.lean, 'card_holds'). Laid BY PROGRAM, IN A SANDBOX (cutbox-door.mjs). By AI agents, Wed Nov 11 2026. No macro, syntax, notation, axiom, sorry.
-/
import Derived.Test.YtbolcbfbcjmpnabDoorRows
import GoSem.ClaimSeven
namespace Go.Proofs.YtbolcbfbcjmpnabDoor
namespace Rows

/-- THE TIED CARD OF 'swinggatelaw.WeekThursday'. -/
def weekThursdayCard : Claim7 := { stood := { row := weekThursdayRow, standIns := [], harness := (true, "3b672497788a53710152c5a0ed27f9c1aff1332f034eca4dc6abe31ac5739791"), looks := false }, kinds := [], alts := [], laidByText := true, laidKinds := [.data], laidTests := true, laidLooks := .later }
def WeekThursdayCardSaid : Prop := Claim7.holds Tryd.pinned (.plain (OpenSpec.ofChange weekThursdaySpec)) weekThursdayCard

/-- THE TIED CARD OF 'swinggatelaw.EasterTells'. -/
def easterTellsCard : Claim7 := { stood := { row := easterTellsRow, standIns := [], harness := (true, "3b672497788a53710152c5a0ed27f9c1aff1332f034eca4dc6abe31ac5739791"), looks := false }, kinds := [], alts := [], laidByText := true, laidKinds := [.data], laidTests := true, laidLooks := .later }
def EasterTellsCardSaid : Prop := Claim7.holds Tryd.pinned (.plain (OpenSpec.ofChange easterTellsSpec)) easterTellsCard

/-- THE TIED CARD OF 'swinggatelaw.EasterSunday'. -/
def easterSundayCard : Claim7 := { stood := { row := easterSundayRow, standIns := [], harness := (true, "3b672497788a53710152c5a0ed27f9c1aff1332f034eca4dc6abe31ac5739791"), looks := false }, kinds := [], alts := [], laidByText := true, laidKinds := [.data], laidTests := true, laidLooks := .later }
def EasterSundayCardSaid : Prop := Claim7.holds Tryd.pinned (.plain (OpenSpec.ofChange easterSundaySpec)) easterSundayCard

/-- THE TIED CARD OF 'swinggatelaw.EasterGap'. -/
def easterGapCard : Claim7 := { stood := { row := easterGapRow, standIns := [], harness := (true, "3b672497788a53710152c5a0ed27f9c1aff1332f034eca4dc6abe31ac5739791"), looks := false }, kinds := [], alts := [], laidByText := true, laidKinds := [.data], laidTests := true, laidLooks := .later }
def EasterGapCardSaid : Prop := Claim7.holds Tryd.pinned (.plain (OpenSpec.ofChange easterGapSpec)) easterGapCard

/-- THE SECOND FORM's CARD OF 'swinggatelaw.WeekThursday'. -/
def weekThursdayUptoCard : Claim7 := { stood := { row := weekThursdayUptoRow, standIns := [], harness := (true, "3b672497788a53710152c5a0ed27f9c1aff1332f034eca4dc6abe31ac5739791"), looks := false }, kinds := [], alts := [], laidByText := true, laidKinds := [.data], laidTests := true, laidLooks := .later }
def WeekThursdayUptoCardSaid : Prop := Claim7.holds Tryd.pinned (.plain (OpenSpec.upto weekThursdaySpec)) weekThursdayUptoCard

/-- THE SECOND FORM's CARD OF 'swinggatelaw.EasterTells'. -/
def easterTellsUptoCard : Claim7 := { stood := { row := easterTellsUptoRow, standIns := [], harness := (true, "3b672497788a53710152c5a0ed27f9c1aff1332f034eca4dc6abe31ac5739791"), looks := false }, kinds := [], alts := [], laidByText := true, laidKinds := [.data], laidTests := true, laidLooks := .later }
def EasterTellsUptoCardSaid : Prop := Claim7.holds Tryd.pinned (.plain (OpenSpec.upto easterTellsSpec)) easterTellsUptoCard

/-- THE SECOND FORM's CARD OF 'swinggatelaw.EasterSunday'. -/
def easterSundayUptoCard : Claim7 := { stood := { row := easterSundayUptoRow, standIns := [], harness := (true, "3b672497788a53710152c5a0ed27f9c1aff1332f034eca4dc6abe31ac5739791"), looks := false }, kinds := [], alts := [], laidByText := true, laidKinds := [.data], laidTests := true, laidLooks := .later }
def EasterSundayUptoCardSaid : Prop := Claim7.holds Tryd.pinned (.plain (OpenSpec.upto easterSundaySpec)) easterSundayUptoCard

/-- THE SECOND FORM's CARD OF 'swinggatelaw.EasterGap'. -/
def easterGapUptoCard : Claim7 := { stood := { row := easterGapUptoRow, standIns := [], harness := (true, "3b672497788a53710152c5a0ed27f9c1aff1332f034eca4dc6abe31ac5739791"), looks := false }, kinds := [], alts := [], laidByText := true, laidKinds := [.data], laidTests := true, laidLooks := .later }
def EasterGapUptoCardSaid : Prop := Claim7.holds Tryd.pinned (.plain (OpenSpec.upto easterGapSpec)) easterGapUptoCard
end Rows
end Go.Proofs.YtbolcbfbcjmpnabDoor
