/-
  DERIVED. GIVEN WITH THE SEED: THE CARDS: each row of YtfncfbbkkpdhkaaDoorRows.lean that lists a variable, with what it lists TIED to the program's text (the seventh form; the later family's looks); each row that meets fmt, with fmt's text TOLD by the authors' own Lean function (tested against real Go, not proved from fmt's source: count such statements apart). THE CARD IS WHAT COUNTS. Prove the row's statement (the work); the ties are given (YtfncfbbkkpdhkaaDoorTie.lean); close each card by the builder's one call (the guide's Derived/Test/ToyasCard.lean, 'card_holds'). Laid BY PROGRAM, IN A SANDBOX (cutbox-door.mjs). By AI agents, Wed Nov 11 2026. No macro, syntax, notation, axiom, sorry.
-/
import Derived.Test.YtfncfbbkkpdhkaaDoorRows
import GoSem.ClaimSeven
namespace Go.Proofs.YtfncfbbkkpdhkaaDoor
namespace Rows

/-- THE TIED CARD OF 'swinggatelaw.PersonTells'. -/
def personTellsCard : Claim7 := { stood := { row := personTellsRow, standIns := [], harness := (true, "06f76fa74f244af55b94707d692e5fc43bdb62525610465e9b911424ad1eb415"), looks := false }, kinds := [], alts := [], laidByText := true, laidKinds := [.data], laidTests := true, laidLooks := .later }
def PersonTellsCardSaid : Prop := Claim7.holds Tryd.pinned (.plain (OpenSpec.ofChange personTellsSpec)) personTellsCard

/-- THE TIED CARD OF 'swinggatelaw.AgeTurns'. -/
def ageTurnsCard : Claim7 := { stood := { row := ageTurnsRow, standIns := [], harness := (true, "06f76fa74f244af55b94707d692e5fc43bdb62525610465e9b911424ad1eb415"), looks := false }, kinds := [], alts := [], laidByText := true, laidKinds := [.data], laidTests := true, laidLooks := .later }
def AgeTurnsCardSaid : Prop := Claim7.holds Tryd.pinned (.plain (OpenSpec.ofChange ageTurnsSpec)) ageTurnsCard

/-- THE TIED CARD OF 'swinggatelaw.AgeOrder'. -/
def ageOrderCard : Claim7 := { stood := { row := ageOrderRow, standIns := [], harness := (true, "06f76fa74f244af55b94707d692e5fc43bdb62525610465e9b911424ad1eb415"), looks := false }, kinds := [], alts := [], laidByText := true, laidKinds := [.data], laidTests := true, laidLooks := .later }
def AgeOrderCardSaid : Prop := Claim7.holds Tryd.pinned (.plain (OpenSpec.ofChange ageOrderSpec)) ageOrderCard

/-- THE TIED CARD OF 'swinggatelaw.WindowAges'. -/
def windowAgesCard : Claim7 := { stood := { row := windowAgesRow, standIns := [], harness := (true, "06f76fa74f244af55b94707d692e5fc43bdb62525610465e9b911424ad1eb415"), looks := false }, kinds := [], alts := [], laidByText := true, laidKinds := [.data], laidTests := true, laidLooks := .later }
def WindowAgesCardSaid : Prop := Claim7.holds Tryd.pinned (.plain (OpenSpec.ofChange windowAgesSpec)) windowAgesCard

/-- THE SECOND FORM's CARD OF 'swinggatelaw.PersonTells'. -/
def personTellsUptoCard : Claim7 := { stood := { row := personTellsUptoRow, standIns := [], harness := (true, "06f76fa74f244af55b94707d692e5fc43bdb62525610465e9b911424ad1eb415"), looks := false }, kinds := [], alts := [], laidByText := true, laidKinds := [.data], laidTests := true, laidLooks := .later }
def PersonTellsUptoCardSaid : Prop := Claim7.holds Tryd.pinned (.plain (OpenSpec.upto personTellsSpec)) personTellsUptoCard

/-- THE SECOND FORM's CARD OF 'swinggatelaw.AgeTurns'. -/
def ageTurnsUptoCard : Claim7 := { stood := { row := ageTurnsUptoRow, standIns := [], harness := (true, "06f76fa74f244af55b94707d692e5fc43bdb62525610465e9b911424ad1eb415"), looks := false }, kinds := [], alts := [], laidByText := true, laidKinds := [.data], laidTests := true, laidLooks := .later }
def AgeTurnsUptoCardSaid : Prop := Claim7.holds Tryd.pinned (.plain (OpenSpec.upto ageTurnsSpec)) ageTurnsUptoCard

/-- THE SECOND FORM's CARD OF 'swinggatelaw.AgeOrder'. -/
def ageOrderUptoCard : Claim7 := { stood := { row := ageOrderUptoRow, standIns := [], harness := (true, "06f76fa74f244af55b94707d692e5fc43bdb62525610465e9b911424ad1eb415"), looks := false }, kinds := [], alts := [], laidByText := true, laidKinds := [.data], laidTests := true, laidLooks := .later }
def AgeOrderUptoCardSaid : Prop := Claim7.holds Tryd.pinned (.plain (OpenSpec.upto ageOrderSpec)) ageOrderUptoCard

/-- THE SECOND FORM's CARD OF 'swinggatelaw.WindowAges'. -/
def windowAgesUptoCard : Claim7 := { stood := { row := windowAgesUptoRow, standIns := [], harness := (true, "06f76fa74f244af55b94707d692e5fc43bdb62525610465e9b911424ad1eb415"), looks := false }, kinds := [], alts := [], laidByText := true, laidKinds := [.data], laidTests := true, laidLooks := .later }
def WindowAgesUptoCardSaid : Prop := Claim7.holds Tryd.pinned (.plain (OpenSpec.upto windowAgesSpec)) windowAgesUptoCard
end Rows
end Go.Proofs.YtfncfbbkkpdhkaaDoor
