/-
  DERIVED. GIVEN WITH THE SEED: THE CARDS: each row of YtandlmnbnjkklaaDoorRows.lean that lists a variable, with what it lists TIED to the program's text (the seventh form; the later family's looks); each row that meets fmt, with fmt's text TOLD by the authors' own Lean function (tested against real Go, not proved from fmt's source: count such statements apart). THE CARD IS WHAT COUNTS. Prove the row's statement (the work); the ties are given (YtandlmnbnjkklaaDoorTie.lean); close each card by the builder's one call (the guide's Derived/Test/ToyasCard.lean, 'card_holds'). Laid BY PROGRAM, IN A SANDBOX (cutbox-door.mjs). By AI agents, Wed Nov 11 2026. No macro, syntax, notation, axiom, sorry.
-/
import Derived.Test.YtandlmnbnjkklaaDoorRows
import GoSem.ClaimSeven
namespace Go.Proofs.YtandlmnbnjkklaaDoor
namespace Rows

/-- THE TIED CARD OF 'swinggatelaw.PassTells'. -/
def passTellsCard : Claim7 := { stood := { row := passTellsRow, standIns := [], harness := (true, "7e43e7951a8693a7d602c2569a9381123c9e1cac3b83b703c28d896b182a40e6"), looks := false }, kinds := [], alts := [], laidByText := true, laidKinds := [.data], laidTests := true, laidLooks := .later }
def PassTellsCardSaid : Prop := Claim7.holds Tryd.pinned (.plain (OpenSpec.ofChange passTellsSpec)) passTellsCard

/-- THE TIED CARD OF 'swinggatelaw.RenewTells'. -/
def renewTellsCard : Claim7 := { stood := { row := renewTellsRow, standIns := [], harness := (true, "7e43e7951a8693a7d602c2569a9381123c9e1cac3b83b703c28d896b182a40e6"), looks := false }, kinds := [], alts := [], laidByText := true, laidKinds := [.data], laidTests := true, laidLooks := .later }
def RenewTellsCardSaid : Prop := Claim7.holds Tryd.pinned (.plain (OpenSpec.ofChange renewTellsSpec)) renewTellsCard

/-- THE TIED CARD OF 'swinggatelaw.RenewJoins'. -/
def renewJoinsCard : Claim7 := { stood := { row := renewJoinsRow, standIns := [], harness := (true, "7e43e7951a8693a7d602c2569a9381123c9e1cac3b83b703c28d896b182a40e6"), looks := false }, kinds := [], alts := [], laidByText := true, laidKinds := [.data], laidTests := true, laidLooks := .later }
def RenewJoinsCardSaid : Prop := Claim7.holds Tryd.pinned (.plain (OpenSpec.ofChange renewJoinsSpec)) renewJoinsCard

/-- THE TIED CARD OF 'swinggatelaw.CutHas'. -/
def cutHasCard : Claim7 := { stood := { row := cutHasRow, standIns := [], harness := (true, "7e43e7951a8693a7d602c2569a9381123c9e1cac3b83b703c28d896b182a40e6"), looks := false }, kinds := [], alts := [], laidByText := true, laidKinds := [.data], laidTests := true, laidLooks := .later }
def CutHasCardSaid : Prop := Claim7.holds Tryd.pinned (.plain (OpenSpec.ofChange cutHasSpec)) cutHasCard

/-- THE TIED CARD OF 'swinggatelaw.CutBack'. -/
def cutBackCard : Claim7 := { stood := { row := cutBackRow, standIns := [], harness := (true, "7e43e7951a8693a7d602c2569a9381123c9e1cac3b83b703c28d896b182a40e6"), looks := false }, kinds := [], alts := [], laidByText := true, laidKinds := [.data], laidTests := true, laidLooks := .later }
def CutBackCardSaid : Prop := Claim7.holds Tryd.pinned (.plain (OpenSpec.ofChange cutBackSpec)) cutBackCard

/-- THE SECOND FORM's CARD OF 'swinggatelaw.PassTells'. -/
def passTellsUptoCard : Claim7 := { stood := { row := passTellsUptoRow, standIns := [], harness := (true, "7e43e7951a8693a7d602c2569a9381123c9e1cac3b83b703c28d896b182a40e6"), looks := false }, kinds := [], alts := [], laidByText := true, laidKinds := [.data], laidTests := true, laidLooks := .later }
def PassTellsUptoCardSaid : Prop := Claim7.holds Tryd.pinned (.plain (OpenSpec.upto passTellsSpec)) passTellsUptoCard

/-- THE SECOND FORM's CARD OF 'swinggatelaw.RenewTells'. -/
def renewTellsUptoCard : Claim7 := { stood := { row := renewTellsUptoRow, standIns := [], harness := (true, "7e43e7951a8693a7d602c2569a9381123c9e1cac3b83b703c28d896b182a40e6"), looks := false }, kinds := [], alts := [], laidByText := true, laidKinds := [.data], laidTests := true, laidLooks := .later }
def RenewTellsUptoCardSaid : Prop := Claim7.holds Tryd.pinned (.plain (OpenSpec.upto renewTellsSpec)) renewTellsUptoCard

/-- THE SECOND FORM's CARD OF 'swinggatelaw.RenewJoins'. -/
def renewJoinsUptoCard : Claim7 := { stood := { row := renewJoinsUptoRow, standIns := [], harness := (true, "7e43e7951a8693a7d602c2569a9381123c9e1cac3b83b703c28d896b182a40e6"), looks := false }, kinds := [], alts := [], laidByText := true, laidKinds := [.data], laidTests := true, laidLooks := .later }
def RenewJoinsUptoCardSaid : Prop := Claim7.holds Tryd.pinned (.plain (OpenSpec.upto renewJoinsSpec)) renewJoinsUptoCard

/-- THE SECOND FORM's CARD OF 'swinggatelaw.CutHas'. -/
def cutHasUptoCard : Claim7 := { stood := { row := cutHasUptoRow, standIns := [], harness := (true, "7e43e7951a8693a7d602c2569a9381123c9e1cac3b83b703c28d896b182a40e6"), looks := false }, kinds := [], alts := [], laidByText := true, laidKinds := [.data], laidTests := true, laidLooks := .later }
def CutHasUptoCardSaid : Prop := Claim7.holds Tryd.pinned (.plain (OpenSpec.upto cutHasSpec)) cutHasUptoCard

/-- THE SECOND FORM's CARD OF 'swinggatelaw.CutBack'. -/
def cutBackUptoCard : Claim7 := { stood := { row := cutBackUptoRow, standIns := [], harness := (true, "7e43e7951a8693a7d602c2569a9381123c9e1cac3b83b703c28d896b182a40e6"), looks := false }, kinds := [], alts := [], laidByText := true, laidKinds := [.data], laidTests := true, laidLooks := .later }
def CutBackUptoCardSaid : Prop := Claim7.holds Tryd.pinned (.plain (OpenSpec.upto cutBackSpec)) cutBackUptoCard
end Rows
end Go.Proofs.YtandlmnbnjkklaaDoor
