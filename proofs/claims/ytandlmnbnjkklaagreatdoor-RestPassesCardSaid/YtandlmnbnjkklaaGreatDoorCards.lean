/-
  DERIVED. GIVEN WITH THE SEED: THE CARDS: each row of YtandlmnbnjkklaaGreatDoorRows.lean that lists a variable, with what it lists TIED to the program's text (the seventh form; the later family's looks); each row that meets fmt, with fmt's text TOLD by the authors' own Lean function (tested against real Go, not proved from fmt's source: count such statements apart). THE CARD IS WHAT COUNTS. Prove the row's statement (the work); the ties are given (YtandlmnbnjkklaaGreatDoorTie.lean); close each card by the builder's one call (the guide's Derived/Test/ToyasCard.lean, 'card_holds'). Laid BY PROGRAM, IN A SANDBOX (cutbox-door.mjs). By AI agents, Wed Nov 11 2026. No macro, syntax, notation, axiom, sorry.
-/
import Derived.Test.YtandlmnbnjkklaaGreatDoorRows
import GoSem.ClaimSeven
namespace Go.Proofs.YtandlmnbnjkklaaGreatDoor
namespace Rows

/-- THE TIED CARD OF 'swinggatelaw.RestPasses'. -/
def restPassesCard : Claim7 := { stood := { row := restPassesRow, standIns := [], harness := (true, "0c857658b3a523d46e5b73e7e570dd1aa6fb8d25e49b814ddcfd1f94b98711f6"), looks := false }, kinds := [], alts := [], laidByText := true, laidKinds := [.data], laidTests := true, laidLooks := .later }
def RestPassesCardSaid : Prop := Claim7.holds Tryz.pinned (.plain (OpenSpec.ofChange restPassesSpec)) restPassesCard

/-- THE SECOND FORM's CARD OF 'swinggatelaw.RestPasses'. -/
def restPassesUptoCard : Claim7 := { stood := { row := restPassesUptoRow, standIns := [], harness := (true, "0c857658b3a523d46e5b73e7e570dd1aa6fb8d25e49b814ddcfd1f94b98711f6"), looks := false }, kinds := [], alts := [], laidByText := true, laidKinds := [.data], laidTests := true, laidLooks := .later }
def RestPassesUptoCardSaid : Prop := Claim7.holds Tryz.pinned (.plain (OpenSpec.upto restPassesSpec)) restPassesUptoCard
end Rows
end Go.Proofs.YtandlmnbnjkklaaGreatDoor
