/-
  DERIVED. GIVEN WITH THE SEED: THE CARDS: each row of YthojffiajlpneaaDoorRows.lean that lists a variable, with what it lists TIED to the program's text (the seventh form; the later family's looks); each row that meets fmt, with fmt's text TOLD by the authors' own Lean function (tested against real Go, not proved from fmt's source: count such statements apart). THE CARD IS WHAT COUNTS. Prove the row's statement (the work); the ties are given (YthojffiajlpneaaDoorTie.lean); close each card by the builder's one call (the guide's Derived/Test/ToyasCard.lean, 'card_holds'). Laid BY PROGRAM, IN A SANDBOX (cutbox-door.mjs). By AI agents, Wed Nov 11 2026. No macro, syntax, notation, axiom, sorry.
-/
import Derived.Test.YthojffiajlpneaaDoorRows
import GoSem.ClaimSeven
namespace Go.Proofs.YthojffiajlpneaaDoor
namespace Rows

/-- THE TIED CARD OF 'swinggatelaw.TermTells'. -/
def termTellsCard : Claim7 := { stood := { row := termTellsRow, standIns := [], harness := (true, "daf5ba65bf2ffdd530d535e53ba9680ddebca721568aa9bea9d0f6141c174f80"), looks := false }, kinds := [], alts := [], laidByText := true, laidKinds := [.data], laidTests := true, laidLooks := .later }
def TermTellsCardSaid : Prop := Claim7.holds Tryd.pinned (.plain (OpenSpec.ofChange termTellsSpec)) termTellsCard

/-- THE TIED CARD OF 'swinggatelaw.TermRises'. -/
def termRisesCard : Claim7 := { stood := { row := termRisesRow, standIns := [], harness := (true, "daf5ba65bf2ffdd530d535e53ba9680ddebca721568aa9bea9d0f6141c174f80"), looks := false }, kinds := [], alts := [], laidByText := true, laidKinds := [.data], laidTests := true, laidLooks := .later }
def TermRisesCardSaid : Prop := Claim7.holds Tryd.pinned (.plain (OpenSpec.ofChange termRisesSpec)) termRisesCard

/-- THE TIED CARD OF 'swinggatelaw.TermYears'. -/
def termYearsCard : Claim7 := { stood := { row := termYearsRow, standIns := [], harness := (true, "daf5ba65bf2ffdd530d535e53ba9680ddebca721568aa9bea9d0f6141c174f80"), looks := false }, kinds := [], alts := [], laidByText := true, laidKinds := [.data], laidTests := true, laidLooks := .later }
def TermYearsCardSaid : Prop := Claim7.holds Tryd.pinned (.plain (OpenSpec.ofChange termYearsSpec)) termYearsCard

/-- THE TIED CARD OF 'swinggatelaw.TermDay'. -/
def termDayCard : Claim7 := { stood := { row := termDayRow, standIns := [], harness := (true, "daf5ba65bf2ffdd530d535e53ba9680ddebca721568aa9bea9d0f6141c174f80"), looks := false }, kinds := [], alts := [], laidByText := true, laidKinds := [.data], laidTests := true, laidLooks := .later }
def TermDayCardSaid : Prop := Claim7.holds Tryd.pinned (.plain (OpenSpec.ofChange termDaySpec)) termDayCard

/-- THE TIED CARD OF 'swinggatelaw.TermFinds'. -/
def termFindsCard : Claim7 := { stood := { row := termFindsRow, standIns := [], harness := (true, "daf5ba65bf2ffdd530d535e53ba9680ddebca721568aa9bea9d0f6141c174f80"), looks := false }, kinds := [], alts := [], laidByText := true, laidKinds := [.data], laidTests := true, laidLooks := .later }
def TermFindsCardSaid : Prop := Claim7.holds Tryd.pinned (.plain (OpenSpec.ofChange termFindsSpec)) termFindsCard

/-- THE SECOND FORM's CARD OF 'swinggatelaw.TermTells'. -/
def termTellsUptoCard : Claim7 := { stood := { row := termTellsUptoRow, standIns := [], harness := (true, "daf5ba65bf2ffdd530d535e53ba9680ddebca721568aa9bea9d0f6141c174f80"), looks := false }, kinds := [], alts := [], laidByText := true, laidKinds := [.data], laidTests := true, laidLooks := .later }
def TermTellsUptoCardSaid : Prop := Claim7.holds Tryd.pinned (.plain (OpenSpec.upto termTellsSpec)) termTellsUptoCard

/-- THE SECOND FORM's CARD OF 'swinggatelaw.TermRises'. -/
def termRisesUptoCard : Claim7 := { stood := { row := termRisesUptoRow, standIns := [], harness := (true, "daf5ba65bf2ffdd530d535e53ba9680ddebca721568aa9bea9d0f6141c174f80"), looks := false }, kinds := [], alts := [], laidByText := true, laidKinds := [.data], laidTests := true, laidLooks := .later }
def TermRisesUptoCardSaid : Prop := Claim7.holds Tryd.pinned (.plain (OpenSpec.upto termRisesSpec)) termRisesUptoCard

/-- THE SECOND FORM's CARD OF 'swinggatelaw.TermYears'. -/
def termYearsUptoCard : Claim7 := { stood := { row := termYearsUptoRow, standIns := [], harness := (true, "daf5ba65bf2ffdd530d535e53ba9680ddebca721568aa9bea9d0f6141c174f80"), looks := false }, kinds := [], alts := [], laidByText := true, laidKinds := [.data], laidTests := true, laidLooks := .later }
def TermYearsUptoCardSaid : Prop := Claim7.holds Tryd.pinned (.plain (OpenSpec.upto termYearsSpec)) termYearsUptoCard

/-- THE SECOND FORM's CARD OF 'swinggatelaw.TermDay'. -/
def termDayUptoCard : Claim7 := { stood := { row := termDayUptoRow, standIns := [], harness := (true, "daf5ba65bf2ffdd530d535e53ba9680ddebca721568aa9bea9d0f6141c174f80"), looks := false }, kinds := [], alts := [], laidByText := true, laidKinds := [.data], laidTests := true, laidLooks := .later }
def TermDayUptoCardSaid : Prop := Claim7.holds Tryd.pinned (.plain (OpenSpec.upto termDaySpec)) termDayUptoCard

/-- THE SECOND FORM's CARD OF 'swinggatelaw.TermFinds'. -/
def termFindsUptoCard : Claim7 := { stood := { row := termFindsUptoRow, standIns := [], harness := (true, "daf5ba65bf2ffdd530d535e53ba9680ddebca721568aa9bea9d0f6141c174f80"), looks := false }, kinds := [], alts := [], laidByText := true, laidKinds := [.data], laidTests := true, laidLooks := .later }
def TermFindsUptoCardSaid : Prop := Claim7.holds Tryd.pinned (.plain (OpenSpec.upto termFindsSpec)) termFindsUptoCard
end Rows
end Go.Proofs.YthojffiajlpneaaDoor
