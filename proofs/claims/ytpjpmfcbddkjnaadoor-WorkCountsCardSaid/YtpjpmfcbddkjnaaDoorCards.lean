/-
  DERIVED. GIVEN WITH THE SEED: THE CARDS: each row of YtpjpmfcbddkjnaaDoorRows.lean that lists a variable, with what it lists TIED to the program's text (the seventh form; the later family's looks); each row that meets fmt, with fmt's text TOLD by the authors' own Lean function (tested against real Go, not proved from fmt's source: count such statements apart). THE CARD IS WHAT COUNTS. Prove the row's statement (the work); the ties are given (YtpjpmfcbddkjnaaDoorTie.lean); close each card by the builder's one call (the guide's Derived/Test/ToyasCard.lean, 'card_holds'). Laid BY PROGRAM, IN A SANDBOX (cutbox-door.mjs). By AI agents, Wed Nov 11 2026. No macro, syntax, notation, axiom, sorry.
-/
import Derived.Test.YtpjpmfcbddkjnaaDoorRows
import GoSem.ClaimSeven
namespace Go.Proofs.YtpjpmfcbddkjnaaDoor
namespace Rows

/-- THE TIED CARD OF 'swinggatelaw.HolidaysTell'. -/
def holidaysTellCard : Claim7 := { stood := { row := holidaysTellRow, standIns := [], harness := (true, "beedd71790668e6e285be79801e528480764b70106ebde41c1fe3b242bc386c2"), looks := false }, kinds := [], alts := [], laidByText := true, laidKinds := [.data], laidTests := true, laidLooks := .later }
def HolidaysTellCardSaid : Prop := Claim7.holds Tryd.pinned (.plain (OpenSpec.ofChange holidaysTellSpec)) holidaysTellCard

/-- THE TIED CARD OF 'swinggatelaw.WorkTells'. -/
def workTellsCard : Claim7 := { stood := { row := workTellsRow, standIns := [], harness := (true, "beedd71790668e6e285be79801e528480764b70106ebde41c1fe3b242bc386c2"), looks := false }, kinds := [], alts := [], laidByText := true, laidKinds := [.data], laidTests := true, laidLooks := .later }
def WorkTellsCardSaid : Prop := Claim7.holds Tryd.pinned (.plain (OpenSpec.ofChange workTellsSpec)) workTellsCard

/-- THE TIED CARD OF 'swinggatelaw.WorkNext'. -/
def workNextCard : Claim7 := { stood := { row := workNextRow, standIns := [], harness := (true, "beedd71790668e6e285be79801e528480764b70106ebde41c1fe3b242bc386c2"), looks := false }, kinds := [], alts := [], laidByText := true, laidKinds := [.data], laidTests := true, laidLooks := .later }
def WorkNextCardSaid : Prop := Claim7.holds Tryd.pinned (.plain (OpenSpec.ofChange workNextSpec)) workNextCard

/-- THE TIED CARD OF 'swinggatelaw.WorkAdds'. -/
def workAddsCard : Claim7 := { stood := { row := workAddsRow, standIns := [], harness := (true, "beedd71790668e6e285be79801e528480764b70106ebde41c1fe3b242bc386c2"), looks := false }, kinds := [], alts := [], laidByText := true, laidKinds := [.data], laidTests := true, laidLooks := .later }
def WorkAddsCardSaid : Prop := Claim7.holds Tryd.pinned (.plain (OpenSpec.ofChange workAddsSpec)) workAddsCard

/-- THE TIED CARD OF 'swinggatelaw.WorkCounts'. -/
def workCountsCard : Claim7 := { stood := { row := workCountsRow, standIns := [], harness := (true, "beedd71790668e6e285be79801e528480764b70106ebde41c1fe3b242bc386c2"), looks := false }, kinds := [], alts := [], laidByText := true, laidKinds := [.data], laidTests := true, laidLooks := .later }
def WorkCountsCardSaid : Prop := Claim7.holds Tryd.pinned (.plain (OpenSpec.ofChange workCountsSpec)) workCountsCard

/-- THE TIED CARD OF 'swinggatelaw.WorkRests'. -/
def workRestsCard : Claim7 := { stood := { row := workRestsRow, standIns := [], harness := (true, "beedd71790668e6e285be79801e528480764b70106ebde41c1fe3b242bc386c2"), looks := false }, kinds := [], alts := [], laidByText := true, laidKinds := [.data], laidTests := true, laidLooks := .later }
def WorkRestsCardSaid : Prop := Claim7.holds Tryd.pinned (.plain (OpenSpec.ofChange workRestsSpec)) workRestsCard

/-- THE SECOND FORM's CARD OF 'swinggatelaw.HolidaysTell'. -/
def holidaysTellUptoCard : Claim7 := { stood := { row := holidaysTellUptoRow, standIns := [], harness := (true, "beedd71790668e6e285be79801e528480764b70106ebde41c1fe3b242bc386c2"), looks := false }, kinds := [], alts := [], laidByText := true, laidKinds := [.data], laidTests := true, laidLooks := .later }
def HolidaysTellUptoCardSaid : Prop := Claim7.holds Tryd.pinned (.plain (OpenSpec.upto holidaysTellSpec)) holidaysTellUptoCard

/-- THE SECOND FORM's CARD OF 'swinggatelaw.WorkTells'. -/
def workTellsUptoCard : Claim7 := { stood := { row := workTellsUptoRow, standIns := [], harness := (true, "beedd71790668e6e285be79801e528480764b70106ebde41c1fe3b242bc386c2"), looks := false }, kinds := [], alts := [], laidByText := true, laidKinds := [.data], laidTests := true, laidLooks := .later }
def WorkTellsUptoCardSaid : Prop := Claim7.holds Tryd.pinned (.plain (OpenSpec.upto workTellsSpec)) workTellsUptoCard

/-- THE SECOND FORM's CARD OF 'swinggatelaw.WorkNext'. -/
def workNextUptoCard : Claim7 := { stood := { row := workNextUptoRow, standIns := [], harness := (true, "beedd71790668e6e285be79801e528480764b70106ebde41c1fe3b242bc386c2"), looks := false }, kinds := [], alts := [], laidByText := true, laidKinds := [.data], laidTests := true, laidLooks := .later }
def WorkNextUptoCardSaid : Prop := Claim7.holds Tryd.pinned (.plain (OpenSpec.upto workNextSpec)) workNextUptoCard

/-- THE SECOND FORM's CARD OF 'swinggatelaw.WorkAdds'. -/
def workAddsUptoCard : Claim7 := { stood := { row := workAddsUptoRow, standIns := [], harness := (true, "beedd71790668e6e285be79801e528480764b70106ebde41c1fe3b242bc386c2"), looks := false }, kinds := [], alts := [], laidByText := true, laidKinds := [.data], laidTests := true, laidLooks := .later }
def WorkAddsUptoCardSaid : Prop := Claim7.holds Tryd.pinned (.plain (OpenSpec.upto workAddsSpec)) workAddsUptoCard

/-- THE SECOND FORM's CARD OF 'swinggatelaw.WorkCounts'. -/
def workCountsUptoCard : Claim7 := { stood := { row := workCountsUptoRow, standIns := [], harness := (true, "beedd71790668e6e285be79801e528480764b70106ebde41c1fe3b242bc386c2"), looks := false }, kinds := [], alts := [], laidByText := true, laidKinds := [.data], laidTests := true, laidLooks := .later }
def WorkCountsUptoCardSaid : Prop := Claim7.holds Tryd.pinned (.plain (OpenSpec.upto workCountsSpec)) workCountsUptoCard

/-- THE SECOND FORM's CARD OF 'swinggatelaw.WorkRests'. -/
def workRestsUptoCard : Claim7 := { stood := { row := workRestsUptoRow, standIns := [], harness := (true, "beedd71790668e6e285be79801e528480764b70106ebde41c1fe3b242bc386c2"), looks := false }, kinds := [], alts := [], laidByText := true, laidKinds := [.data], laidTests := true, laidLooks := .later }
def WorkRestsUptoCardSaid : Prop := Claim7.holds Tryd.pinned (.plain (OpenSpec.upto workRestsSpec)) workRestsUptoCard
end Rows
end Go.Proofs.YtpjpmfcbddkjnaaDoor
