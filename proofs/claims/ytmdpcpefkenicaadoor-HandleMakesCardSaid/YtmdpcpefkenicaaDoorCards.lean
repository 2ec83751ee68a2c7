/-
  DERIVED. GIVEN WITH THE SEED: THE CARDS: each row of YtmdpcpefkenicaaDoorRows.lean that lists a variable, with what it lists TIED to the program's text (the seventh form; the later family's looks); each row that meets fmt, with fmt's text TOLD by the authors' own Lean function (tested against real Go, not proved from fmt's source: count such statements apart). THE CARD IS WHAT COUNTS. Prove the row's statement (the work); the ties are given (YtmdpcpefkenicaaDoorTie.lean); close each card by the builder's one call (the guide's Derived/Test/ToyasCard.lean, 'card_holds'). Laid BY PROGRAM, IN A SANDBOX (cutbox-door.mjs). By AI agents, Wed Nov 11 2026. No macro, syntax, notation, axiom, sorry.
-/
import Derived.Test.YtmdpcpefkenicaaDoorRows
import GoSem.ClaimSeven
namespace Go.Proofs.YtmdpcpefkenicaaDoor
namespace Rows

/-- THE TIED CARD OF 'becketlaw01.HandleMakes'. -/
def handleMakesCard : Claim7 := { stood := { row := handleMakesRow, standIns := [], harness := (true, "a518b40d712f1acca8e9feaa731ce4b38ba74c2539d8ca9d506013cac20b3a34"), looks := false }, kinds := [], alts := [], laidByText := true, laidKinds := [.data, .data, .data], laidTests := true, laidLooks := .later }
def HandleMakesCardSaid : Prop := Claim7.holds Tryd.pinned (.plain (OpenSpec.ofChange handleMakesSpec)) handleMakesCard

/-- THE TIED CARD OF 'becketlaw01.HandleParts'. -/
def handlePartsCard : Claim7 := { stood := { row := handlePartsRow, standIns := [], harness := (true, "a518b40d712f1acca8e9feaa731ce4b38ba74c2539d8ca9d506013cac20b3a34"), looks := false }, kinds := [], alts := [], laidByText := true, laidKinds := [.data, .data, .data], laidTests := true, laidLooks := .later }
def HandlePartsCardSaid : Prop := Claim7.holds Tryd.pinned (.plain (OpenSpec.ofChange handlePartsSpec)) handlePartsCard

/-- THE TIED CARD OF 'becketlaw01.HandleReads'. -/
def handleReadsCard : Claim7 := { stood := { row := handleReadsRow, standIns := [], harness := (true, "a518b40d712f1acca8e9feaa731ce4b38ba74c2539d8ca9d506013cac20b3a34"), looks := false }, kinds := [], alts := [], laidByText := true, laidKinds := [.data, .data, .data], laidTests := true, laidLooks := .later }
def HandleReadsCardSaid : Prop := Claim7.holds Tryd.pinned (.plain (OpenSpec.ofChange handleReadsSpec)) handleReadsCard

/-- THE TIED CARD OF 'becketlaw01.HandleBack'. -/
def handleBackCard : Claim7 := { stood := { row := handleBackRow, standIns := [], harness := (true, "a518b40d712f1acca8e9feaa731ce4b38ba74c2539d8ca9d506013cac20b3a34"), looks := false }, kinds := [], alts := [], laidByText := true, laidKinds := [.data, .data, .data], laidTests := true, laidLooks := .later }
def HandleBackCardSaid : Prop := Claim7.holds Tryd.pinned (.plain (OpenSpec.ofChange handleBackSpec)) handleBackCard

/-- THE SECOND FORM's CARD OF 'becketlaw01.HandleMakes'. -/
def handleMakesUptoCard : Claim7 := { stood := { row := handleMakesUptoRow, standIns := [], harness := (true, "a518b40d712f1acca8e9feaa731ce4b38ba74c2539d8ca9d506013cac20b3a34"), looks := false }, kinds := [], alts := [], laidByText := true, laidKinds := [.data, .data, .data], laidTests := true, laidLooks := .later }
def HandleMakesUptoCardSaid : Prop := Claim7.holds Tryd.pinned (.plain (OpenSpec.upto handleMakesSpec)) handleMakesUptoCard

/-- THE SECOND FORM's CARD OF 'becketlaw01.HandleParts'. -/
def handlePartsUptoCard : Claim7 := { stood := { row := handlePartsUptoRow, standIns := [], harness := (true, "a518b40d712f1acca8e9feaa731ce4b38ba74c2539d8ca9d506013cac20b3a34"), looks := false }, kinds := [], alts := [], laidByText := true, laidKinds := [.data, .data, .data], laidTests := true, laidLooks := .later }
def HandlePartsUptoCardSaid : Prop := Claim7.holds Tryd.pinned (.plain (OpenSpec.upto handlePartsSpec)) handlePartsUptoCard

/-- THE SECOND FORM's CARD OF 'becketlaw01.HandleReads'. -/
def handleReadsUptoCard : Claim7 := { stood := { row := handleReadsUptoRow, standIns := [], harness := (true, "a518b40d712f1acca8e9feaa731ce4b38ba74c2539d8ca9d506013cac20b3a34"), looks := false }, kinds := [], alts := [], laidByText := true, laidKinds := [.data, .data, .data], laidTests := true, laidLooks := .later }
def HandleReadsUptoCardSaid : Prop := Claim7.holds Tryd.pinned (.plain (OpenSpec.upto handleReadsSpec)) handleReadsUptoCard

/-- THE SECOND FORM's CARD OF 'becketlaw01.HandleBack'. -/
def handleBackUptoCard : Claim7 := { stood := { row := handleBackUptoRow, standIns := [], harness := (true, "a518b40d712f1acca8e9feaa731ce4b38ba74c2539d8ca9d506013cac20b3a34"), looks := false }, kinds := [], alts := [], laidByText := true, laidKinds := [.data, .data, .data], laidTests := true, laidLooks := .later }
def HandleBackUptoCardSaid : Prop := Claim7.holds Tryd.pinned (.plain (OpenSpec.upto handleBackSpec)) handleBackUptoCard
end Rows
end Go.Proofs.YtmdpcpefkenicaaDoor
