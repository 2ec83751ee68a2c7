/-
  DERIVED. GIVEN WITH THE SEED: THE CARDS: each row of YtknlkkigiommhaaDoorRows.lean that lists a variable, with what it lists TIED to the program's text (the seventh form; the later family's looks); each row that meets fmt, with fmt's text TOLD by the authors' own Lean function (tested against real Go, not proved from fmt's source: count such statements apart). THE CARD IS WHAT COUNTS. Prove the row's statement (the work); the ties are given (YtknlkkigiommhaaDoorTie.lean); close each card by the builder's one call (the guide's Derived/Test/ToyasCard.lean, 'card_holds'). Laid BY PROGRAM, IN A SANDBOX (cutbox-door.mjs). By AI agents, Wed Nov 11 2026. No macro, syntax, notation, axiom, sorry.
-/
import Derived.Test.YtknlkkigiommhaaDoorRows
import GoSem.ClaimSeven
namespace Go.Proofs.YtknlkkigiommhaaDoor
namespace Rows

/-- THE TIED CARD OF 'becketlaw04.BitsetOne'. -/
def bitsetOneCard : Claim7 := { stood := { row := bitsetOneRow, standIns := [], harness := (true, "5ec6e6cd9b6592da27bdc5454379300c4aec7c98639a1a42395be4991b28be56"), looks := false }, kinds := [], alts := [], laidByText := true, laidKinds := [.data], laidTests := true, laidLooks := .later }
def BitsetOneCardSaid : Prop := Claim7.holds Tryd.pinned (.plain (OpenSpec.ofChange bitsetOneSpec)) bitsetOneCard

/-- THE TIED CARD OF 'becketlaw04.BitsetTwo'. -/
def bitsetTwoCard : Claim7 := { stood := { row := bitsetTwoRow, standIns := [], harness := (true, "5ec6e6cd9b6592da27bdc5454379300c4aec7c98639a1a42395be4991b28be56"), looks := false }, kinds := [], alts := [], laidByText := true, laidKinds := [.data], laidTests := true, laidLooks := .later }
def BitsetTwoCardSaid : Prop := Claim7.holds Tryd.pinned (.plain (OpenSpec.ofChange bitsetTwoSpec)) bitsetTwoCard

/-- THE TIED CARD OF 'becketlaw04.BitsetStops'. -/
def bitsetStopsCard : Claim7 := { stood := { row := bitsetStopsRow, standIns := [], harness := (true, "5ec6e6cd9b6592da27bdc5454379300c4aec7c98639a1a42395be4991b28be56"), looks := false }, kinds := [], alts := [], laidByText := true, laidKinds := [.data], laidTests := true, laidLooks := .later }
def BitsetStopsCardSaid : Prop := Claim7.holds Tryd.pinned (.plain (OpenSpec.ofChange bitsetStopsSpec)) bitsetStopsCard

/-- THE TIED CARD OF 'becketlaw04.BitsetLaws'. -/
def bitsetLawsCard : Claim7 := { stood := { row := bitsetLawsRow, standIns := [], harness := (true, "5ec6e6cd9b6592da27bdc5454379300c4aec7c98639a1a42395be4991b28be56"), looks := false }, kinds := [], alts := [], laidByText := true, laidKinds := [.data], laidTests := true, laidLooks := .later }
def BitsetLawsCardSaid : Prop := Claim7.holds Tryd.pinned (.plain (OpenSpec.ofChange bitsetLawsSpec)) bitsetLawsCard

/-- THE SECOND FORM's CARD OF 'becketlaw04.BitsetOne'. -/
def bitsetOneUptoCard : Claim7 := { stood := { row := bitsetOneUptoRow, standIns := [], harness := (true, "5ec6e6cd9b6592da27bdc5454379300c4aec7c98639a1a42395be4991b28be56"), looks := false }, kinds := [], alts := [], laidByText := true, laidKinds := [.data], laidTests := true, laidLooks := .later }
def BitsetOneUptoCardSaid : Prop := Claim7.holds Tryd.pinned (.plain (OpenSpec.upto bitsetOneSpec)) bitsetOneUptoCard

/-- THE SECOND FORM's CARD OF 'becketlaw04.BitsetTwo'. -/
def bitsetTwoUptoCard : Claim7 := { stood := { row := bitsetTwoUptoRow, standIns := [], harness := (true, "5ec6e6cd9b6592da27bdc5454379300c4aec7c98639a1a42395be4991b28be56"), looks := false }, kinds := [], alts := [], laidByText := true, laidKinds := [.data], laidTests := true, laidLooks := .later }
def BitsetTwoUptoCardSaid : Prop := Claim7.holds Tryd.pinned (.plain (OpenSpec.upto bitsetTwoSpec)) bitsetTwoUptoCard

/-- THE SECOND FORM's CARD OF 'becketlaw04.BitsetStops'. -/
def bitsetStopsUptoCard : Claim7 := { stood := { row := bitsetStopsUptoRow, standIns := [], harness := (true, "5ec6e6cd9b6592da27bdc5454379300c4aec7c98639a1a42395be4991b28be56"), looks := false }, kinds := [], alts := [], laidByText := true, laidKinds := [.data], laidTests := true, laidLooks := .later }
def BitsetStopsUptoCardSaid : Prop := Claim7.holds Tryd.pinned (.plain (OpenSpec.upto bitsetStopsSpec)) bitsetStopsUptoCard

/-- THE SECOND FORM's CARD OF 'becketlaw04.BitsetLaws'. -/
def bitsetLawsUptoCard : Claim7 := { stood := { row := bitsetLawsUptoRow, standIns := [], harness := (true, "5ec6e6cd9b6592da27bdc5454379300c4aec7c98639a1a42395be4991b28be56"), looks := false }, kinds := [], alts := [], laidByText := true, laidKinds := [.data], laidTests := true, laidLooks := .later }
def BitsetLawsUptoCardSaid : Prop := Claim7.holds Tryd.pinned (.plain (OpenSpec.upto bitsetLawsSpec)) bitsetLawsUptoCard
end Rows
end Go.Proofs.YtknlkkigiommhaaDoor
