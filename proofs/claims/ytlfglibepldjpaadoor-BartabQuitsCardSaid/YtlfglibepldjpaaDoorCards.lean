/-
  DERIVED. GIVEN WITH THE SEED: THE CARDS: each row of YtlfglibepldjpaaDoorRows.lean that lists a variable, with what it lists TIED to the program's text (the seventh form; the later family's looks); each row that meets fmt, with fmt's text TOLD by the authors' own Lean function (tested against real Go, not proved from fmt's source: count such statements apart). THE CARD IS WHAT COUNTS. Prove the row's statement (the work); the ties are given (YtlfglibepldjpaaDoorTie.lean); close each card by the builder's one call (the guide's Derived/Test/ToyasCard.lean, 'card_holds'). Laid BY PROGRAM, IN A SANDBOX (cutbox-door.mjs). By AI agents, Wed Nov 11 2026. No macro, syntax, notation, axiom, sorry.
-/
import Derived.Test.YtlfglibepldjpaaDoorRows
import GoSem.ClaimSeven
namespace Go.Proofs.YtlfglibepldjpaaDoor
namespace Rows

/-- THE TIED CARD OF 'becketlaw23.BartabOffers'. -/
def bartabOffersCard : Claim7 := { stood := { row := bartabOffersRow, standIns := [], harness := (true, "adc61beaec5b4e13275eb7a6a68eabdfe7860a893122af88293a3ce441fe6d4e"), looks := false }, kinds := [], alts := [], laidByText := true, laidKinds := [.data], laidTests := true, laidLooks := .later }
def BartabOffersCardSaid : Prop := Claim7.holds Tryd.pinned (.plain (OpenSpec.ofChange bartabOffersSpec)) bartabOffersCard

/-- THE TIED CARD OF 'becketlaw23.BartabActs'. -/
def bartabActsCard : Claim7 := { stood := { row := bartabActsRow, standIns := [], harness := (true, "adc61beaec5b4e13275eb7a6a68eabdfe7860a893122af88293a3ce441fe6d4e"), looks := false }, kinds := [], alts := [], laidByText := true, laidKinds := [.data], laidTests := true, laidLooks := .later }
def BartabActsCardSaid : Prop := Claim7.holds Tryd.pinned (.plain (OpenSpec.ofChange bartabActsSpec)) bartabActsCard

/-- THE TIED CARD OF 'becketlaw23.BartabNew'. -/
def bartabNewCard : Claim7 := { stood := { row := bartabNewRow, standIns := [], harness := (true, "adc61beaec5b4e13275eb7a6a68eabdfe7860a893122af88293a3ce441fe6d4e"), looks := false }, kinds := [], alts := [], laidByText := true, laidKinds := [.data], laidTests := true, laidLooks := .later }
def BartabNewCardSaid : Prop := Claim7.holds Tryd.pinned (.plain (OpenSpec.ofChange bartabNewSpec)) bartabNewCard

/-- THE TIED CARD OF 'becketlaw23.BartabQuits'. -/
def bartabQuitsCard : Claim7 := { stood := { row := bartabQuitsRow, standIns := [], harness := (true, "adc61beaec5b4e13275eb7a6a68eabdfe7860a893122af88293a3ce441fe6d4e"), looks := false }, kinds := [], alts := [], laidByText := true, laidKinds := [.data], laidTests := true, laidLooks := .later }
def BartabQuitsCardSaid : Prop := Claim7.holds Tryd.pinned (.plain (OpenSpec.ofChange bartabQuitsSpec)) bartabQuitsCard

/-- THE SECOND FORM's CARD OF 'becketlaw23.BartabOffers'. -/
def bartabOffersUptoCard : Claim7 := { stood := { row := bartabOffersUptoRow, standIns := [], harness := (true, "adc61beaec5b4e13275eb7a6a68eabdfe7860a893122af88293a3ce441fe6d4e"), looks := false }, kinds := [], alts := [], laidByText := true, laidKinds := [.data], laidTests := true, laidLooks := .later }
def BartabOffersUptoCardSaid : Prop := Claim7.holds Tryd.pinned (.plain (OpenSpec.upto bartabOffersSpec)) bartabOffersUptoCard

/-- THE SECOND FORM's CARD OF 'becketlaw23.BartabActs'. -/
def bartabActsUptoCard : Claim7 := { stood := { row := bartabActsUptoRow, standIns := [], harness := (true, "adc61beaec5b4e13275eb7a6a68eabdfe7860a893122af88293a3ce441fe6d4e"), looks := false }, kinds := [], alts := [], laidByText := true, laidKinds := [.data], laidTests := true, laidLooks := .later }
def BartabActsUptoCardSaid : Prop := Claim7.holds Tryd.pinned (.plain (OpenSpec.upto bartabActsSpec)) bartabActsUptoCard

/-- THE SECOND FORM's CARD OF 'becketlaw23.BartabNew'. -/
def bartabNewUptoCard : Claim7 := { stood := { row := bartabNewUptoRow, standIns := [], harness := (true, "adc61beaec5b4e13275eb7a6a68eabdfe7860a893122af88293a3ce441fe6d4e"), looks := false }, kinds := [], alts := [], laidByText := true, laidKinds := [.data], laidTests := true, laidLooks := .later }
def BartabNewUptoCardSaid : Prop := Claim7.holds Tryd.pinned (.plain (OpenSpec.upto bartabNewSpec)) bartabNewUptoCard

/-- THE SECOND FORM's CARD OF 'becketlaw23.BartabQuits'. -/
def bartabQuitsUptoCard : Claim7 := { stood := { row := bartabQuitsUptoRow, standIns := [], harness := (true, "adc61beaec5b4e13275eb7a6a68eabdfe7860a893122af88293a3ce441fe6d4e"), looks := false }, kinds := [], alts := [], laidByText := true, laidKinds := [.data], laidTests := true, laidLooks := .later }
def BartabQuitsUptoCardSaid : Prop := Claim7.holds Tryd.pinned (.plain (OpenSpec.upto bartabQuitsSpec)) bartabQuitsUptoCard
end Rows
end Go.Proofs.YtlfglibepldjpaaDoor
