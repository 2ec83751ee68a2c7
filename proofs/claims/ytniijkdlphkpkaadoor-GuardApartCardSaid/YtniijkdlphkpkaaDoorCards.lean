/-
  DERIVED. GIVEN WITH THE SEED: THE CARDS: each row of YtniijkdlphkpkaaDoorRows.lean that lists a variable, with what it lists TIED to the program's text (the seventh form; the later family's looks); each row that meets fmt, with fmt's text TOLD by the authors' own Lean function (tested against real Go, not proved from fmt's source: count such statements apart). THE CARD IS WHAT COUNTS. Prove the row's statement (the work); the ties are given (YtniijkdlphkpkaaDoorTie.lean); close each card by the builder's one call (the guide's Derived/Test/ToyasCard.lean, 'card_holds'). Laid BY PROGRAM, IN A SANDBOX (cutbox-door.mjs). By AI agents, Wed Nov 11 2026. No macro, syntax, notation, axiom, sorry.
-/
import Derived.Test.YtniijkdlphkpkaaDoorRows
import GoSem.ClaimSeven
namespace Go.Proofs.YtniijkdlphkpkaaDoor
namespace Rows

/-- THE TIED CARD OF 'becketlaw25.GuardTells'. -/
def guardTellsCard : Claim7 := { stood := { row := guardTellsRow, standIns := [], harness := (true, "8954ab35ef38317d4fc8e4374bb4070f0aebfa547d027332010661f9809aa260"), looks := false }, kinds := [], alts := [], laidByText := true, laidKinds := [.data, .data, .data], laidTests := true, laidLooks := .later }
def GuardTellsCardSaid : Prop := Claim7.holds Tryd.pinned (.plain (OpenSpec.ofChange guardTellsSpec)) guardTellsCard

/-- THE TIED CARD OF 'becketlaw25.GuardLists'. -/
def guardListsCard : Claim7 := { stood := { row := guardListsRow, standIns := [], harness := (true, "8954ab35ef38317d4fc8e4374bb4070f0aebfa547d027332010661f9809aa260"), looks := false }, kinds := [], alts := [], laidByText := true, laidKinds := [.data, .data, .data], laidTests := true, laidLooks := .later }
def GuardListsCardSaid : Prop := Claim7.holds Tryd.pinned (.plain (OpenSpec.ofChange guardListsSpec)) guardListsCard

/-- THE TIED CARD OF 'becketlaw25.GuardApart'. -/
def guardApartCard : Claim7 := { stood := { row := guardApartRow, standIns := [], harness := (true, "8954ab35ef38317d4fc8e4374bb4070f0aebfa547d027332010661f9809aa260"), looks := false }, kinds := [], alts := [], laidByText := true, laidKinds := [.data, .data, .data], laidTests := true, laidLooks := .later }
def GuardApartCardSaid : Prop := Claim7.holds Tryd.pinned (.plain (OpenSpec.ofChange guardApartSpec)) guardApartCard

/-- THE SECOND FORM's CARD OF 'becketlaw25.GuardTells'. -/
def guardTellsUptoCard : Claim7 := { stood := { row := guardTellsUptoRow, standIns := [], harness := (true, "8954ab35ef38317d4fc8e4374bb4070f0aebfa547d027332010661f9809aa260"), looks := false }, kinds := [], alts := [], laidByText := true, laidKinds := [.data, .data, .data], laidTests := true, laidLooks := .later }
def GuardTellsUptoCardSaid : Prop := Claim7.holds Tryd.pinned (.plain (OpenSpec.upto guardTellsSpec)) guardTellsUptoCard

/-- THE SECOND FORM's CARD OF 'becketlaw25.GuardLists'. -/
def guardListsUptoCard : Claim7 := { stood := { row := guardListsUptoRow, standIns := [], harness := (true, "8954ab35ef38317d4fc8e4374bb4070f0aebfa547d027332010661f9809aa260"), looks := false }, kinds := [], alts := [], laidByText := true, laidKinds := [.data, .data, .data], laidTests := true, laidLooks := .later }
def GuardListsUptoCardSaid : Prop := Claim7.holds Tryd.pinned (.plain (OpenSpec.upto guardListsSpec)) guardListsUptoCard

/-- THE SECOND FORM's CARD OF 'becketlaw25.GuardApart'. -/
def guardApartUptoCard : Claim7 := { stood := { row := guardApartUptoRow, standIns := [], harness := (true, "8954ab35ef38317d4fc8e4374bb4070f0aebfa547d027332010661f9809aa260"), looks := false }, kinds := [], alts := [], laidByText := true, laidKinds := [.data, .data, .data], laidTests := true, laidLooks := .later }
def GuardApartUptoCardSaid : Prop := Claim7.holds Tryd.pinned (.plain (OpenSpec.upto guardApartSpec)) guardApartUptoCard
end Rows
end Go.Proofs.YtniijkdlphkpkaaDoor
