/-
  DERIVED. GIVEN WITH THE SEED: THE CARDS: each row of YtlplfnfaoaomkaaDoorRows.lean that lists a variable, with what it lists TIED to the program's text (the seventh form; the later family's looks); each row that meets fmt, with fmt's text TOLD by the authors' own Lean function (tested against real Go, not proved from fmt's source: count such statements apart). THE CARD IS WHAT COUNTS. Prove the row's statement (the work); the ties are given (YtlplfnfaoaomkaaDoorTie.lean); close each card by the builder's one call (the guide's Derived/Test/ToyasCard.lean, 'card_holds'). Laid BY PROGRAM, IN A SANDBOX (cutbox-door.mjs). By AI agents, Wed Nov 11 2026. No macro, syntax, notation, axiom, sorry.
-/
import Derived.Test.YtlplfnfaoaomkaaDoorRows
import GoSem.ClaimSeven
namespace Go.Proofs.YtlplfnfaoaomkaaDoor
namespace Rows

/-- THE TIED CARD OF 'becketlaw21.RollActs'. -/
def rollActsCard : Claim7 := { stood := { row := rollActsRow, standIns := [], harness := (true, "3ae21850c2d90d9c79196313c5ef27b1500bdfff8070ed69ba3e7623517ba9f8"), looks := false }, kinds := [], alts := [], laidByText := true, laidKinds := [.data], laidTests := true, laidLooks := .later }
def RollActsCardSaid : Prop := Claim7.holds Tryd.pinned (.plain (OpenSpec.ofChange rollActsSpec)) rollActsCard

/-- THE TIED CARD OF 'becketlaw21.RollCounts'. -/
def rollCountsCard : Claim7 := { stood := { row := rollCountsRow, standIns := [], harness := (true, "3ae21850c2d90d9c79196313c5ef27b1500bdfff8070ed69ba3e7623517ba9f8"), looks := false }, kinds := [], alts := [], laidByText := true, laidKinds := [.data], laidTests := true, laidLooks := .later }
def RollCountsCardSaid : Prop := Claim7.holds Tryd.pinned (.plain (OpenSpec.ofChange rollCountsSpec)) rollCountsCard

/-- THE SECOND FORM's CARD OF 'becketlaw21.RollActs'. -/
def rollActsUptoCard : Claim7 := { stood := { row := rollActsUptoRow, standIns := [], harness := (true, "3ae21850c2d90d9c79196313c5ef27b1500bdfff8070ed69ba3e7623517ba9f8"), looks := false }, kinds := [], alts := [], laidByText := true, laidKinds := [.data], laidTests := true, laidLooks := .later }
def RollActsUptoCardSaid : Prop := Claim7.holds Tryd.pinned (.plain (OpenSpec.upto rollActsSpec)) rollActsUptoCard

/-- THE SECOND FORM's CARD OF 'becketlaw21.RollCounts'. -/
def rollCountsUptoCard : Claim7 := { stood := { row := rollCountsUptoRow, standIns := [], harness := (true, "3ae21850c2d90d9c79196313c5ef27b1500bdfff8070ed69ba3e7623517ba9f8"), looks := false }, kinds := [], alts := [], laidByText := true, laidKinds := [.data], laidTests := true, laidLooks := .later }
def RollCountsUptoCardSaid : Prop := Claim7.holds Tryd.pinned (.plain (OpenSpec.upto rollCountsSpec)) rollCountsUptoCard
end Rows
end Go.Proofs.YtlplfnfaoaomkaaDoor
