/-
  DERIVED. GIVEN WITH THE SEED: THE CARDS: each row of YtibhaiciameklaaDoorRows.lean that lists a variable, with what it lists TIED to the program's text (the seventh form; the later family's looks); each row that meets fmt, with fmt's text TOLD by the authors' own Lean function (tested against real Go, not proved from fmt's source: count such statements apart). THE CARD IS WHAT COUNTS. Prove the row's statement (the work); the ties are given (YtibhaiciameklaaDoorTie.lean); close each card by the builder's one call (the guide's Derived/Test/ToyasCard.lean, 'card_holds'). Laid BY PROGRAM, IN A SANDBOX (cutbox-door.mjs). By AI agents, Wed Nov 11 2026. No macro, syntax, notation, axiom, sorry.
-/
import Derived.Test.YtibhaiciameklaaDoorRows
import GoSem.ClaimSeven
namespace Go.Proofs.YtibhaiciameklaaDoor
namespace Rows

/-- THE TIED CARD OF 'becketlaw22.BarrierActs'. -/
def barrierActsCard : Claim7 := { stood := { row := barrierActsRow, standIns := [], harness := (true, "5e956ea92c1ffffea186b9ef4862ee1b4f9a979ded6ca30a28cd4fd81fff6d63"), looks := false }, kinds := [], alts := [], laidByText := true, laidKinds := [.data], laidTests := true, laidLooks := .later }
def BarrierActsCardSaid : Prop := Claim7.holds Tryd.pinned (.plain (OpenSpec.ofChange barrierActsSpec)) barrierActsCard

/-- THE TIED CARD OF 'becketlaw22.BarrierFires'. -/
def barrierFiresCard : Claim7 := { stood := { row := barrierFiresRow, standIns := [], harness := (true, "5e956ea92c1ffffea186b9ef4862ee1b4f9a979ded6ca30a28cd4fd81fff6d63"), looks := false }, kinds := [], alts := [], laidByText := true, laidKinds := [.data], laidTests := true, laidLooks := .later }
def BarrierFiresCardSaid : Prop := Claim7.holds Tryd.pinned (.plain (OpenSpec.ofChange barrierFiresSpec)) barrierFiresCard

/-- THE TIED CARD OF 'becketlaw22.BarrierEnds'. -/
def barrierEndsCard : Claim7 := { stood := { row := barrierEndsRow, standIns := [], harness := (true, "5e956ea92c1ffffea186b9ef4862ee1b4f9a979ded6ca30a28cd4fd81fff6d63"), looks := false }, kinds := [], alts := [], laidByText := true, laidKinds := [.data], laidTests := true, laidLooks := .later }
def BarrierEndsCardSaid : Prop := Claim7.holds Tryd.pinned (.plain (OpenSpec.ofChange barrierEndsSpec)) barrierEndsCard

/-- THE SECOND FORM's CARD OF 'becketlaw22.BarrierActs'. -/
def barrierActsUptoCard : Claim7 := { stood := { row := barrierActsUptoRow, standIns := [], harness := (true, "5e956ea92c1ffffea186b9ef4862ee1b4f9a979ded6ca30a28cd4fd81fff6d63"), looks := false }, kinds := [], alts := [], laidByText := true, laidKinds := [.data], laidTests := true, laidLooks := .later }
def BarrierActsUptoCardSaid : Prop := Claim7.holds Tryd.pinned (.plain (OpenSpec.upto barrierActsSpec)) barrierActsUptoCard

/-- THE SECOND FORM's CARD OF 'becketlaw22.BarrierFires'. -/
def barrierFiresUptoCard : Claim7 := { stood := { row := barrierFiresUptoRow, standIns := [], harness := (true, "5e956ea92c1ffffea186b9ef4862ee1b4f9a979ded6ca30a28cd4fd81fff6d63"), looks := false }, kinds := [], alts := [], laidByText := true, laidKinds := [.data], laidTests := true, laidLooks := .later }
def BarrierFiresUptoCardSaid : Prop := Claim7.holds Tryd.pinned (.plain (OpenSpec.upto barrierFiresSpec)) barrierFiresUptoCard

/-- THE SECOND FORM's CARD OF 'becketlaw22.BarrierEnds'. -/
def barrierEndsUptoCard : Claim7 := { stood := { row := barrierEndsUptoRow, standIns := [], harness := (true, "5e956ea92c1ffffea186b9ef4862ee1b4f9a979ded6ca30a28cd4fd81fff6d63"), looks := false }, kinds := [], alts := [], laidByText := true, laidKinds := [.data], laidTests := true, laidLooks := .later }
def BarrierEndsUptoCardSaid : Prop := Claim7.holds Tryd.pinned (.plain (OpenSpec.upto barrierEndsSpec)) barrierEndsUptoCard
end Rows
end Go.Proofs.YtibhaiciameklaaDoor
