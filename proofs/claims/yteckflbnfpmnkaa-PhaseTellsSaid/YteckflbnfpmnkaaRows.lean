/-
  No cell of these rows narrows 'for every input' (looked for: loops, veiled, ifaces, maps, wideKeys, modest, calm, conditions, laid).
  DERIVED. THE GIVEN ROWS OF THIS SEAT. 3 by the template 'for every input the law returns true; each argument reads behind the call as it read before'; 0 by the template 'total and deterministic' (their statements: YteckflbnfpmnkaaTotals.lean).
  GIVEN WITH THE SEED: the statements are not yours to turn. If you find one false, say at which input.
  Laid BY PROGRAM, IN A SANDBOX (cutbox-rows.mjs): the forced cells as the released guide's own fill.sh prints them over the translation f333abe417b2c70b… (all of the seat's roots in one cut). By AI agents, Wed Nov 11 2026. No macro, syntax, notation, axiom, sorry.
-/
import Derived.Test.YteckflbnfpmnkaaChecked
import GoSem.Claim
import GoSem.ClaimJoined
import GoSem.ClaimMapViews
import Derived.JoinedTies
import Derived.KernelRfl
namespace Go.Proofs.Yteckflbnfpmnkaa
/- THE CELL 'sum', in the pinned program and in every row, IS THE sha256 OF THE DUMP (.gsa) THAT YteckflbnfpmnkaaProg.lean LOADS. Nothing in Lean hashes anything: it is a label: what it is worth is what the hold of that sum in a sandbox is worth. -/
noncomputable def Try.pinned : Pinned := { name := "yteckflbnfpmnkaa", sum := "f333abe417b2c70b0922020362f46e06c4543ca8df06bcf61ca5519569694f17", checked := Try.checked }
namespace Rows
def none {H : Type} : Left H := { results := [], args := [] }

/-- 'becketlaw20.PhaseTells': WHATEVER THE INPUT: true; the input reads as it did. -/
def phaseTellsSpec : ChangeSpec := { name := "phaseTells", fn := fun _ => fun
  | [d1, d2] => { results := [.lit (.bool true)], args := [d1, d2] }
  | _ => none }
def phaseTellsRow : OpenClaim := { program := "yteckflbnfpmnkaa", sum := "f333abe417b2c70b0922020362f46e06c4543ca8df06bcf61ca5519569694f17", func := "becket/becketlaw20.PhaseTells", spec := "phaseTells", apart := false }
def PhaseTellsSaid : Prop := phaseTellsRow.holds Try.pinned (OpenSpec.ofChange phaseTellsSpec)

/-- ITS FALSE NEIGHBOUR: 'it returns false'. Refute it at one input. -/
def phaseTellsWrong : ChangeSpec := { name := "phaseTells", fn := fun _ => fun
  | [d1, d2] => { results := [.lit (.bool false)], args := [d1, d2] }
  | _ => none }
def PhaseTellsWrongFalsely : Prop := phaseTellsRow.holds Try.pinned (OpenSpec.ofChange phaseTellsWrong)

/-- 'becketlaw20.PhaseGoes': WHATEVER THE INPUT: true; the input reads as it did. -/
def phaseGoesSpec : ChangeSpec := { name := "phaseGoes", fn := fun _ => fun
  | [d1, d2, d3] => { results := [.lit (.bool true)], args := [d1, d2, d3] }
  | _ => none }
def phaseGoesRow : OpenClaim := { program := "yteckflbnfpmnkaa", sum := "f333abe417b2c70b0922020362f46e06c4543ca8df06bcf61ca5519569694f17", func := "becket/becketlaw20.PhaseGoes", spec := "phaseGoes", apart := false }
def PhaseGoesSaid : Prop := phaseGoesRow.holds Try.pinned (OpenSpec.ofChange phaseGoesSpec)

/-- ITS FALSE NEIGHBOUR: 'it returns false'. Refute it at one input. -/
def phaseGoesWrong : ChangeSpec := { name := "phaseGoes", fn := fun _ => fun
  | [d1, d2, d3] => { results := [.lit (.bool false)], args := [d1, d2, d3] }
  | _ => none }
def PhaseGoesWrongFalsely : Prop := phaseGoesRow.holds Try.pinned (OpenSpec.ofChange phaseGoesWrong)

/-- 'becketlaw20.PhaseStops': WHATEVER THE INPUT: true; the input reads as it did. -/
def phaseStopsSpec : ChangeSpec := { name := "phaseStops", fn := fun _ => fun
  | [d1, d2] => { results := [.lit (.bool true)], args := [d1, d2] }
  | _ => none }
def phaseStopsRow : OpenClaim := { program := "yteckflbnfpmnkaa", sum := "f333abe417b2c70b0922020362f46e06c4543ca8df06bcf61ca5519569694f17", func := "becket/becketlaw20.PhaseStops", spec := "phaseStops", apart := false }
def PhaseStopsSaid : Prop := phaseStopsRow.holds Try.pinned (OpenSpec.ofChange phaseStopsSpec)

/-- ITS FALSE NEIGHBOUR: 'it returns false'. Refute it at one input. -/
def phaseStopsWrong : ChangeSpec := { name := "phaseStops", fn := fun _ => fun
  | [d1, d2] => { results := [.lit (.bool false)], args := [d1, d2] }
  | _ => none }
def PhaseStopsWrongFalsely : Prop := phaseStopsRow.holds Try.pinned (OpenSpec.ofChange phaseStopsWrong)

/- THE SECOND FORM. 'bulk': how many values and letters a reading holds, each counted each time it is reached (what is shared counts as often as it is met; a slice's spare places count too). A statement '..UptoSaid' is the law's where the arguments, and the package variables that the reading takes, are together of bulk at most 1048576: NARROWER than '..Said'. Prove '..Said' where nothing that the law and all that it calls make is longer than what came in: it says more and counts as full. Else prove '..UptoSaid'. A law counts once. -/
mutual
def uptoBulk {H : Type} : DataW H → Nat
  | .lit (.string bytes) => bytes.length + 1
  | .lit _ => 1
  | .nil => 1
  | .ptr d => uptoBulk d + 1
  | .slice elems spare => uptoBulkAll elems + uptoBulkAll spare + 1
  | .agg parts => uptoBulkAll parts + 1
  | .iface _ d => uptoBulk d + 1
  | .map entries => uptoBulkEntries entries + 1
  | .held _ => 1
def uptoBulkAll {H : Type} : List (DataW H) → Nat
  | [] => 0
  | d :: r => uptoBulk d + uptoBulkAll r
def uptoBulkEntries {H : Type} : List (Lit × DataW H) → Nat
  | [] => 0
  | x :: r => uptoBulkEntry x + uptoBulkEntries r
def uptoBulkEntry {H : Type} : Lit × DataW H → Nat
  | (.string bytes, d) => bytes.length + uptoBulk d + 1
  | (_, d) => uptoBulk d + 1
 end
def uptoSmall : (H : Type) → List (DataW H) → Bool := fun _ ds => decide (uptoBulkAll ds ≤ 1048576)
def OpenSpec.upto (s : _root_.Go.ChangeSpec) : _root_.Go.OpenSpec := { _root_.Go.OpenSpec.ofChange s with cond := some uptoSmall }

/-- 'becketlaw20.PhaseTells', WHERE WHAT IT READS IS OF BULK AT MOST 1048576: true; the input reads as it did. -/
def phaseTellsUptoRow : OpenClaim := { program := "yteckflbnfpmnkaa", sum := "f333abe417b2c70b0922020362f46e06c4543ca8df06bcf61ca5519569694f17", func := "becket/becketlaw20.PhaseTells", spec := "phaseTells", apart := false, narrowed := true }
def PhaseTellsUptoSaid : Prop := phaseTellsUptoRow.holds Try.pinned (OpenSpec.upto phaseTellsSpec)

/-- 'becketlaw20.PhaseGoes', WHERE WHAT IT READS IS OF BULK AT MOST 1048576: true; the input reads as it did. -/
def phaseGoesUptoRow : OpenClaim := { program := "yteckflbnfpmnkaa", sum := "f333abe417b2c70b0922020362f46e06c4543ca8df06bcf61ca5519569694f17", func := "becket/becketlaw20.PhaseGoes", spec := "phaseGoes", apart := false, narrowed := true }
def PhaseGoesUptoSaid : Prop := phaseGoesUptoRow.holds Try.pinned (OpenSpec.upto phaseGoesSpec)

/-- 'becketlaw20.PhaseStops', WHERE WHAT IT READS IS OF BULK AT MOST 1048576: true; the input reads as it did. -/
def phaseStopsUptoRow : OpenClaim := { program := "yteckflbnfpmnkaa", sum := "f333abe417b2c70b0922020362f46e06c4543ca8df06bcf61ca5519569694f17", func := "becket/becketlaw20.PhaseStops", spec := "phaseStops", apart := false, narrowed := true }
def PhaseStopsUptoSaid : Prop := phaseStopsUptoRow.holds Try.pinned (OpenSpec.upto phaseStopsSpec)

end Rows
end Go.Proofs.Yteckflbnfpmnkaa
