/-
  No cell of these rows narrows 'for every input' (looked for: loops, veiled, ifaces, maps, wideKeys, modest, calm, conditions, laid).
  DERIVED. THE GIVEN ROWS OF THIS SEAT. 3 by the template 'for every input the law returns true; each argument reads behind the call as it read before'; 0 by the template 'total and deterministic' (their statements: YtflpjpdgacjlcaaTotals.lean).
  GIVEN WITH THE SEED: the statements are not yours to turn. If you find one false, say at which input.
  Laid BY PROGRAM, IN A SANDBOX (cutbox-rows.mjs): the forced cells as the released guide's own fill.sh prints them over the translation 2278de489af2f4a6… (all of the seat's roots in one cut). By AI agents, Wed Nov 11 2026. No macro, syntax, notation, axiom, sorry.
-/
import Derived.Test.YtflpjpdgacjlcaaChecked
import GoSem.Claim
import GoSem.ClaimJoined
import GoSem.ClaimMapViews
import Derived.JoinedTies
import Derived.KernelRfl
namespace Go.Proofs.Ytflpjpdgacjlcaa
/- THE CELL 'sum', in the pinned program and in every row, IS THE sha256 OF THE DUMP (.gsa) THAT YtflpjpdgacjlcaaProg.lean LOADS. Nothing in Lean hashes anything: it is a label: what it is worth is what the hold of that sum in a sandbox is worth. -/
noncomputable def Try.pinned : Pinned := { name := "ytflpjpdgacjlcaa", sum := "2278de489af2f4a6c2f07a62b69f9636a2343bd9392f83b6a5b0dfbd59b57e6e", checked := Try.checked }
namespace Rows
def none {H : Type} : Left H := { results := [], args := [] }

/-- 'becketlaw31.ProcTells': WHATEVER THE INPUT: true; the input reads as it did. -/
def procTellsSpec : ChangeSpec := { name := "procTells", fn := fun _ => fun
  | [d1, d2, d3] => { results := [.lit (.bool true)], args := [d1, d2, d3] }
  | _ => none }
def procTellsRow : OpenClaim := { program := "ytflpjpdgacjlcaa", sum := "2278de489af2f4a6c2f07a62b69f9636a2343bd9392f83b6a5b0dfbd59b57e6e", func := "becket/becketlaw31.ProcTells", spec := "procTells", unfollowed := true, recurses := true, apart := false }
def ProcTellsSaid : Prop := procTellsRow.holds Try.pinned (OpenSpec.ofChange procTellsSpec)

/-- ITS FALSE NEIGHBOUR: 'it returns false'. Refute it at one input. -/
def procTellsWrong : ChangeSpec := { name := "procTells", fn := fun _ => fun
  | [d1, d2, d3] => { results := [.lit (.bool false)], args := [d1, d2, d3] }
  | _ => none }
def ProcTellsWrongFalsely : Prop := procTellsRow.holds Try.pinned (OpenSpec.ofChange procTellsWrong)

/-- 'becketlaw31.ProcActs': WHATEVER THE INPUT: true; the input reads as it did. -/
def procActsSpec : ChangeSpec := { name := "procActs", fn := fun _ => fun
  | [d1, d2] => { results := [.lit (.bool true)], args := [d1, d2] }
  | _ => none }
def procActsRow : OpenClaim := { program := "ytflpjpdgacjlcaa", sum := "2278de489af2f4a6c2f07a62b69f9636a2343bd9392f83b6a5b0dfbd59b57e6e", func := "becket/becketlaw31.ProcActs", spec := "procActs", unfollowed := true, recurses := true, apart := false }
def ProcActsSaid : Prop := procActsRow.holds Try.pinned (OpenSpec.ofChange procActsSpec)

/-- ITS FALSE NEIGHBOUR: 'it returns false'. Refute it at one input. -/
def procActsWrong : ChangeSpec := { name := "procActs", fn := fun _ => fun
  | [d1, d2] => { results := [.lit (.bool false)], args := [d1, d2] }
  | _ => none }
def ProcActsWrongFalsely : Prop := procActsRow.holds Try.pinned (OpenSpec.ofChange procActsWrong)

/-- 'becketlaw31.ProcOnce': WHATEVER THE INPUT: true; the input reads as it did. -/
def procOnceSpec : ChangeSpec := { name := "procOnce", fn := fun _ => fun
  | [d] => { results := [.lit (.bool true)], args := [d] }
  | _ => none }
def procOnceRow : OpenClaim := { program := "ytflpjpdgacjlcaa", sum := "2278de489af2f4a6c2f07a62b69f9636a2343bd9392f83b6a5b0dfbd59b57e6e", func := "becket/becketlaw31.ProcOnce", spec := "procOnce", unfollowed := true, recurses := true, apart := false }
def ProcOnceSaid : Prop := procOnceRow.holds Try.pinned (OpenSpec.ofChange procOnceSpec)

/-- ITS FALSE NEIGHBOUR: 'it returns false'. Refute it at one input. -/
def procOnceWrong : ChangeSpec := { name := "procOnce", fn := fun _ => fun
  | [d] => { results := [.lit (.bool false)], args := [d] }
  | _ => none }
def ProcOnceWrongFalsely : Prop := procOnceRow.holds Try.pinned (OpenSpec.ofChange procOnceWrong)

/- THE SECOND FORM. 'bulk': how many values and letters a reading holds, each counted each time it is reached (what is shared counts as often as it is met; a slice's spare places count too). A statement '..UptoSaid' is the law's where the arguments, and the package variables that the reading takes, are together of bulk at most 1048576: NARROWER than '..Said'. Prove '..Said' where nothing that the law and all that it calls make is longer than what came in: it says more and counts as full. Else prove '..UptoSaid'. A law counts once. -/
mutual
def uptoBulk {H : Type} : DataW H → Nat
  | .lit (.string bytes) => bytes.length + 1
  | .lit _ => 1
  | .nil => 1
  | .ptr d => uptoBulk d + 1
  | .slice elems spare => uptoBulkAll elems + uptoBulkAll spare + 1
  | .agg parts => uptoBulkAll parts + 1
  | .iface _ d => uptoBulk d + 1
  | .map entries => uptoBulkEntries entries + 1
  | .held _ => 1
def uptoBulkAll {H : Type} : List (DataW H) → Nat
  | [] => 0
  | d :: r => uptoBulk d + uptoBulkAll r
def uptoBulkEntries {H : Type} : List (Lit × DataW H) → Nat
  | [] => 0
  | x :: r => uptoBulkEntry x + uptoBulkEntries r
def uptoBulkEntry {H : Type} : Lit × DataW H → Nat
  | (.string bytes, d) => bytes.length + uptoBulk d + 1
  | (_, d) => uptoBulk d + 1
 end
def uptoSmall : (H : Type) → List (DataW H) → Bool := fun _ ds => decide (uptoBulkAll ds ≤ 1048576)
def OpenSpec.upto (s : _root_.Go.ChangeSpec) : _root_.Go.OpenSpec := { _root_.Go.OpenSpec.ofChange s with cond := some uptoSmall }

/-- 'becketlaw31.ProcTells', WHERE WHAT IT READS IS OF BULK AT MOST 1048576: true; the input reads as it did. -/
def procTellsUptoRow : OpenClaim := { program := "ytflpjpdgacjlcaa", sum := "2278de489af2f4a6c2f07a62b69f9636a2343bd9392f83b6a5b0dfbd59b57e6e", func := "becket/becketlaw31.ProcTells", spec := "procTells", unfollowed := true, recurses := true, apart := false, narrowed := true }
def ProcTellsUptoSaid : Prop := procTellsUptoRow.holds Try.pinned (OpenSpec.upto procTellsSpec)

/-- 'becketlaw31.ProcActs', WHERE WHAT IT READS IS OF BULK AT MOST 1048576: true; the input reads as it did. -/
def procActsUptoRow : OpenClaim := { program := "ytflpjpdgacjlcaa", sum := "2278de489af2f4a6c2f07a62b69f9636a2343bd9392f83b6a5b0dfbd59b57e6e", func := "becket/becketlaw31.ProcActs", spec := "procActs", unfollowed := true, recurses := true, apart := false, narrowed := true }
def ProcActsUptoSaid : Prop := procActsUptoRow.holds Try.pinned (OpenSpec.upto procActsSpec)

/-- 'becketlaw31.ProcOnce', WHERE WHAT IT READS IS OF BULK AT MOST 1048576: true; the input reads as it did. -/
def procOnceUptoRow : OpenClaim := { program := "ytflpjpdgacjlcaa", sum := "2278de489af2f4a6c2f07a62b69f9636a2343bd9392f83b6a5b0dfbd59b57e6e", func := "becket/becketlaw31.ProcOnce", spec := "procOnce", unfollowed := true, recurses := true, apart := false, narrowed := true }
def ProcOnceUptoSaid : Prop := procOnceUptoRow.holds Try.pinned (OpenSpec.upto procOnceSpec)

end Rows
end Go.Proofs.Ytflpjpdgacjlcaa
