/-
  No cell of these rows narrows 'for every input' (looked for: loops, veiled, ifaces, maps, wideKeys, modest, calm, conditions, laid).
  DERIVED. THE GIVEN ROWS OF THIS SEAT. 3 by the template 'for every input the law returns true; each argument reads behind the call as it read before'; 0 by the template 'total and deterministic' (their statements: YtnmjjemkaamcfaaTotals.lean).
  GIVEN WITH THE SEED: the statements are not yours to turn. If you find one false, say at which input.
  Laid BY PROGRAM, IN A SANDBOX (cutbox-rows.mjs): the forced cells as the released guide's own fill.sh prints them over the translation b47e2f2a9a767de4… (all of the seat's roots in one cut). By AI agents, Wed Nov 11 2026. No macro, syntax, notation, axiom, sorry.
-/
import Derived.Test.YtnmjjemkaamcfaaChecked
import GoSem.Claim
import GoSem.ClaimJoined
import GoSem.ClaimMapViews
import Derived.JoinedTies
import Derived.KernelRfl
namespace Go.Proofs.Ytnmjjemkaamcfaa
/- THE CELL 'sum', in the pinned program and in every row, IS THE sha256 OF THE DUMP (.gsa) THAT YtnmjjemkaamcfaaProg.lean LOADS. Nothing in Lean hashes anything: it is a label: what it is worth is what the hold of that sum in a sandbox is worth. -/
noncomputable def Try.pinned : Pinned := { name := "ytnmjjemkaamcfaa", sum := "b47e2f2a9a767de4b7113efb885164229028c3813a3e33bdb5de183d89c12306", checked := Try.checked }
namespace Rows
def none {H : Type} : Left H := { results := [], args := [] }

/-- 'becketlaw19.ChantabActs': WHATEVER THE INPUT: true; the input reads as it did. -/
def chantabActsSpec : ChangeSpec := { name := "chantabActs", fn := fun _ => fun
  | [d1, d2] => { results := [.lit (.bool true)], args := [d1, d2] }
  | _ => none }
def chantabActsRow : OpenClaim := { program := "ytnmjjemkaamcfaa", sum := "b47e2f2a9a767de4b7113efb885164229028c3813a3e33bdb5de183d89c12306", func := "becket/becketlaw19.ChantabActs", spec := "chantabActs", apart := false }
def ChantabActsSaid : Prop := chantabActsRow.holds Try.pinned (OpenSpec.ofChange chantabActsSpec)

/-- ITS FALSE NEIGHBOUR: 'it returns false'. Refute it at one input. -/
def chantabActsWrong : ChangeSpec := { name := "chantabActs", fn := fun _ => fun
  | [d1, d2] => { results := [.lit (.bool false)], args := [d1, d2] }
  | _ => none }
def ChantabActsWrongFalsely : Prop := chantabActsRow.holds Try.pinned (OpenSpec.ofChange chantabActsWrong)

/-- 'becketlaw19.ChantabTells': WHATEVER THE INPUT: true; the input reads as it did. -/
def chantabTellsSpec : ChangeSpec := { name := "chantabTells", fn := fun _ => fun
  | [d1, d2, d3] => { results := [.lit (.bool true)], args := [d1, d2, d3] }
  | _ => none }
def chantabTellsRow : OpenClaim := { program := "ytnmjjemkaamcfaa", sum := "b47e2f2a9a767de4b7113efb885164229028c3813a3e33bdb5de183d89c12306", func := "becket/becketlaw19.ChantabTells", spec := "chantabTells", apart := false }
def ChantabTellsSaid : Prop := chantabTellsRow.holds Try.pinned (OpenSpec.ofChange chantabTellsSpec)

/-- ITS FALSE NEIGHBOUR: 'it returns false'. Refute it at one input. -/
def chantabTellsWrong : ChangeSpec := { name := "chantabTells", fn := fun _ => fun
  | [d1, d2, d3] => { results := [.lit (.bool false)], args := [d1, d2, d3] }
  | _ => none }
def ChantabTellsWrongFalsely : Prop := chantabTellsRow.holds Try.pinned (OpenSpec.ofChange chantabTellsWrong)

/-- 'becketlaw19.ChantabOne': WHATEVER THE INPUT: true; the input reads as it did. -/
def chantabOneSpec : ChangeSpec := { name := "chantabOne", fn := fun _ => fun
  | [d1, d2, d3] => { results := [.lit (.bool true)], args := [d1, d2, d3] }
  | _ => none }
def chantabOneRow : OpenClaim := { program := "ytnmjjemkaamcfaa", sum := "b47e2f2a9a767de4b7113efb885164229028c3813a3e33bdb5de183d89c12306", func := "becket/becketlaw19.ChantabOne", spec := "chantabOne", apart := false }
def ChantabOneSaid : Prop := chantabOneRow.holds Try.pinned (OpenSpec.ofChange chantabOneSpec)

/-- ITS FALSE NEIGHBOUR: 'it returns false'. Refute it at one input. -/
def chantabOneWrong : ChangeSpec := { name := "chantabOne", fn := fun _ => fun
  | [d1, d2, d3] => { results := [.lit (.bool false)], args := [d1, d2, d3] }
  | _ => none }
def ChantabOneWrongFalsely : Prop := chantabOneRow.holds Try.pinned (OpenSpec.ofChange chantabOneWrong)

/- THE SECOND FORM. 'bulk': how many values and letters a reading holds, each counted each time it is reached (what is shared counts as often as it is met; a slice's spare places count too). A statement '..UptoSaid' is the law's where the arguments, and the package variables that the reading takes, are together of bulk at most 1048576: NARROWER than '..Said'. Prove '..Said' where nothing that the law and all that it calls make is longer than what came in: it says more and counts as full. Else prove '..UptoSaid'. A law counts once. -/
mutual
def uptoBulk {H : Type} : DataW H → Nat
  | .lit (.string bytes) => bytes.length + 1
  | .lit _ => 1
  | .nil => 1
  | .ptr d => uptoBulk d + 1
  | .slice elems spare => uptoBulkAll elems + uptoBulkAll spare + 1
  | .agg parts => uptoBulkAll parts + 1
  | .iface _ d => uptoBulk d + 1
  | .map entries => uptoBulkEntries entries + 1
  | .held _ => 1
def uptoBulkAll {H : Type} : List (DataW H) → Nat
  | [] => 0
  | d :: r => uptoBulk d + uptoBulkAll r
def uptoBulkEntries {H : Type} : List (Lit × DataW H) → Nat
  | [] => 0
  | x :: r => uptoBulkEntry x + uptoBulkEntries r
def uptoBulkEntry {H : Type} : Lit × DataW H → Nat
  | (.string bytes, d) => bytes.length + uptoBulk d + 1
  | (_, d) => uptoBulk d + 1
 end
def uptoSmall : (H : Type) → List (DataW H) → Bool := fun _ ds => decide (uptoBulkAll ds ≤ 1048576)
def OpenSpec.upto (s : _root_.Go.ChangeSpec) : _root_.Go.OpenSpec := { _root_.Go.OpenSpec.ofChange s with cond := some uptoSmall }

/-- 'becketlaw19.ChantabActs', WHERE WHAT IT READS IS OF BULK AT MOST 1048576: true; the input reads as it did. -/
def chantabActsUptoRow : OpenClaim := { program := "ytnmjjemkaamcfaa", sum := "b47e2f2a9a767de4b7113efb885164229028c3813a3e33bdb5de183d89c12306", func := "becket/becketlaw19.ChantabActs", spec := "chantabActs", apart := false, narrowed := true }
def ChantabActsUptoSaid : Prop := chantabActsUptoRow.holds Try.pinned (OpenSpec.upto chantabActsSpec)

/-- 'becketlaw19.ChantabTells', WHERE WHAT IT READS IS OF BULK AT MOST 1048576: true; the input reads as it did. -/
def chantabTellsUptoRow : OpenClaim := { program := "ytnmjjemkaamcfaa", sum := "b47e2f2a9a767de4b7113efb885164229028c3813a3e33bdb5de183d89c12306", func := "becket/becketlaw19.ChantabTells", spec := "chantabTells", apart := false, narrowed := true }
def ChantabTellsUptoSaid : Prop := chantabTellsUptoRow.holds Try.pinned (OpenSpec.upto chantabTellsSpec)

/-- 'becketlaw19.ChantabOne', WHERE WHAT IT READS IS OF BULK AT MOST 1048576: true; the input reads as it did. -/
def chantabOneUptoRow : OpenClaim := { program := "ytnmjjemkaamcfaa", sum := "b47e2f2a9a767de4b7113efb885164229028c3813a3e33bdb5de183d89c12306", func := "becket/becketlaw19.ChantabOne", spec := "chantabOne", apart := false, narrowed := true }
def ChantabOneUptoSaid : Prop := chantabOneUptoRow.holds Try.pinned (OpenSpec.upto chantabOneSpec)

end Rows
end Go.Proofs.Ytnmjjemkaamcfaa
