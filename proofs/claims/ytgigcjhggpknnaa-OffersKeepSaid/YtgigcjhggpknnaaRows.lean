/-
  No cell of these rows narrows 'for every input' (looked for: loops, veiled, ifaces, maps, wideKeys, modest, calm, conditions, laid).
  DERIVED. THE GIVEN ROWS OF THIS SEAT. 3 by the template 'for every input the law returns true; each argument reads behind the call as it read before'; 0 by the template 'total and deterministic' (their statements: YtgigcjhggpknnaaTotals.lean).
  GIVEN WITH THE SEED: the statements are not yours to turn. If you find one false, say at which input.
  Laid BY PROGRAM, IN A SANDBOX (cutbox-rows.mjs): the forced cells as the released guide's own fill.sh prints them over the translation 59f57c0246225c2d… (all of the seat's roots in one cut). By AI agents, Wed Nov 11 2026. No macro, syntax, notation, axiom, sorry.
-/
import Derived.Test.YtgigcjhggpknnaaChecked
import GoSem.Claim
import GoSem.ClaimJoined
import GoSem.ClaimMapViews
import Derived.JoinedTies
import Derived.KernelRfl
namespace Go.Proofs.Ytgigcjhggpknnaa
/- THE CELL 'sum', in the pinned program and in every row, IS THE sha256 OF THE DUMP (.gsa) THAT YtgigcjhggpknnaaProg.lean LOADS. Nothing in Lean hashes anything: it is a label: what it is worth is what the hold of that sum in a sandbox is worth. -/
noncomputable def Try.pinned : Pinned := { name := "ytgigcjhggpknnaa", sum := "59f57c0246225c2d7f3ab424221fb06271d7ffb70f733498334e5eb4463ca28c", checked := Try.checked }
namespace Rows
def none {H : Type} : Left H := { results := [], args := [] }

/-- 'becketlaw26.OffersPlay': WHATEVER THE INPUT: true; the input reads as it did. -/
def offersPlaySpec : ChangeSpec := { name := "offersPlay", fn := fun _ => fun
  | [d1, d2] => { results := [.lit (.bool true)], args := [d1, d2] }
  | _ => none }
def offersPlayRow : OpenClaim := { program := "ytgigcjhggpknnaa", sum := "59f57c0246225c2d7f3ab424221fb06271d7ffb70f733498334e5eb4463ca28c", func := "becket/becketlaw26.OffersPlay", spec := "offersPlay", apart := false }
def OffersPlaySaid : Prop := offersPlayRow.holds Try.pinned (OpenSpec.ofChange offersPlaySpec)

/-- ITS FALSE NEIGHBOUR: 'it returns false'. Refute it at one input. -/
def offersPlayWrong : ChangeSpec := { name := "offersPlay", fn := fun _ => fun
  | [d1, d2] => { results := [.lit (.bool false)], args := [d1, d2] }
  | _ => none }
def OffersPlayWrongFalsely : Prop := offersPlayRow.holds Try.pinned (OpenSpec.ofChange offersPlayWrong)

/-- 'becketlaw26.OffersKeep': WHATEVER THE INPUT: true; the input reads as it did. -/
def offersKeepSpec : ChangeSpec := { name := "offersKeep", fn := fun _ => fun
  | [d] => { results := [.lit (.bool true)], args := [d] }
  | _ => none }
def offersKeepRow : OpenClaim := { program := "ytgigcjhggpknnaa", sum := "59f57c0246225c2d7f3ab424221fb06271d7ffb70f733498334e5eb4463ca28c", func := "becket/becketlaw26.OffersKeep", spec := "offersKeep", apart := false }
def OffersKeepSaid : Prop := offersKeepRow.holds Try.pinned (OpenSpec.ofChange offersKeepSpec)

/-- ITS FALSE NEIGHBOUR: 'it returns false'. Refute it at one input. -/
def offersKeepWrong : ChangeSpec := { name := "offersKeep", fn := fun _ => fun
  | [d] => { results := [.lit (.bool false)], args := [d] }
  | _ => none }
def OffersKeepWrongFalsely : Prop := offersKeepRow.holds Try.pinned (OpenSpec.ofChange offersKeepWrong)

/-- 'becketlaw26.OffersNobody': WHATEVER THE INPUT: true; the input reads as it did. -/
def offersNobodySpec : ChangeSpec := { name := "offersNobody", fn := fun _ => fun
  | [d1, d2] => { results := [.lit (.bool true)], args := [d1, d2] }
  | _ => none }
def offersNobodyRow : OpenClaim := { program := "ytgigcjhggpknnaa", sum := "59f57c0246225c2d7f3ab424221fb06271d7ffb70f733498334e5eb4463ca28c", func := "becket/becketlaw26.OffersNobody", spec := "offersNobody", apart := false }
def OffersNobodySaid : Prop := offersNobodyRow.holds Try.pinned (OpenSpec.ofChange offersNobodySpec)

/-- ITS FALSE NEIGHBOUR: 'it returns false'. Refute it at one input. -/
def offersNobodyWrong : ChangeSpec := { name := "offersNobody", fn := fun _ => fun
  | [d1, d2] => { results := [.lit (.bool false)], args := [d1, d2] }
  | _ => none }
def OffersNobodyWrongFalsely : Prop := offersNobodyRow.holds Try.pinned (OpenSpec.ofChange offersNobodyWrong)

/- THE SECOND FORM. 'bulk': how many values and letters a reading holds, each counted each time it is reached (what is shared counts as often as it is met; a slice's spare places count too). A statement '..UptoSaid' is the law's where the arguments, and the package variables that the reading takes, are together of bulk at most 1048576: NARROWER than '..Said'. Prove '..Said' where nothing that the law and all that it calls make is longer than what came in: it says more and counts as full. Else prove '..UptoSaid'. A law counts once. -/
mutual
def uptoBulk {H : Type} : DataW H → Nat
  | .lit (.string bytes) => bytes.length + 1
  | .lit _ => 1
  | .nil => 1
  | .ptr d => uptoBulk d + 1
  | .slice elems spare => uptoBulkAll elems + uptoBulkAll spare + 1
  | .agg parts => uptoBulkAll parts + 1
  | .iface _ d => uptoBulk d + 1
  | .map entries => uptoBulkEntries entries + 1
  | .held _ => 1
def uptoBulkAll {H : Type} : List (DataW H) → Nat
  | [] => 0
  | d :: r => uptoBulk d + uptoBulkAll r
def uptoBulkEntries {H : Type} : List (Lit × DataW H) → Nat
  | [] => 0
  | x :: r => uptoBulkEntry x + uptoBulkEntries r
def uptoBulkEntry {H : Type} : Lit × DataW H → Nat
  | (.string bytes, d) => bytes.length + uptoBulk d + 1
  | (_, d) => uptoBulk d + 1
 end
def uptoSmall : (H : Type) → List (DataW H) → Bool := fun _ ds => decide (uptoBulkAll ds ≤ 1048576)
def OpenSpec.upto (s : _root_.Go.ChangeSpec) : _root_.Go.OpenSpec := { _root_.Go.OpenSpec.ofChange s with cond := some uptoSmall }

/-- 'becketlaw26.OffersPlay', WHERE WHAT IT READS IS OF BULK AT MOST 1048576: true; the input reads as it did. -/
def offersPlayUptoRow : OpenClaim := { program := "ytgigcjhggpknnaa", sum := "59f57c0246225c2d7f3ab424221fb06271d7ffb70f733498334e5eb4463ca28c", func := "becket/becketlaw26.OffersPlay", spec := "offersPlay", apart := false, narrowed := true }
def OffersPlayUptoSaid : Prop := offersPlayUptoRow.holds Try.pinned (OpenSpec.upto offersPlaySpec)

/-- 'becketlaw26.OffersKeep', WHERE WHAT IT READS IS OF BULK AT MOST 1048576: true; the input reads as it did. -/
def offersKeepUptoRow : OpenClaim := { program := "ytgigcjhggpknnaa", sum := "59f57c0246225c2d7f3ab424221fb06271d7ffb70f733498334e5eb4463ca28c", func := "becket/becketlaw26.OffersKeep", spec := "offersKeep", apart := false, narrowed := true }
def OffersKeepUptoSaid : Prop := offersKeepUptoRow.holds Try.pinned (OpenSpec.upto offersKeepSpec)

/-- 'becketlaw26.OffersNobody', WHERE WHAT IT READS IS OF BULK AT MOST 1048576: true; the input reads as it did. -/
def offersNobodyUptoRow : OpenClaim := { program := "ytgigcjhggpknnaa", sum := "59f57c0246225c2d7f3ab424221fb06271d7ffb70f733498334e5eb4463ca28c", func := "becket/becketlaw26.OffersNobody", spec := "offersNobody", apart := false, narrowed := true }
def OffersNobodyUptoSaid : Prop := offersNobodyUptoRow.holds Try.pinned (OpenSpec.upto offersNobodySpec)

end Rows
end Go.Proofs.Ytgigcjhggpknnaa
