/-
  No cell of these rows narrows 'for every input' (looked for: loops, veiled, ifaces, maps, wideKeys, modest, calm, conditions, laid).
  DERIVED. THE GIVEN ROWS OF THIS SEAT. 3 by the template 'for every input the law returns true; each argument reads behind the call as it read before'; 0 by the template 'total and deterministic' (their statements: YtdikdbomecmijaaTotals.lean).
  GIVEN WITH THE SEED: the statements are not yours to turn. If you find one false, say at which input.
  Laid BY PROGRAM, IN A SANDBOX (cutbox-rows.mjs): the forced cells as the released guide's own fill.sh prints them over the translation 133b484313ddafbf… (all of the seat's roots in one cut). By AI agents, Wed Nov 11 2026. No macro, syntax, notation, axiom, sorry.
-/
import Derived.Test.YtdikdbomecmijaaChecked
import GoSem.Claim
import GoSem.ClaimJoined
import GoSem.ClaimMapViews
import Derived.JoinedTies
import Derived.KernelRfl
namespace Go.Proofs.Ytdikdbomecmijaa
/- THE CELL 'sum', in the pinned program and in every row, IS THE sha256 OF THE DUMP (.gsa) THAT YtdikdbomecmijaaProg.lean LOADS. Nothing in Lean hashes anything: it is a label: what it is worth is what the hold of that sum in a sandbox is worth. -/
noncomputable def Try.pinned : Pinned := { name := "ytdikdbomecmijaa", sum := "133b484313ddafbfdb7015d8060a45d520b8b62825c5844f555e89f730e8f09e", checked := Try.checked }
namespace Rows
def none {H : Type} : Left H := { results := [], args := [] }

/-- 'becketlaw16.PoisonTells': WHATEVER THE INPUT: true; the input reads as it did. -/
def poisonTellsSpec : ChangeSpec := { name := "poisonTells", fn := fun _ => fun
  | [d1, d2] => { results := [.lit (.bool true)], args := [d1, d2] }
  | _ => none }
def poisonTellsRow : OpenClaim := { program := "ytdikdbomecmijaa", sum := "133b484313ddafbfdb7015d8060a45d520b8b62825c5844f555e89f730e8f09e", func := "becket/becketlaw16.PoisonTells", spec := "poisonTells", apart := false }
def PoisonTellsSaid : Prop := poisonTellsRow.holds Try.pinned (OpenSpec.ofChange poisonTellsSpec)

/-- ITS FALSE NEIGHBOUR: 'it returns false'. Refute it at one input. -/
def poisonTellsWrong : ChangeSpec := { name := "poisonTells", fn := fun _ => fun
  | [d1, d2] => { results := [.lit (.bool false)], args := [d1, d2] }
  | _ => none }
def PoisonTellsWrongFalsely : Prop := poisonTellsRow.holds Try.pinned (OpenSpec.ofChange poisonTellsWrong)

/-- 'becketlaw16.PoisonMany': WHATEVER THE INPUT: true; the input reads as it did. -/
def poisonManySpec : ChangeSpec := { name := "poisonMany", fn := fun _ => fun
  | [d1, d2] => { results := [.lit (.bool true)], args := [d1, d2] }
  | _ => none }
def poisonManyRow : OpenClaim := { program := "ytdikdbomecmijaa", sum := "133b484313ddafbfdb7015d8060a45d520b8b62825c5844f555e89f730e8f09e", func := "becket/becketlaw16.PoisonMany", spec := "poisonMany", apart := false }
def PoisonManySaid : Prop := poisonManyRow.holds Try.pinned (OpenSpec.ofChange poisonManySpec)

/-- ITS FALSE NEIGHBOUR: 'it returns false'. Refute it at one input. -/
def poisonManyWrong : ChangeSpec := { name := "poisonMany", fn := fun _ => fun
  | [d1, d2] => { results := [.lit (.bool false)], args := [d1, d2] }
  | _ => none }
def PoisonManyWrongFalsely : Prop := poisonManyRow.holds Try.pinned (OpenSpec.ofChange poisonManyWrong)

/-- 'becketlaw16.PoisonOrder': WHATEVER THE INPUT: true; the input reads as it did. -/
def poisonOrderSpec : ChangeSpec := { name := "poisonOrder", fn := fun _ => fun
  | [d1, d2] => { results := [.lit (.bool true)], args := [d1, d2] }
  | _ => none }
def poisonOrderRow : OpenClaim := { program := "ytdikdbomecmijaa", sum := "133b484313ddafbfdb7015d8060a45d520b8b62825c5844f555e89f730e8f09e", func := "becket/becketlaw16.PoisonOrder", spec := "poisonOrder", apart := false }
def PoisonOrderSaid : Prop := poisonOrderRow.holds Try.pinned (OpenSpec.ofChange poisonOrderSpec)

/-- ITS FALSE NEIGHBOUR: 'it returns false'. Refute it at one input. -/
def poisonOrderWrong : ChangeSpec := { name := "poisonOrder", fn := fun _ => fun
  | [d1, d2] => { results := [.lit (.bool false)], args := [d1, d2] }
  | _ => none }
def PoisonOrderWrongFalsely : Prop := poisonOrderRow.holds Try.pinned (OpenSpec.ofChange poisonOrderWrong)

/- THE SECOND FORM. 'bulk': how many values and letters a reading holds, each counted each time it is reached (what is shared counts as often as it is met; a slice's spare places count too). A statement '..UptoSaid' is the law's where the arguments, and the package variables that the reading takes, are together of bulk at most 1048576: NARROWER than '..Said'. Prove '..Said' where nothing that the law and all that it calls make is longer than what came in: it says more and counts as full. Else prove '..UptoSaid'. A law counts once. -/
mutual
def uptoBulk {H : Type} : DataW H → Nat
  | .lit (.string bytes) => bytes.length + 1
  | .lit _ => 1
  | .nil => 1
  | .ptr d => uptoBulk d + 1
  | .slice elems spare => uptoBulkAll elems + uptoBulkAll spare + 1
  | .agg parts => uptoBulkAll parts + 1
  | .iface _ d => uptoBulk d + 1
  | .map entries => uptoBulkEntries entries + 1
  | .held _ => 1
def uptoBulkAll {H : Type} : List (DataW H) → Nat
  | [] => 0
  | d :: r => uptoBulk d + uptoBulkAll r
def uptoBulkEntries {H : Type} : List (Lit × DataW H) → Nat
  | [] => 0
  | x :: r => uptoBulkEntry x + uptoBulkEntries r
def uptoBulkEntry {H : Type} : Lit × DataW H → Nat
  | (.string bytes, d) => bytes.length + uptoBulk d + 1
  | (_, d) => uptoBulk d + 1
 end
def uptoSmall : (H : Type) → List (DataW H) → Bool := fun _ ds => decide (uptoBulkAll ds ≤ 1048576)
def OpenSpec.upto (s : _root_.Go.ChangeSpec) : _root_.Go.OpenSpec := { _root_.Go.OpenSpec.ofChange s with cond := some uptoSmall }

/-- 'becketlaw16.PoisonTells', WHERE WHAT IT READS IS OF BULK AT MOST 1048576: true; the input reads as it did. -/
def poisonTellsUptoRow : OpenClaim := { program := "ytdikdbomecmijaa", sum := "133b484313ddafbfdb7015d8060a45d520b8b62825c5844f555e89f730e8f09e", func := "becket/becketlaw16.PoisonTells", spec := "poisonTells", apart := false, narrowed := true }
def PoisonTellsUptoSaid : Prop := poisonTellsUptoRow.holds Try.pinned (OpenSpec.upto poisonTellsSpec)

/-- 'becketlaw16.PoisonMany', WHERE WHAT IT READS IS OF BULK AT MOST 1048576: true; the input reads as it did. -/
def poisonManyUptoRow : OpenClaim := { program := "ytdikdbomecmijaa", sum := "133b484313ddafbfdb7015d8060a45d520b8b62825c5844f555e89f730e8f09e", func := "becket/becketlaw16.PoisonMany", spec := "poisonMany", apart := false, narrowed := true }
def PoisonManyUptoSaid : Prop := poisonManyUptoRow.holds Try.pinned (OpenSpec.upto poisonManySpec)

/-- 'becketlaw16.PoisonOrder', WHERE WHAT IT READS IS OF BULK AT MOST 1048576: true; the input reads as it did. -/
def poisonOrderUptoRow : OpenClaim := { program := "ytdikdbomecmijaa", sum := "133b484313ddafbfdb7015d8060a45d520b8b62825c5844f555e89f730e8f09e", func := "becket/becketlaw16.PoisonOrder", spec := "poisonOrder", apart := false, narrowed := true }
def PoisonOrderUptoSaid : Prop := poisonOrderUptoRow.holds Try.pinned (OpenSpec.upto poisonOrderSpec)

end Rows
end Go.Proofs.Ytdikdbomecmijaa
