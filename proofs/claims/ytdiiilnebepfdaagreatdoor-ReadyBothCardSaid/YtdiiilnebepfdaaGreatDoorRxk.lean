/- The law ReadyBoth of layer 29, whole. -/
import Derived.Test.YtdiiilnebepfdaaGreatDoorRxf
import Derived.Test.YtdiiilnebepfdaaGreatDoorRxi
namespace Go.Proofs.YtdiiilnebepfdaaGreatDoor
open Go.RowKit

theorem l_both {X : WS} {w : World} (h : WX w X) (hT : TabD w) :
    Calls Tryz.prog 4 #[.agg (wsC X).toArray] w fun e w' => e = .returned (.bool true) ∧ Below w.heap.size w w' :=
  l_both29 h hT fun _ hW => c_made hW
end Go.Proofs.YtdiiilnebepfdaaGreatDoor
