/- The walk of TimersOrder, as the row gives its argument. -/
import Derived.Test.YtbfmcdjnjnfdlaaTz
import Derived.Test.YtbfmcdjnjnfdlaaOI
namespace Go.Proofs.Ytbfmcdjnjnfdlaa
open Go.RowKit

theorem z_order (A : Option Addr) (n cp : Nat) (L : List Int) (hl : L.length = n) (hwf : ∀ z ∈ L, (Lit.int .u8 z).wf = true) (w : World) (hR : RD w (fun _ => True) 1 A n (L.map (Value.int .u8))) :
    Calls Try.prog 4 #[.slice A n cp] w fun e w' => e = .returned (.bool true) ∧ Below w.heap.size w w' :=
  l_order A n cp L w hR hl fun z hz => bounds_u8 (hwf z hz)
end Go.Proofs.Ytbfmcdjnjnfdlaa
