/- The walk of BarrierEnds, as the row gives its arguments. -/
import Derived.Test.YtibhaiciameklaaDoorBrn
import Derived.Test.YtibhaiciameklaaDoorRlo
namespace Go.Proofs.YtibhaiciameklaaDoor
open Go.RowKit

theorem z_bends (x0 : Int) (bx0 : 0 ≤ x0 ∧ x0 ≤ 255) (A : Option Addr) (n cp : Nat) (LL : List (List Int)) (hl : LL.length = n) (hok : ∀ r ∈ LL, RowOk (List.replicate 2 .u8) r) (w : World) (hR : RD w (fun _ => True) (List.replicate 2 IntKind.u8).length A n (LL.flatMap (rowV (List.replicate 2 .u8)))) (hT : TabD w) :
    Calls Tryd.prog 5 #[.int .u8 x0, .slice A n cp] w fun e w' => e = .returned (.bool true) ∧ Below w.heap.size w w' :=
  l_bends x0 bx0 A n cp (LL.map prOf) w (by rw [← prs_of LL hok]; exact hR) (by simpa using hl) (prs_ok LL hok) hT
end Go.Proofs.YtibhaiciameklaaDoor
