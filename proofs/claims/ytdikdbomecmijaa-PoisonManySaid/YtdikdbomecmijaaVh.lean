/- The walk of PoisonOrder, as the row gives its arguments. -/
import Derived.Test.YtdikdbomecmijaaVg
import Derived.Test.YtdikdbomecmijaaOI
namespace Go.Proofs.Ytdikdbomecmijaa
open Go.RowKit

theorem z_order (A : Option Addr) (n c : Nat) (L : List Int) (hl : L.length = n) (hwf : ∀ z ∈ L, (Lit.int .u8 z).wf = true) (w : World) (hR : RD w (fun _ => True) 1 A n (L.map (Value.int .u8))) (d : Int) (hd : 0 ≤ d ∧ d ≤ 255) :
    Calls Try.prog 5 #[.slice A n c, .int .u8 d] w fun e w' => e = .returned (.bool true) ∧ Below w.heap.size w w' :=
  l_order A n c L hl (fun z hz => bounds_u8 (hwf z hz)) w hR d hd
end Go.Proofs.Ytdikdbomecmijaa
