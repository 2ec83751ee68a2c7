/- The walk of ArenaOnce, as the row gives its arguments. -/
import Derived.Test.YtdlbcacdbcnbhaaAz
import Derived.Test.YtdlbcacdbcnbhaaAj
namespace Go.Proofs.Ytdlbcacdbcnbhaa
open Go.RowKit
theorem z_once (r l : Int) (hr : 0 ≤ r ∧ r ≤ 255) (hl' : 0 ≤ l ∧ l ≤ 255) (A : Option Addr) (n cp : Nat) (LL : List (List Int)) (hl : LL.length = n) (hok : ∀ r ∈ LL, RowOk [.u8, .i64, .i64] r) (w : World) (hR : RD w (fun _ => True) [IntKind.u8, .i64, .i64].length A n (LL.flatMap (rowV [.u8, .i64, .i64]))) :
    Calls Try.prog 4 #[.int .u8 r, .int .u8 l, .slice A n cp] w fun e w' => e = .returned (.bool true) ∧ Below w.heap.size w w' :=
  l_once r l hr.1 hr.2 hl'.1 hl'.2 A n cp (LL.map stepOf) w (by rw [← steps_of LL hok]; exact hR) (by simpa using hl) (steps_ok LL hok)
end Go.Proofs.Ytdlbcacdbcnbhaa
