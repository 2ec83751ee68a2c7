/- Package chantab: Offer. -/
import Derived.Test.YtdiiilnebepfdaaGreatDoorC2
namespace Go.Proofs.YtdiiilnebepfdaaGreatDoor
open Go.RowKit

/-- What Offer answers. -/
def CtOfPost (w : World) (A : Option Addr) (n c : Nat) (L : List CQ) (b : Nat) (r : List CP × Nat × Int) (e : Ending) (w' : World) : Prop :=
  ∃ A' c' L', e = .returned (.tuple #[.slice A' n c', .int .i64 (r.2.1 : Nat), .int .i64 r.2.2]) ∧ TbW w' ctAny A' n c' L' ∧ (r.2.2 = 0 → L'.map Prod.fst = r.1) ∧ (r.2.2 ≠ 0 → A' = A ∧ c' = c ∧ L' = L) ∧ fewL b L' ∧ Below w.heap.size w w'

end Go.Proofs.YtdiiilnebepfdaaGreatDoor
