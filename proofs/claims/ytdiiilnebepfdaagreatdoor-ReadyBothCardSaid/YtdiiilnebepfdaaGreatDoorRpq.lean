/- Poison of the document's channel table. -/
import Derived.Test.YtdiiilnebepfdaaGreatDoorYm
import Derived.Test.YtdiiilnebepfdaaGreatDoorEf
namespace Go.Proofs.YtdiiilnebepfdaaGreatDoor
open Go.RowKit

/-- What poisons a table's channel: the error, the channels. -/
def ptE (Cs : List CP) (o y : Int) : Int := if (decide (0 ≤ o) && decide (o < (Cs.length : Int))) = true then (match Cs[o.toNat]? with | some C => chPoisE C y | none => 8) else 8
def ptL (Cs : List CP) (o y : Int) : List CP := if (decide (0 ≤ o) && decide (o < (Cs.length : Int))) = true then (match Cs[o.toNat]? with | some C => Cs.set o.toNat (chPois C y) | none => Cs) else Cs
theorem fewC.pois {b : Nat} {C : CP} (h : fewC b C) (y : Int) : fewC b (chPois C y) := by
  unfold chPois
  split
  · exact h
  · exact h
theorem set_same {α : Type} {l : List α} {k : Nat} {x : α} (h : l[k]? = some x) : l.set k x = l := by
  apply List.ext_getElem?
  intro i
  rw [List.getElem?_set]
  split
  · next e =>
    subst e
    split
    · exact h.symm
    · next hk =>
      rw [List.getElem?_eq_none (by omega)] at h
      cases h
  · rfl
end Go.Proofs.YtdiiilnebepfdaaGreatDoor
