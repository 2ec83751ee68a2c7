/- What the law's alive of layer 29 meets, as plain maths. -/
import Derived.Test.YtdiiilnebepfdaaGreatDoorR1
import Derived.Test.YtdiiilnebepfdaaGreatDoorC2
namespace Go.Proofs.YtdiiilnebepfdaaGreatDoor

def alW3 : List GD := [⟨2, 0, 7, 0, 0⟩]
def alW5 : List GD := [⟨1, 0, 0, 1, 0⟩, ⟨5, 0, 0, 0, 1⟩]
def alV (V : List CP) : VP := ⟨0, V, [], [(3, alW3), (5, alW5)], [], []⟩
theorem al29_facts : ∃ T U V : List CP, newL [⟨0, 0, 0, 0⟩] = T ∧ newR [⟨0, 0, 0, 0⟩] = (0, 0) ∧ T.length = 1 ∧ offRun 3 false T 0 alW3 = (U, 0, 0) ∧ offRun 5 true U 0 alW5 = (V, 0, 0) ∧
    rdEvents (alV V) = [⟨2, 0, 0, 0⟩, ⟨8, 0, 5, 1⟩] ∧ rdWhich (alV V) 3 0 = some ⟨2, 0, 0, 0⟩ ∧ rdWhich (alV V) 3 1 = none ∧ rdGds (alV V) 5 = [0, 1] := by
  let T := newL [⟨0, 0, 0, 0⟩]
  let U := (offRun 3 false T 0 alW3).1
  let V := (offRun 5 true U 0 alW5).1
  exact ⟨T, U, V, rfl, by kernel_rfl, by kernel_rfl, by kernel_rfl, by kernel_rfl, by kernel_rfl, by kernel_rfl, by kernel_rfl, by kernel_rfl⟩
end Go.Proofs.YtdiiilnebepfdaaGreatDoor
