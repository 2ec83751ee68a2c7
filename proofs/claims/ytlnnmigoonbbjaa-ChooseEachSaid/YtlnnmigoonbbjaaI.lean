/- Slices of ints: new ones that read so; a longer beginning of a list. -/
import Derived.Test.YtlnnmigoonbbjaaRows
import Derived.Test.YtlnnmigoonbbjaaNb
namespace Go.Proofs.Ytlnnmigoonbbjaa
open Go.RowKit

theorem ei_int : EI Try.prog 22 3 (.int .i64 0) 1 8 := ⟨Try.underlying22, by kernel_rfl, rfl, by omega, by omega⟩
/-- A slice of ints that reads so, in new memory. -/
def IntsPost (w : World) (zs : List Int) (e : Ending) (w' : World) : Prop := ∃ A c, e = .returned (.slice A zs.length c) ∧ zs.length ≤ c ∧ c ≤ maxLen ∧ RD w' (w.heap.size ≤ ·) 1 A zs.length (zs.map (Value.int .i64)) ∧ Below w.heap.size w w'
theorem IntsPost.of {w w' : World} {v : Value} {zs : List Int} {n : Nat} (h : w'.ownsRow w.heap.size 3 1 v n (zs.map (Value.int .i64))) (hb : Below w.heap.size w w') : IntsPost w zs (.returned v) w' := by
  obtain ⟨A, c, rfl, h1, h2, h3⟩ := own_slice h
  obtain rfl : n = zs.length := by have := h.1; simpa using this.symm
  exact ⟨A, c, rfl, h1, h2, h3, hb⟩
theorem IntsPost.of' {w w' : World} {v : Value} {zs : List Int} {n lo : Nat} (h : w'.ownsRow lo 3 1 v n (zs.map (Value.int .i64))) (hlo : w.heap.size ≤ lo) (hb : Below w.heap.size w w') : IntsPost w zs (.returned v) w' := by
  obtain ⟨A, c, rfl, h1, h2, h3⟩ := own_slice h
  obtain rfl : n = zs.length := by have := h.1; simpa using this.symm
  exact ⟨A, c, rfl, h1, h2, h3.lo fun b hb => Nat.le_trans hlo hb, hb⟩
theorem IntsPost.empty (w : World) : IntsPost w [] (.returned (.slice none 0 0)) w := ⟨none, 0, rfl, Nat.le_refl _, by unfold maxLen; omega, RD.nil _ _ _ _, Below.refl _ _⟩
theorem take_next {α : Type} (L : List α) (q : Nat) (a : α) (h : L[q]? = some a) : L.take (q + 1) = L.take q ++ [a] := by
  rw [List.take_add_one, h]
  rfl
end Go.Proofs.Ytlnnmigoonbbjaa
