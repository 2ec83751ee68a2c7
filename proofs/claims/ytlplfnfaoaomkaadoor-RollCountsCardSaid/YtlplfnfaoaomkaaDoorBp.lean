/- Package bitset's calls whose answers are letters: Sub, Next, Has. -/
import Derived.Test.YtlplfnfaoaomkaaDoorBj
namespace Go.Proofs.YtlplfnfaoaomkaaDoor
open Go.RowKit

theorem c_subB {s t : S4} {b : Bool} (h : s.sub t = b) (w : World) : Calls Tryd.prog 36 #[s.val, t.val] w fun e w' => e = .returned (.bool b) ∧ Below w.heap.size w w' := by
  rw [← h]
  exact c_sub s t w
theorem c_nextS (s : S4) (x : Int) (w : World) (hT : TabD w) {y : Int} {b : Bool} (h : nextL s.ints x = (y, b)) :
    Calls Tryd.prog 35 #[s.val, .int .i64 x] w fun e w' => e = .returned (.tuple #[.int .i64 y, .bool b]) ∧ Below w.heap.size w w' := by
  have := c_next s x w hT
  unfold NextPost at this
  rw [h] at this
  exact this
theorem c_hasB (s : S4) (x : Int) (w : World) {b : Bool} (h : hasL s.ints x = b) : Calls Tryd.prog 27 #[s.val, .int .i64 x] w fun e w' => e = .returned (.bool b) ∧ Below w.heap.size w w' := by
  rw [← h]
  exact c_has s x w
end Go.Proofs.YtlplfnfaoaomkaaDoor
