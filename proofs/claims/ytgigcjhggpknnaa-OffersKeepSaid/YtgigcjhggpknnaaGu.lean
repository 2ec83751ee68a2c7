/- A guard, as plain data. -/
import Derived.Test.YtgigcjhggpknnaaK
namespace Go.Proofs.Ytgigcjhggpknnaa

/-- A guard, as plain data: its kind, its object, its value, its register, its number. -/
structure GD where
  (k o v r n : Int)
def gdC (g : GD) : List Value := [.int .i64 g.k, .int .i64 g.o, .int .i64 g.v, .int .i64 g.r, .int .i64 g.n]
theorem gdC_len (g : GD) : (gdC g).length = 5 := rfl
theorem gdC_one (g : GD) : ∀ v ∈ gdC g, v.oneCell' = true := by
  intro v hv
  simp only [gdC, List.mem_cons, List.not_mem_nil, or_false] at hv
  rcases hv with rfl | rfl | rfl | rfl | rfl <;> rfl
end Go.Proofs.Ytgigcjhggpknnaa
