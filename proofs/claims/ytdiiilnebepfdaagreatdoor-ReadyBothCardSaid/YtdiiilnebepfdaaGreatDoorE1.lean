/- Events, as plain data: which may be, their order, their texts, and what a text is read as. Package event: letter, most, below, ranged, own, Check. Slices of events: one of them, their cells. The document's events, compared. -/
import Derived.Test.YtdiiilnebepfdaaGreatDoorA1
import Derived.Test.YtdiiilnebepfdaaGreatDoorA2
import Derived.Lib.Bytealg
import Derived.Lib.Strings
import Derived.Test.YtdiiilnebepfdaaGreatDoorRows
import Derived.WalkKit
import Derived.WalkSpells
import Derived.LoopTactic
import Derived.BigRegion
import Derived.BigQuiet
import Derived.Deep.QuietTactic
import Derived.Lib.QuietBelow
import Derived.Lib.Hide
import Derived.IntWalk
import Derived.Laws.StructEq
import Derived.Deep.CutBlock
namespace Go.Proofs.YtdiiilnebepfdaaGreatDoor

/-- An event: its kind, its object, its process, its guard's number. -/
structure EV where
  (k o h n : Int)
instance : Inhabited EV := ⟨⟨0, 0, 0, 0⟩⟩
def evC (e : EV) : List Value := [.int .i64 e.k, .int .i64 e.o, .int .i64 e.h, .int .i64 e.n]
theorem evC_len (e : EV) : (evC e).length = 4 := rfl
theorem evC_one (e : EV) : ∀ v ∈ evC e, v.oneCell' = true := by
  intro v hv
  simp only [evC, List.mem_cons, List.not_mem_nil, or_false] at hv
  rcases hv with rfl | rfl | rfl | rfl <;> rfl

/- The letter of a kind, and what may be. -/

/- The kinds' words. -/

/- Texts. -/

/- What a text is read as. -/

end Go.Proofs.YtdiiilnebepfdaaGreatDoor

namespace Go.Proofs.YtdiiilnebepfdaaGreatDoor
open Go.RowKit

end Go.Proofs.YtdiiilnebepfdaaGreatDoor

namespace Go.Proofs.YtdiiilnebepfdaaGreatDoor
open Go.RowKit

theorem ei_ev : EI Tryz.prog 57 32 (.agg #[.int .i64 0, .int .i64 0, .int .i64 0, .int .i64 0]) 4 32 := ⟨Tryz.underlying57, by kernel_rfl, rfl, by omega, by omega⟩
theorem ev_len (L : List EV) : (L.flatMap evC).length = L.length * 4 := by
  induction L with
  | nil => rfl
  | cons a l ih => rw [List.flatMap_cons, List.length_append, ih, evC_len, List.length_cons]; omega
end Go.Proofs.YtdiiilnebepfdaaGreatDoor

namespace Go.Proofs.YtdiiilnebepfdaaGreatDoor
open Go.RowKit

end Go.Proofs.YtdiiilnebepfdaaGreatDoor
