/- What the rows' condition on the program's table gives the walks of stage 9. -/
import Derived.Test.YtnmcieilpomkaaaDoorPu
import Derived.Test.YtnmcieilpomkaaaDoorPy
import Derived.Test.YtnmcieilpomkaaaDoorO
namespace Go.Proofs.YtnmcieilpomkaaaDoor
open Go.RowKit
theorem op_of {W : World} (h : laidMetH Tryd.prog [("becket/opcode.lines", Rows.laid_becket_opcode_lines)] W) : OpT W := by
  rw [MakeChecks.laidMetH_plain _ _ _ (by kernel_rfl)] at h
  exact opT_of_head h
end Go.Proofs.YtnmcieilpomkaaaDoor
