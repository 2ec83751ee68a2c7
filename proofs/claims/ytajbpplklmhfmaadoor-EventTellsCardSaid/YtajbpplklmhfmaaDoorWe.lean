/- The contract of package word's Fine. -/
import Derived.Test.YtajbpplklmhfmaaDoorRows
import Derived.Test.YtajbpplklmhfmaaDoorK
import Derived.Test.YtajbpplklmhfmaaDoorWm
import Derived.WalkKit
import Derived.WalkSpells
import Derived.Lib.Hide
import Derived.IntWalk
namespace Go.Proofs.YtajbpplklmhfmaaDoor
open Go.RowKit

set_option maxHeartbeats 400000 in
theorem c_wfine (a : Int) (w : World) :
    Calls Tryd.prog 54 #[.int .i64 a] w fun e w' => e = .returned (.bool (fineW a)) ∧ w = w' := by
  cases hf : fineW a
  · have H := Lib.hid (fineW_not a hf)
    clear hf
    go_enter Tryd.func54, Tryd.ntmps54
    go_wp2
    all_goals
      go_ret
      refine ⟨ret_bool ?_, rfl⟩
      have := H.out
      first
        | rfl
        | (rw [decide_eq_false_iff_not]; omega)
  · have hb := (fineW_iff a).1 hf
    obtain ⟨h0, h1⟩ := hb
    clear hf
    go_enter Tryd.func54, Tryd.ntmps54
    go_wp2
    go_ret
    exact ⟨ret_bool (by first | rfl | (rw [decide_eq_true_iff]; omega)), rfl⟩
end Go.Proofs.YtajbpplklmhfmaaDoor
