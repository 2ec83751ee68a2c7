/- The contracts of clock's Fine, and of the document's: each gives the plain function's value and leaves memory as it was. -/
import Derived.Test.YtniijkdlphkpkaaDoorRows
import Derived.Test.YtniijkdlphkpkaaDoorK
import Derived.Test.YtniijkdlphkpkaaDoorCa
import Derived.WalkKit
import Derived.WalkSpells
import Derived.WalkLawsBesides
import Derived.BigQuiet
import Derived.Deep.QuietTactic
import Derived.Lib.Hide
import Derived.IntWalk
namespace Go.Proofs.YtniijkdlphkpkaaDoor
open Go.RowKit

set_option maxHeartbeats 400000 in
theorem c_within (x : Int) (w : World) :
    Calls Tryd.prog 57 #[.int .i64 x, .int .i64 0, .int .i64 1099511627776] w fun e w' => e = .returned (.int .i64 (clampC x)) ∧ w = w' := by
  go_enter Tryd.func57, Tryd.ntmps57
  go_wp2
  all_goals
    go_ret
    exact ⟨ret_int (by unfold clampC; repeat (split at *); all_goals omega), rfl⟩

set_option maxHeartbeats 400000 in
theorem c_instant (x : Int) (w : World) :
    Calls Tryd.prog 50 #[.int .i64 x] w fun e w' => e = .returned (.int .i64 (clampC x)) ∧ w = w' := by
  go_enter Tryd.func50, Tryd.ntmps50
  go_wp2_with (go_at_call 57; refine (c_within _ _).mono ?_; rintro e w' ⟨rfl, rfl⟩)
  go_ret
  exact ⟨rfl, rfl⟩

set_option maxHeartbeats 400000 in
theorem c_fine (x : Int) (w : World) :
    Calls Tryd.prog 41 #[.int .i64 x] w fun e w' => e = .returned (.bool (fineC x)) ∧ w = w' := by
  have H := Lib.hid (clampC_eq x)
  go_enter Tryd.func41, Tryd.ntmps41
  go_wp2_with (go_at_call 50; refine (c_instant _ _).mono ?_; rintro e w' ⟨rfl, rfl⟩)
  go_ret
  exact ⟨ret_bool H.out, rfl⟩

set_option maxHeartbeats 400000 in
theorem c_rfine (x : Int) (w : World) :
    Calls Tryd.prog 28 #[.int .i64 x] w fun e w' => e = .returned (.bool (fineC x)) ∧ w = w' := by
  cases hf : fineC x
  · have H := Lib.hid (fineC_no x hf)
    clear hf
    go_enter Tryd.func28, Tryd.ntmps28
    go_wp2
    all_goals
      go_ret
      refine ⟨ret_bool ?_, rfl⟩
      have := H.out
      first
        | rfl
        | (rw [decide_eq_false_iff_not]; omega)
  · obtain ⟨h0, h1⟩ := (fineC_iff x).1 hf
    clear hf
    go_enter Tryd.func28, Tryd.ntmps28
    go_wp2
    go_ret
    exact ⟨ret_bool (by first | rfl | (rw [decide_eq_true_iff]; omega)), rfl⟩
end Go.Proofs.YtniijkdlphkpkaaDoor
