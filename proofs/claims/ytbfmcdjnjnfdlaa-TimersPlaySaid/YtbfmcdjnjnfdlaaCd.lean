/- The contracts of clock's Fine and Due, and of the document's: each gives the plain function's value and leaves memory as it was. -/
import Derived.Test.YtbfmcdjnjnfdlaaRows
import Derived.Test.YtbfmcdjnjnfdlaaK
import Derived.Test.YtbfmcdjnjnfdlaaCa
import Derived.WalkKit
import Derived.WalkSpells
import Derived.WalkLawsBesides
import Derived.BigQuiet
import Derived.Deep.QuietTactic
import Derived.Lib.Hide
import Derived.IntWalk
namespace Go.Proofs.Ytbfmcdjnjnfdlaa
open Go.RowKit

set_option maxHeartbeats 400000 in
theorem c_within (x : Int) (w : World) :
    Calls Try.prog 38 #[.int .i64 x, .int .i64 0, .int .i64 1099511627776] w fun e w' => e = .returned (.int .i64 (clampC x)) ∧ w = w' := by
  go_enter Try.func38, Try.ntmps38
  go_wp2
  all_goals
    go_ret
    exact ⟨ret_int (by unfold clampC; repeat (split at *); all_goals omega), rfl⟩

set_option maxHeartbeats 400000 in
theorem c_instant (x : Int) (w : World) :
    Calls Try.prog 36 #[.int .i64 x] w fun e w' => e = .returned (.int .i64 (clampC x)) ∧ w = w' := by
  go_enter Try.func36, Try.ntmps36
  go_wp2_with (go_at_call 38; refine (c_within _ _).mono ?_; rintro e w' ⟨rfl, rfl⟩)
  go_ret
  exact ⟨rfl, rfl⟩

set_option maxHeartbeats 400000 in
theorem c_fine (x : Int) (w : World) :
    Calls Try.prog 24 #[.int .i64 x] w fun e w' => e = .returned (.bool (fineC x)) ∧ w = w' := by
  have H := Lib.hid (clampC_eq x)
  go_enter Try.func24, Try.ntmps24
  go_wp2_with (go_at_call 36; refine (c_instant _ _).mono ?_; rintro e w' ⟨rfl, rfl⟩)
  go_ret
  exact ⟨ret_bool H.out, rfl⟩

set_option maxHeartbeats 400000 in
theorem c_rfine (x : Int) (w : World) :
    Calls Try.prog 26 #[.int .i64 x] w fun e w' => e = .returned (.bool (fineC x)) ∧ w = w' := by
  cases hf : fineC x
  · have H := Lib.hid (fineC_no x hf)
    clear hf
    go_enter Try.func26, Try.ntmps26
    go_wp2
    all_goals
      go_ret
      refine ⟨ret_bool ?_, rfl⟩
      have := H.out
      first
        | rfl
        | (rw [decide_eq_false_iff_not]; omega)
  · obtain ⟨h0, h1⟩ := (fineC_iff x).1 hf
    clear hf
    go_enter Try.func26, Try.ntmps26
    go_wp2
    go_ret
    exact ⟨ret_bool (by first | rfl | (rw [decide_eq_true_iff]; omega)), rfl⟩

set_option maxHeartbeats 400000 in
theorem c_due (n t : Int) (w : World) :
    Calls Try.prog 32 #[.int .i64 n, .int .i64 t] w fun e w' => e = .returned (.bool (dueB n t)) ∧ w = w' := by
  cases hf : fineC n <;> cases ht : fineC t
  all_goals
    have H := Lib.hid (show dueB n t = (fineC n && (fineC t && decide (t ≤ n))) from rfl)
    rw [hf, ht] at H
    go_enter Try.func32, Try.ntmps32
    go_wp2_with (go_at_call 24; refine (c_fine _ _).mono ?_; rintro e w' ⟨rfl, rfl⟩)
    go_ret
    exact ⟨ret_bool (by rw [H.out]; simp), rfl⟩

set_option maxHeartbeats 400000 in
theorem c_rdue (n t : Int) (w : World) :
    Calls Try.prog 33 #[.int .i64 n, .int .i64 t] w fun e w' => e = .returned (.bool (dueB n t)) ∧ w = w' := by
  cases hf : fineC n <;> cases ht : fineC t
  all_goals
    have H := Lib.hid (show dueB n t = (fineC n && (fineC t && decide (t ≤ n))) from rfl)
    rw [hf, ht] at H
    go_enter Try.func33, Try.ntmps33
    go_wp2_with (go_at_call 26; refine (c_rfine _ _).mono ?_; rintro e w' ⟨rfl, rfl⟩)
    go_ret
    exact ⟨ret_bool (by rw [H.out]; simp), rfl⟩

end Go.Proofs.Ytbfmcdjnjnfdlaa
