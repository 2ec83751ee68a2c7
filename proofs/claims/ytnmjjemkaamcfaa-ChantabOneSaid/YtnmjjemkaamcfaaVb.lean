/- The contracts of package poison's functions of plain numbers: each gives the plain function's value and leaves memory as it was. -/
import Derived.Test.YtnmjjemkaamcfaaRows
import Derived.Test.YtnmjjemkaamcfaaK
import Derived.Test.YtnmjjemkaamcfaaVa
import Derived.WalkKit
import Derived.WalkSpells
import Derived.WalkLawsBesides
import Derived.BigQuiet
import Derived.Deep.QuietTactic
import Derived.Lib.Hide
import Derived.IntWalk
namespace Go.Proofs.Ytnmjjemkaamcfaa
open Go.RowKit

set_option maxHeartbeats 400000 in
theorem c_pzfine (x : Int) (w : World) :
    Calls Try.prog 48 #[.int .i64 x] w fun e w' => e = .returned (.bool (pzFine x)) ∧ w = w' := by
  cases hf : pzFine x
  · have H := Lib.hid (pzFine_no x hf)
    clear hf
    go_enter Try.func48, Try.ntmps48
    go_wp2
    all_goals
      go_ret
      refine ⟨ret_bool ?_, rfl⟩
      have := H.out
      first
        | rfl
        | (rw [decide_eq_false_iff_not]; omega)
  · obtain ⟨h0, h1⟩ := (pzFine_iff x).1 hf
    clear hf
    go_enter Try.func48, Try.ntmps48
    go_wp2
    go_ret
    exact ⟨ret_bool (by first | rfl | (rw [decide_eq_true_iff]; omega)), rfl⟩

set_option maxHeartbeats 400000 in
theorem c_pzstr (x : Int) (w : World) :
    Calls Try.prog 74 #[.int .i64 x] w fun e w' => e = .returned (.bool (pzStr x)) ∧ w = w' := by
  have H := Lib.hid (pzStr_eq x)
  cases hf : pzFine x
  all_goals
    rw [hf] at H
    go_enter Try.func74, Try.ntmps74
    go_wp2_with (go_at_call 48; refine (c_pzfine _ _).mono ?_; rintro e w' ⟨rfl, rfl⟩)
    go_ret
    exact ⟨ret_bool (by rw [H.out]; simp), rfl⟩

set_option maxHeartbeats 400000 in
theorem c_pzraise (l b : Int) (w : World) :
    Calls Try.prog 53 #[.int .i64 l, .int .i64 b] w fun e w' => e = .returned (.tuple #[.int .i64 (pzRaise l b), .int .i64 (pzErr l b)]) ∧ w = w' := by
  cases hf : pzFine l <;> cases ht : pzStr b
  case true.true =>
    rw [pzRaise_ok l b hf ht, pzErr_ok l b hf ht]
    go_enter Try.func53, Try.ntmps53
    go_wp2_with (first | (go_at_call 48; refine (c_pzfine _ _).mono ?_; rintro e w' ⟨rfl, rfl⟩) | (go_at_call 74; refine (c_pzstr _ _).mono ?_; rintro e w' ⟨rfl, rfl⟩))
    all_goals
      trace_state
      go_ret2
      exact ⟨ret_int2 (by omega) rfl, rfl⟩
  all_goals
    rw [pzRaise_no l b (by simp [hf, ht]), pzErr_no l b (by simp [hf, ht])]
    go_enter Try.func53, Try.ntmps53
    go_wp2_with (first | (go_at_call 48; refine (c_pzfine _ _).mono ?_; rintro e w' ⟨rfl, rfl⟩) | (go_at_call 74; refine (c_pzstr _ _).mono ?_; rintro e w' ⟨rfl, rfl⟩))
    go_ret2
    exact ⟨rfl, rfl⟩

set_option maxHeartbeats 400000 in
theorem c_pzhit (l b : Int) (w : World) :
    Calls Try.prog 80 #[.int .i64 l, .int .i64 b] w fun e w' => e = .returned (.bool (pzHit l b)) ∧ w = w' := by
  cases hf : pzFine l <;> cases ht : pzFine b
  all_goals
    have H := Lib.hid (show pzHit l b = (pzFine l && (pzFine b && decide (b < l))) from rfl)
    rw [hf, ht] at H
    go_enter Try.func80, Try.ntmps80
    go_wp2_with (go_at_call 48; refine (c_pzfine _ _).mono ?_; rintro e w' ⟨rfl, rfl⟩)
    go_ret
    exact ⟨ret_bool (by rw [H.out]; simp), rfl⟩
end Go.Proofs.Ytnmjjemkaamcfaa
