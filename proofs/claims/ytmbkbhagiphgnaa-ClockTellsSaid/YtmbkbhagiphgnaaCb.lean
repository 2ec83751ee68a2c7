/- The contracts of clock's functions, and of the document's: each gives the plain function's value and leaves memory as it was. -/
import Derived.Test.YtmbkbhagiphgnaaRows
import Derived.Test.YtmbkbhagiphgnaaK
import Derived.Test.YtmbkbhagiphgnaaCa
import Derived.WalkKit
import Derived.WalkSpells
import Derived.WalkLawsBesides
import Derived.BigQuiet
import Derived.Deep.QuietTactic
import Derived.Lib.Hide
import Derived.IntWalk
namespace Go.Proofs.Ytmbkbhagiphgnaa
open Go.RowKit

set_option maxHeartbeats 400000 in
theorem c_within (x : Int) (w : World) :
    Calls Try.prog 18 #[.int .i64 x, .int .i64 0, .int .i64 1099511627776] w fun e w' => e = .returned (.int .i64 (clampC x)) ∧ w = w' := by
  go_enter Try.func18, Try.ntmps18
  go_wp2
  all_goals
    go_ret
    exact ⟨ret_int (by unfold clampC; repeat (split at *); all_goals omega), rfl⟩

set_option maxHeartbeats 400000 in
theorem c_instant (x : Int) (w : World) :
    Calls Try.prog 17 #[.int .i64 x] w fun e w' => e = .returned (.int .i64 (clampC x)) ∧ w = w' := by
  go_enter Try.func17, Try.ntmps17
  go_wp2_with (go_at_call 18; refine (c_within _ _).mono ?_; rintro e w' ⟨rfl, rfl⟩)
  go_ret
  exact ⟨rfl, rfl⟩

set_option maxHeartbeats 400000 in
theorem c_fine (x : Int) (w : World) :
    Calls Try.prog 10 #[.int .i64 x] w fun e w' => e = .returned (.bool (fineC x)) ∧ w = w' := by
  have H := Lib.hid (clampC_eq x)
  go_enter Try.func10, Try.ntmps10
  go_wp2_with (go_at_call 17; refine (c_instant _ _).mono ?_; rintro e w' ⟨rfl, rfl⟩)
  go_ret
  exact ⟨ret_bool H.out, rfl⟩

set_option maxHeartbeats 400000 in
theorem c_rfine (x : Int) (w : World) :
    Calls Try.prog 11 #[.int .i64 x] w fun e w' => e = .returned (.bool (fineC x)) ∧ w = w' := by
  cases hf : fineC x
  · have H := Lib.hid (fineC_no x hf)
    clear hf
    go_enter Try.func11, Try.ntmps11
    go_wp2
    all_goals
      go_ret
      refine ⟨ret_bool ?_, rfl⟩
      have := H.out
      first
        | rfl
        | (rw [decide_eq_false_iff_not]; omega)
  · obtain ⟨h0, h1⟩ := (fineC_iff x).1 hf
    clear hf
    go_enter Try.func11, Try.ntmps11
    go_wp2
    go_ret
    exact ⟨ret_bool (by first | rfl | (rw [decide_eq_true_iff]; omega)), rfl⟩

set_option maxHeartbeats 400000 in
theorem c_after (n d : Int) (w : World) :
    Calls Try.prog 8 #[.int .i64 n, .int .i64 d] w fun e w' => e = .returned (.tuple #[.int .i64 (afterV n d), .int .i64 (afterE n)]) ∧ w = w' := by
  cases hf : fineC n
  · rw [afterV_no n d hf, afterE_no n hf]
    go_enter Try.func8, Try.ntmps8
    go_wp2_with (go_at_call 10; refine (c_fine _ _).mono ?_; rintro e w' ⟨rfl, rfl⟩)
    go_ret2
    exact ⟨rfl, rfl⟩
  · rw [afterV_of n d hf, afterE_of n hf]
    obtain ⟨h0, h1⟩ := (fineC_iff n).1 hf
    obtain ⟨k0, k1⟩ := clampC_bd d
    go_enter Try.func8, Try.ntmps8
    go_wp2_with (first | (go_at_call 10; refine (c_fine _ _).mono ?_; rintro e w' ⟨rfl, rfl⟩) | (go_at_call 17; refine (c_instant _ _).mono ?_; rintro e w' ⟨rfl, rfl⟩))
    go_ret2
    exact ⟨rfl, rfl⟩

set_option maxHeartbeats 400000 in
theorem c_tick (n d : Int) (w : World) :
    Calls Try.prog 6 #[.int .i64 n, .int .i64 d] w fun e w' => e = .returned (.tuple #[.int .i64 (tickV n d), .int .i64 (tickE n d)]) ∧ w = w' := by
  cases hf : fineC n
  · have c := c_after n d w
    rw [afterV_no n d hf, afterE_no n hf] at c
    have C := Lib.hid c
    rw [tickV_no n d hf, tickE_no n d hf]
    clear c
    go_enter Try.func6, Try.ntmps6
    go_wp2_with (first | (go_at_call 10; refine (c_fine _ _).mono ?_; rintro e w' ⟨rfl, rfl⟩) | (go_at_call 8; refine C.out.mono ?_; rintro e w' ⟨rfl, rfl⟩))
    go_ret2
    exact ⟨rfl, rfl⟩
  · by_cases hd : 0 ≤ d
    · have c := c_after n d w
      rw [afterV_of n d hf, afterE_of n hf] at c
      have C := Lib.hid c
      rw [tickV_of n d hf hd, tickE_of n d hf hd]
      clear c
      go_enter Try.func6, Try.ntmps6
      go_wp2_with (first | (go_at_call 10; refine (c_fine _ _).mono ?_; rintro e w' ⟨rfl, rfl⟩) | (go_at_call 8; refine C.out.mono ?_; rintro e w' ⟨rfl, rfl⟩))
      go_ret2
      exact ⟨rfl, rfl⟩
    · have hd' : d < 0 := by omega
      rw [tickV_neg n d hd', tickE_neg n d hf hd']
      clear hd
      go_enter Try.func6, Try.ntmps6
      go_wp2_with (go_at_call 10; refine (c_fine _ _).mono ?_; rintro e w' ⟨rfl, rfl⟩)
      go_ret2
      exact ⟨rfl, rfl⟩

set_option maxHeartbeats 400000 in
theorem c_rtick (n d : Int) (w : World) :
    Calls Try.prog 7 #[.int .i64 n, .int .i64 d] w fun e w' => e = .returned (.tuple #[.int .i64 (tickV n d), .int .i64 (tickE n d)]) ∧ w = w' := by
  cases hf : fineC n
  · rw [tickV_no n d hf, tickE_no n d hf]
    go_enter Try.func7, Try.ntmps7
    go_wp2_with (go_at_call 11; refine (c_rfine _ _).mono ?_; rintro e w' ⟨rfl, rfl⟩)
    go_ret2
    exact ⟨rfl, rfl⟩
  · obtain ⟨h0, h1⟩ := (fineC_iff n).1 hf
    by_cases hd : d < 0
    · rw [tickV_neg n d hd, tickE_neg n d hf hd]
      go_enter Try.func7, Try.ntmps7
      go_wp2_with (go_at_call 11; refine (c_rfine _ _).mono ?_; rintro e w' ⟨rfl, rfl⟩)
      go_ret2
      exact ⟨rfl, rfl⟩
    · have hd' : 0 ≤ d := by omega
      by_cases hs : 1099511627776 - n < d
      · rw [tickV_of n d hf hd', tickE_of n d hf hd', sum_high n d h0 hs]
        clear hd
        go_enter Try.func7, Try.ntmps7
        go_wp2_with (go_at_call 11; refine (c_rfine _ _).mono ?_; rintro e w' ⟨rfl, rfl⟩)
        go_ret2
        exact ⟨rfl, rfl⟩
      · have hs' : d ≤ 1099511627776 - n := by omega
        rw [tickV_of n d hf hd', tickE_of n d hf hd', sum_in n d h0 hd' (by omega)]
        clear hd hs
        have h2 : d ≤ 1099511627776 := by omega
        go_enter Try.func7, Try.ntmps7
        go_wp2_with (go_at_call 11; refine (c_rfine _ _).mono ?_; rintro e w' ⟨rfl, rfl⟩)
        go_ret2
        exact ⟨rfl, rfl⟩

set_option maxHeartbeats 400000 in
theorem c_rafter (n d : Int) (w : World) :
    Calls Try.prog 9 #[.int .i64 n, .int .i64 d] w fun e w' => e = .returned (.tuple #[.int .i64 (afterV n d), .int .i64 (afterE n)]) ∧ w = w' := by
  cases hf : fineC n
  · rw [afterV_no n d hf, afterE_no n hf]
    go_enter Try.func9, Try.ntmps9
    go_wp2_with (go_at_call 11; refine (c_rfine _ _).mono ?_; rintro e w' ⟨rfl, rfl⟩)
    go_ret2
    exact ⟨rfl, rfl⟩
  · obtain ⟨h0, h1⟩ := (fineC_iff n).1 hf
    by_cases hd : d < 0
    · rw [afterV_of n d hf, afterE_of n hf, sum_low n d h0 h1 hd]
      go_enter Try.func9, Try.ntmps9
      go_wp2_with (go_at_call 11; refine (c_rfine _ _).mono ?_; rintro e w' ⟨rfl, rfl⟩)
      go_ret2
      exact ⟨rfl, rfl⟩
    · have hd' : 0 ≤ d := by omega
      have c := c_rtick n d w
      rw [tickV_of n d hf hd', tickE_of n d hf hd'] at c
      have C := Lib.hid c
      rw [afterV_of n d hf, afterE_of n hf]
      clear c hd
      go_enter Try.func9, Try.ntmps9
      go_wp2_with (first | (go_at_call 11; refine (c_rfine _ _).mono ?_; rintro e w' ⟨rfl, rfl⟩) | (go_at_call 7; refine C.out.mono ?_; rintro e w' ⟨rfl, rfl⟩))
      go_ret2
      exact ⟨rfl, rfl⟩

set_option maxHeartbeats 400000 in
theorem c_due (n t : Int) (w : World) :
    Calls Try.prog 12 #[.int .i64 n, .int .i64 t] w fun e w' => e = .returned (.bool (dueB n t)) ∧ w = w' := by
  cases hf : fineC n <;> cases ht : fineC t
  all_goals
    have H := Lib.hid (show dueB n t = (fineC n && (fineC t && decide (t ≤ n))) from rfl)
    rw [hf, ht] at H
    go_enter Try.func12, Try.ntmps12
    go_wp2_with (go_at_call 10; refine (c_fine _ _).mono ?_; rintro e w' ⟨rfl, rfl⟩)
    go_ret
    exact ⟨ret_bool (by rw [H.out]; simp), rfl⟩

set_option maxHeartbeats 400000 in
theorem c_rdue (n t : Int) (w : World) :
    Calls Try.prog 13 #[.int .i64 n, .int .i64 t] w fun e w' => e = .returned (.bool (dueB n t)) ∧ w = w' := by
  cases hf : fineC n <;> cases ht : fineC t
  all_goals
    have H := Lib.hid (show dueB n t = (fineC n && (fineC t && decide (t ≤ n))) from rfl)
    rw [hf, ht] at H
    go_enter Try.func13, Try.ntmps13
    go_wp2_with (go_at_call 11; refine (c_rfine _ _).mono ?_; rintro e w' ⟨rfl, rfl⟩)
    go_ret
    exact ⟨ret_bool (by rw [H.out]; simp), rfl⟩

set_option maxHeartbeats 400000 in
theorem c_left (n t : Int) (w : World) :
    Calls Try.prog 14 #[.int .i64 n, .int .i64 t] w fun e w' => e = .returned (.int .i64 (leftV n t)) ∧ w = w' := by
  cases hf : fineC n <;> cases ht : fineC t
  case true.true =>
    rw [leftV_of n t hf ht]
    obtain ⟨h0, h1⟩ := (fineC_iff n).1 hf
    obtain ⟨k0, k1⟩ := (fineC_iff t).1 ht
    go_enter Try.func14, Try.ntmps14
    go_wp2_with (first | (go_at_call 10; refine (c_fine _ _).mono ?_; rintro e w' ⟨rfl, rfl⟩) | (go_at_call 17; refine (c_instant _ _).mono ?_; rintro e w' ⟨rfl, rfl⟩))
    go_ret
    exact ⟨rfl, rfl⟩
  all_goals
    rw [leftV_no n t (by simp [hf, ht])]
    go_enter Try.func14, Try.ntmps14
    go_wp2_with (go_at_call 10; refine (c_fine _ _).mono ?_; rintro e w' ⟨rfl, rfl⟩)
    go_ret
    exact ⟨rfl, rfl⟩

set_option maxHeartbeats 400000 in
theorem c_rleft (n t : Int) (w : World) :
    Calls Try.prog 15 #[.int .i64 n, .int .i64 t] w fun e w' => e = .returned (.int .i64 (leftV n t)) ∧ w = w' := by
  cases hf : fineC n <;> cases ht : fineC t
  case true.true =>
    obtain ⟨h0, h1⟩ := (fineC_iff n).1 hf
    obtain ⟨k0, k1⟩ := (fineC_iff t).1 ht
    by_cases hl : t < n
    · rw [leftV_of n t hf ht, clampC_low _ (by omega)]
      go_enter Try.func15, Try.ntmps15
      go_wp2_with (go_at_call 11; refine (c_rfine _ _).mono ?_; rintro e w' ⟨rfl, rfl⟩)
      go_ret
      exact ⟨rfl, rfl⟩
    · rw [leftV_of n t hf ht, clampC_in _ (by omega)]
      have hl' : n ≤ t := by omega
      clear hl
      go_enter Try.func15, Try.ntmps15
      go_wp2_with (go_at_call 11; refine (c_rfine _ _).mono ?_; rintro e w' ⟨rfl, rfl⟩)
      go_ret
      exact ⟨rfl, rfl⟩
  all_goals
    rw [leftV_no n t (by simp [hf, ht])]
    go_enter Try.func15, Try.ntmps15
    go_wp2_with (go_at_call 11; refine (c_rfine _ _).mono ?_; rintro e w' ⟨rfl, rfl⟩)
    go_ret
    exact ⟨rfl, rfl⟩
end Go.Proofs.Ytmbkbhagiphgnaa
