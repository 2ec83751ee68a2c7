/- The contracts of the document's functions of layer 16, of plain numbers. -/
import Derived.Test.YtnmjjemkaamcfaaVb
namespace Go.Proofs.Ytnmjjemkaamcfaa
open Go.RowKit

set_option maxHeartbeats 400000 in
theorem c_qzfine (x : Int) (w : World) :
    Calls Try.prog 75 #[.int .i64 x] w fun e w' => e = .returned (.bool (pzFine x)) ∧ w = w' := by
  cases hf : pzFine x
  · have H := Lib.hid (pzFine_no x hf)
    clear hf
    go_enter Try.func75, Try.ntmps75
    go_wp2
    all_goals
      go_ret
      refine ⟨ret_bool ?_, rfl⟩
      have := H.out
      first
        | rfl
        | (rw [decide_eq_false_iff_not]; omega)
  · obtain ⟨h0, h1⟩ := (pzFine_iff x).1 hf
    clear hf
    go_enter Try.func75, Try.ntmps75
    go_wp2
    go_ret
    exact ⟨ret_bool (by first | rfl | (rw [decide_eq_true_iff]; omega)), rfl⟩

set_option maxHeartbeats 400000 in
theorem c_qzraise (l b : Int) (w : World) :
    Calls Try.prog 55 #[.int .i64 l, .int .i64 b] w fun e w' => e = .returned (.tuple #[.int .i64 (pzRaise l b), .int .i64 (pzErr l b)]) ∧ w = w' := by
  cases hf : pzFine l
  · rw [pzRaise_no l b (.inl hf), pzErr_no l b (.inl hf)]
    go_enter Try.func55, Try.ntmps55
    go_wp2_with (go_at_call 75; refine (c_qzfine _ _).mono ?_; rintro e w' ⟨rfl, rfl⟩)
    go_ret2
    exact ⟨rfl, rfl⟩
  · cases ht : pzStr b
    · rw [pzRaise_no l b (.inr ht), pzErr_no l b (.inr ht)]
      by_cases h1 : b < 1
      · clear ht
        go_enter Try.func55, Try.ntmps55
        go_wp2_with (go_at_call 75; refine (c_qzfine _ _).mono ?_; rintro e w' ⟨rfl, rfl⟩)
        go_ret2
        exact ⟨rfl, rfl⟩
      · have h2 : 255 < b := by have := pzStr_no b ht; omega
        clear ht
        go_enter Try.func55, Try.ntmps55
        go_wp2_with (go_at_call 75; refine (c_qzfine _ _).mono ?_; rintro e w' ⟨rfl, rfl⟩)
        go_ret2
        exact ⟨rfl, rfl⟩
    · rw [pzRaise_ok l b hf ht, pzErr_ok l b hf ht]
      obtain ⟨h1, h2⟩ := (pzStr_iff b).1 ht
      clear ht
      have h3 : ¬ b < 1 := by omega
      have h4 : ¬ 255 < b := by omega
      by_cases hl : l < b
      · rw [show max l b = b by omega]
        clear h1 h2
        go_enter Try.func55, Try.ntmps55
        go_wp2_with (go_at_call 75; refine (c_qzfine _ _).mono ?_; rintro e w' ⟨rfl, rfl⟩)
        go_ret2
        exact ⟨rfl, rfl⟩
      · rw [show max l b = l by omega]
        clear h1 h2
        go_enter Try.func55, Try.ntmps55
        go_wp2_with (go_at_call 75; refine (c_qzfine _ _).mono ?_; rintro e w' ⟨rfl, rfl⟩)
        go_ret2
        exact ⟨rfl, rfl⟩

set_option maxHeartbeats 400000 in
theorem c_qzhit (l b : Int) (w : World) :
    Calls Try.prog 79 #[.int .i64 l, .int .i64 b] w fun e w' => e = .returned (.bool (pzHit l b)) ∧ w = w' := by
  cases hf : pzFine l <;> cases ht : pzFine b
  all_goals
    have H := Lib.hid (show pzHit l b = (pzFine l && (pzFine b && decide (b < l))) from rfl)
    rw [hf, ht] at H
    go_enter Try.func79, Try.ntmps79
    go_wp2_with (go_at_call 75; refine (c_qzfine _ _).mono ?_; rintro e w' ⟨rfl, rfl⟩)
    go_ret
    exact ⟨ret_bool (by rw [H.out]; simp), rfl⟩
end Go.Proofs.Ytnmjjemkaamcfaa
