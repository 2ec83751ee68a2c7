/- The contracts of handle.Make, Fine, Slot, Gen each gives the plain function's value, and leaves memory as it was or only grown. -/
import Derived.Test.YtgigcjhggpknnaaRows
import Derived.Test.YtgigcjhggpknnaaK
import Derived.Test.YtgigcjhggpknnaaHm
import Derived.WalkKit
import Derived.WalkSpells
import Derived.WalkLawsBesides
import Derived.BigQuiet
import Derived.Deep.QuietTactic
import Derived.Lib.Hide
import Derived.IntWalk
namespace Go.Proofs.Ytgigcjhggpknnaa
open Go.RowKit

/-- A number that an int holds. -/
def I64 (x : Int) : Prop := -9223372036854775808 ≤ x ∧ x ≤ 9223372036854775807

set_option maxHeartbeats 400000 in
theorem c_make (s g : Int) (w : World) :
    Calls Try.prog 57 #[.int .i64 s, .int .i64 g] w fun e w' => e = .returned (.tuple #[.int .i64 (makeH s g), .int .i64 (makeE s g)]) ∧ w = w' := by
  by_cases h : 0 ≤ s ∧ s ≤ 4095 ∧ 1 ≤ g ∧ g ≤ 65535
  · rw [makeH_of s g h, makeE_of s g h]
    obtain ⟨h0, h1, h2, h3⟩ := h
    go_enter Try.func57, Try.ntmps57
    go_wp2
    go_ret2
    exact ⟨rfl, rfl⟩
  · rw [makeH_no s g (by omega), makeE_no s g (by omega)]
    have hh : ¬ (0 ≤ s ∧ s ≤ 4095 ∧ 1 ≤ g ∧ g ≤ 65535) := h
    have H := Lib.hid hh
    clear h hh
    go_enter Try.func57, Try.ntmps57
    go_wp2
    all_goals first
      | (go_ret2; exact ⟨rfl, rfl⟩)
      | (exfalso; have := H.out; omega)

set_option maxHeartbeats 400000 in
theorem c_fine (h : Int) (hw : I64 h) (w : World) :
    Calls Try.prog 58 #[.int .i64 h] w fun e w' => e = .returned (.bool (fineB h)) ∧ w = w' := by
  cases hf : fineB h
  · have hq : wrap64 (h.tdiv 4096) < 1 ∨ 65535 < wrap64 (h.tdiv 4096) := by
      unfold I64 at hw
      have e : wrap64 (h.tdiv 4096) = h.tdiv 4096 := (IntWalk.i64_left _).symm.trans (IntWalk.i64_quo' h 4096 ⟨hw.1, hw.2, by omega⟩)
      rcases fine_not h hf with a | a
      · exact .inl (quo_low h _ e a)
      · exact .inr (quo_high h _ e a)
    have H := Lib.hid hq
    clear hq hf
    generalize hW : wrap64 (h.tdiv 4096) = q at H
    go_enter Try.func58, Try.ntmps58
    go_wp2
    all_goals
      go_ret
      refine ⟨ret_bool ?_, rfl⟩
      have := H.out
      first
        | rfl
        | (rw [decide_eq_false_iff_not]; omega)
  · have hb := (fine_iff h).1 hf
    obtain ⟨h0, h1⟩ := hb
    clear hf hw
    go_enter Try.func58, Try.ntmps58
    go_wp2
    go_ret
    exact ⟨ret_bool (by first | rfl | (rw [decide_eq_true_iff]; omega)), rfl⟩

set_option maxHeartbeats 400000 in
theorem c_slot (h : Int) (hw : I64 h) (w : World) :
    Calls Try.prog 54 #[.int .i64 h] w fun e w' => e = .returned (.int .i64 (slotF h)) ∧ w = w' := by
  cases hf : fineB h
  · rw [slotF_no h hf]
    have H := Lib.hid hw
    clear hw
    go_enter Try.func54, Try.ntmps54
    go_wp2_with (go_at_call 58; refine (c_fine _ H.out _).mono ?_; rintro e w' ⟨rfl, rfl⟩)
    go_ret
    exact ⟨rfl, rfl⟩
  · rw [slotF_of h hf]
    obtain ⟨h0, h1⟩ := (fine_iff h).1 hf
    have H := Lib.hid hw
    clear hw
    go_enter Try.func54, Try.ntmps54
    go_wp2_with (go_at_call 58; refine (c_fine _ H.out _).mono ?_; rintro e w' ⟨rfl, rfl⟩)
    go_ret
    exact ⟨rfl, rfl⟩

set_option maxHeartbeats 400000 in
theorem c_gen (h : Int) (hw : I64 h) (w : World) :
    Calls Try.prog 55 #[.int .i64 h] w fun e w' => e = .returned (.int .i64 (genF h)) ∧ w = w' := by
  cases hf : fineB h
  · rw [genF_no h hf]
    have H := Lib.hid hw
    clear hw
    go_enter Try.func55, Try.ntmps55
    go_wp2_with (go_at_call 58; refine (c_fine _ H.out _).mono ?_; rintro e w' ⟨rfl, rfl⟩)
    go_ret
    exact ⟨rfl, rfl⟩
  · rw [genF_of h hf]
    obtain ⟨h0, h1⟩ := (fine_iff h).1 hf
    have H := Lib.hid hw
    clear hw
    go_enter Try.func55, Try.ntmps55
    go_wp2_with (go_at_call 58; refine (c_fine _ H.out _).mono ?_; rintro e w' ⟨rfl, rfl⟩)
    go_ret
    exact ⟨rfl, rfl⟩

end Go.Proofs.Ytgigcjhggpknnaa
