/- The contracts of the document's functions of layer 20: each gives the plain function's value and leaves memory as it was. -/
import Derived.Test.YteckflbnfpmnkaaRows
import Derived.Test.YteckflbnfpmnkaaK
import Derived.Test.YteckflbnfpmnkaaPha
import Derived.WalkKit
import Derived.WalkSpells
import Derived.WalkLawsBesides
import Derived.BigQuiet
import Derived.Deep.QuietTactic
import Derived.Lib.Hide
import Derived.IntWalk
import Derived.LoopTactic
namespace Go.Proofs.Yteckflbnfpmnkaa
open Go.RowKit

set_option maxHeartbeats 400000 in
theorem c_rfine (n l : Int) (w : World) :
    Calls Try.prog 9 #[.int .i64 n, .int .i64 l] w fun e w' => e = .returned (.bool (phFine n l)) ∧ w = w' := by
  cases hf : phFine n l
  · have H := phFine_no n l hf
    clear hf
    rcases H with h0 | ⟨h0, h1⟩ | ⟨h0, h1, h2⟩ | ⟨h0, h1, h2, h3⟩
    all_goals
      go_enter Try.func9, Try.ntmps9
      go_wp2
      go_ret
      exact ⟨ret_bool (by first | rfl | (rw [decide_eq_false_iff_not]; omega)), rfl⟩
  · obtain ⟨h0, h1, h2, h3⟩ := (phFine_iff n l).1 hf
    clear hf
    go_enter Try.func9, Try.ntmps9
    go_wp2
    go_ret
    exact ⟨ret_bool (by first | rfl | (rw [decide_eq_true_iff]; omega)), rfl⟩

set_option maxHeartbeats 400000 in
theorem c_rnext (n l : Int) (w : World) :
    Calls Try.prog 7 #[.int .i64 n, .int .i64 l] w fun e w' => e = .returned (.tuple #[.int .i64 (phNext n l), .int .i64 (phErr n l)]) ∧ w = w' := by
  cases hf : phFine n l
  · rw [phNext_no hf, phErr_no hf]
    have HF := Lib.hid hf
    clear hf
    go_enter Try.func7, Try.ntmps7
    go_wp2_with (go_at_call 9; refine (c_rfine _ _ _).mono ?_; rintro e w' ⟨rfl, rfl⟩; rw [HF.out])
    go_ret2
    exact ⟨rfl, rfl⟩
  · by_cases he : n = l
    · rw [phNext_end hf he, phErr_end hf he]
      have hb : (n == l) = true := beq_iff_eq.2 he
      clear he
      have HF := Lib.hid hf
      clear hf
      go_enter Try.func7, Try.ntmps7
      go_wp2_with (go_at_call 9; refine (c_rfine _ _ _).mono ?_; rintro e w' ⟨rfl, rfl⟩; rw [HF.out])
      go_ret2
      exact ⟨rfl, rfl⟩
    · rw [phNext_on hf he, phErr_on hf he]
      obtain ⟨h0, h1, h2, h3⟩ := (phFine_iff n l).1 hf
      have hb : (n == l) = false := beq_eq_false_iff_ne.2 he
      have HF := Lib.hid hf
      clear hf
      go_enter Try.func7, Try.ntmps7
      go_wp2_with (go_at_call 9; refine (c_rfine _ _ _).mono ?_; rintro e w' ⟨rfl, rfl⟩; rw [HF.out])
      go_ret2
      exact ⟨rfl, rfl⟩

set_option maxHeartbeats 400000 in
theorem c_rleft (n l : Int) (w : World) :
    Calls Try.prog 11 #[.int .i64 n, .int .i64 l] w fun e w' => e = .returned (.int .i64 (phLeft n l)) ∧ w = w' := by
  cases hf : phFine n l
  · rw [phLeft_no hf]
    have HF := Lib.hid hf
    clear hf
    go_enter Try.func11, Try.ntmps11
    go_wp2_with (go_at_call 9; refine (c_rfine _ _ _).mono ?_; rintro e w' ⟨rfl, rfl⟩; rw [HF.out])
    go_ret
    exact ⟨rfl, rfl⟩
  · rw [phLeft_of hf]
    obtain ⟨h0, h1, h2, h3⟩ := (phFine_iff n l).1 hf
    have HF := Lib.hid hf
    clear hf
    go_enter Try.func11, Try.ntmps11
    go_wp2_with (go_at_call 9; refine (c_rfine _ _ _).mono ?_; rintro e w' ⟨rfl, rfl⟩; rw [HF.out])
    go_ret
    exact ⟨rfl, rfl⟩

set_option maxHeartbeats 800000 in
theorem c_rgoes (n l m : Int) (w : World) :
    Calls Try.prog 14 #[.int .i64 n, .int .i64 l, .int .i64 m] w fun e w' => e = .returned (.tuple #[.int .i64 (phV n l m), .int .i64 (phC n l m)]) ∧ w = w' := by
  cases hf : phFine n l
  · rw [phV_no m hf, phC_no m hf]
    have HF := Lib.hid hf
    have C := Lib.hid (fun W => c_rleft n l W)
    rw [phLeft_no hf] at C
    clear hf
    go_enter Try.func14, Try.ntmps14
    go_wp2_with (first | (go_at_call 11; refine (C.out _).mono ?_; rintro e w' ⟨rfl, rfl⟩) | (go_at_call 9; refine (c_rfine _ _ _).mono ?_; rintro e w' ⟨rfl, rfl⟩; rw [HF.out]))
    all_goals
      go_ret2
      exact ⟨rfl, rfl⟩
  · have HV := Lib.hid (phV_of m hf)
    have HC := Lib.hid (phC_of m hf)
    obtain ⟨h0, h1, h2, h3⟩ := (phFine_iff n l).1 hf
    have HF := Lib.hid hf
    have C := Lib.hid (fun W => c_rleft n l W)
    rw [phLeft_of hf] at C
    clear hf
    go_enter Try.func14, Try.ntmps14
    go_wp2_with (first | (go_at_call 11; refine (C.out _).mono ?_; rintro e w' ⟨rfl, rfl⟩) | (go_at_call 9; refine (c_rfine _ _ _).mono ?_; rintro e w' ⟨rfl, rfl⟩; rw [HF.out]))
    all_goals
      go_ret2
      exact ⟨ret_int2 (by rw [HV.out]; omega) (by rw [HC.out]; omega), rfl⟩

end Go.Proofs.Yteckflbnfpmnkaa
