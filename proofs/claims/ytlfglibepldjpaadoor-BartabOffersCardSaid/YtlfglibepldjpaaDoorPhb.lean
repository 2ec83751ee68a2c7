/- The contracts of package phase's functions: each gives the plain function's value and leaves memory as it was. -/
import Derived.Test.YtlfglibepldjpaaDoorRows
import Derived.Test.YtlfglibepldjpaaDoorK
import Derived.Test.YtlfglibepldjpaaDoorPha
import Derived.WalkKit
import Derived.WalkSpells
import Derived.WalkLawsBesides
import Derived.BigQuiet
import Derived.Deep.QuietTactic
import Derived.Lib.Hide
import Derived.IntWalk
import Derived.LoopTactic
namespace Go.Proofs.YtlfglibepldjpaaDoor
open Go.RowKit

set_option maxHeartbeats 400000 in
theorem c_phfine (n l : Int) (w : World) :
    Calls Tryd.prog 65 #[.int .i64 n, .int .i64 l] w fun e w' => e = .returned (.bool (phFine n l)) ∧ w = w' := by
  cases hf : phFine n l
  · have H := phFine_no n l hf
    clear hf
    rcases H with h0 | ⟨h0, h1⟩ | ⟨h0, h1, h2⟩ | ⟨h0, h1, h2, h3⟩
    all_goals
      go_enter Tryd.func65, Tryd.ntmps65
      go_wp2
      go_ret
      exact ⟨ret_bool (by first | rfl | (rw [decide_eq_false_iff_not]; omega)), rfl⟩
  · obtain ⟨h0, h1, h2, h3⟩ := (phFine_iff n l).1 hf
    clear hf
    go_enter Tryd.func65, Tryd.ntmps65
    go_wp2
    go_ret
    exact ⟨ret_bool (by first | rfl | (rw [decide_eq_true_iff]; omega)), rfl⟩

set_option maxHeartbeats 400000 in
theorem c_phnext (n l : Int) (w : World) :
    Calls Tryd.prog 84 #[.int .i64 n, .int .i64 l] w fun e w' => e = .returned (.tuple #[.int .i64 (phNext n l), .int .i64 (phErr n l)]) ∧ w = w' := by
  cases hf : phFine n l
  · rw [phNext_no hf, phErr_no hf]
    have HF := Lib.hid hf
    clear hf
    go_enter Tryd.func84, Tryd.ntmps84
    go_wp2_with (go_at_call 65; refine (c_phfine _ _ _).mono ?_; rintro e w' ⟨rfl, rfl⟩; rw [HF.out])
    go_ret2
    exact ⟨rfl, rfl⟩
  · by_cases he : n = l
    · rw [phNext_end hf he, phErr_end hf he]
      have hb : (n == l) = true := beq_iff_eq.2 he
      clear he
      have HF := Lib.hid hf
      clear hf
      go_enter Tryd.func84, Tryd.ntmps84
      go_wp2_with (go_at_call 65; refine (c_phfine _ _ _).mono ?_; rintro e w' ⟨rfl, rfl⟩; rw [HF.out])
      go_ret2
      exact ⟨rfl, rfl⟩
    · rw [phNext_on hf he, phErr_on hf he]
      obtain ⟨h0, h1, h2, h3⟩ := (phFine_iff n l).1 hf
      have hb : (n == l) = false := beq_eq_false_iff_ne.2 he
      have HF := Lib.hid hf
      clear hf
      go_enter Tryd.func84, Tryd.ntmps84
      go_wp2_with (go_at_call 65; refine (c_phfine _ _ _).mono ?_; rintro e w' ⟨rfl, rfl⟩; rw [HF.out])
      go_ret2
      exact ⟨rfl, rfl⟩

set_option maxHeartbeats 400000 in
theorem c_phleft (n l : Int) (w : World) :
    Calls Tryd.prog 70 #[.int .i64 n, .int .i64 l] w fun e w' => e = .returned (.int .i64 (phLeft n l)) ∧ w = w' := by
  cases hf : phFine n l
  · rw [phLeft_no hf]
    have HF := Lib.hid hf
    clear hf
    go_enter Tryd.func70, Tryd.ntmps70
    go_wp2_with (go_at_call 65; refine (c_phfine _ _ _).mono ?_; rintro e w' ⟨rfl, rfl⟩; rw [HF.out])
    go_ret
    exact ⟨rfl, rfl⟩
  · rw [phLeft_of hf]
    obtain ⟨h0, h1, h2, h3⟩ := (phFine_iff n l).1 hf
    have HF := Lib.hid hf
    clear hf
    go_enter Tryd.func70, Tryd.ntmps70
    go_wp2_with (go_at_call 65; refine (c_phfine _ _ _).mono ?_; rintro e w' ⟨rfl, rfl⟩; rw [HF.out])
    go_ret
    exact ⟨rfl, rfl⟩

end Go.Proofs.YtlfglibepldjpaaDoor
