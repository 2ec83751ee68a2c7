/- The document's Fine of layer 20. -/
import Derived.Test.YtlfglibepldjpaaDoorPhb
namespace Go.Proofs.YtlfglibepldjpaaDoor
open Go.RowKit
set_option maxHeartbeats 400000 in
theorem c_rfine (n l : Int) (w : World) :
    Calls Tryd.prog 94 #[.int .i64 n, .int .i64 l] w fun e w' => e = .returned (.bool (phFine n l)) ∧ w = w' := by
  cases hf : phFine n l
  · have H := phFine_no n l hf
    clear hf
    rcases H with h0 | ⟨h0, h1⟩ | ⟨h0, h1, h2⟩ | ⟨h0, h1, h2, h3⟩
    all_goals
      go_enter Tryd.func94, Tryd.ntmps94
      go_wp2
      go_ret
      exact ⟨ret_bool (by first | rfl | (rw [decide_eq_false_iff_not]; omega)), rfl⟩
  · obtain ⟨h0, h1, h2, h3⟩ := (phFine_iff n l).1 hf
    clear hf
    go_enter Tryd.func94, Tryd.ntmps94
    go_wp2
    go_ret
    exact ⟨ret_bool (by first | rfl | (rw [decide_eq_true_iff]; omega)), rfl⟩
end Go.Proofs.YtlfglibepldjpaaDoor
