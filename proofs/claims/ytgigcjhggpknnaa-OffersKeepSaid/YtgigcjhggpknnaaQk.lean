/- The contract of queue's Free. -/
import Derived.Test.YtgigcjhggpknnaaQa
namespace Go.Proofs.Ytgigcjhggpknnaa
open Go.RowKit

set_option maxHeartbeats 400000 in
theorem c_free {w : World} {b : Nat} {Vs : List (List Int)} {fr : Nat} (h : PA w b Vs fr) :
    Calls Try.prog 38 #[.pointer (some ⟨b, 0, none⟩)] w fun e w' => e = .returned (.int .i64 fr) ∧ w = w' := by
  obtain ⟨L, P, C, V, h⟩ := h
  have c2 := h.H.l2 64 _ (h.S.line 64 (by omega))
  simp only [lnOf, h.spare] at c2
  clear h
  go_enter Try.func38, Try.ntmps38
  go_wp2
  go_ret
  exact ⟨rfl, rfl⟩
end Go.Proofs.Ytgigcjhggpknnaa
