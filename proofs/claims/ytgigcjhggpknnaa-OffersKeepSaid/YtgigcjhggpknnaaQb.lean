/- The contract of queue's First, of a queue that has numbers. -/
import Derived.Test.YtgigcjhggpknnaaQa
namespace Go.Proofs.Ytgigcjhggpknnaa
open Go.RowKit
set_option maxRecDepth 100000 in
set_option maxHeartbeats 400000 in
theorem c_first_ok {w : World} {b : Nat} {Vs : List (List Int)} {fr : Nat} (h : PA w b Vs fr) (q : Nat) (x : Int) (l : List Int) (hq : Vs[q]? = some (x :: l)) :
    Calls Try.prog 41 #[.pointer (some ⟨b, 0, none⟩), .int .i64 q] w fun e w' => e = .returned (.tuple #[.int .i64 x, .int .i64 0]) ∧ Drew w w' := by
  obtain ⟨L, P, C, V, h⟩ := h
  have hql := (List.getElem?_eq_some_iff.1 hq).1
  have CL := Lib.hid (c_look h.H (by have := h.q1; omega) q (by omega) (by omega))
  have hv := h.val q _ hq
  have hq65 : q < 65 := by omega
  have hcl := h.clen q hq65
  obtain ⟨p, c, hC⟩ : ∃ p c, C q = p :: c := List.exists_cons_of_length_pos (by rw [h.S.len q hq65, hv.1]; simp)
  have c0 := h.H.l0 q _ (h.S.line q hq65)
  have c2 := h.H.l2 q _ (h.S.line q hq65)
  have hk := h.S.lk q hq65
  rw [hC, hv.1] at hk
  have hr := h.S.rng q hq65 p (by rw [hC]; simp)
  have p0 := h.H.p0 p _ hk.1
  have hp := hr.2
  rw [hC] at c0 c2 hcl
  rw [List.length_cons] at hcl
  simp only [lnOf, List.length_cons, List.headD_cons] at c0 c2 p0
  have hz : (((c.length + 1 : Nat) : Int) == 0) = false := beq_eq_false_iff_ne.2 (by omega)
  have hp2 : (p : Int) < 1025 := by omega
  have hp0 : 0 ≤ (p : Int) := by omega
  have hq2 : (q : Int) < 65 := by omega
  have hq0 : 0 ≤ (q : Int) := by omega
  clear h hq hv hC hk
  go_enter Try.func41, Try.ntmps41
  go_wp2_with (go_at_call 46; refine Calls.mono CL.out ?_; rintro e w' ⟨rfl, rfl⟩)
  go_region
  go_wp2
  go_ret2
  exact ⟨rfl, Drew.of _ _⟩
end Go.Proofs.Ytgigcjhggpknnaa
