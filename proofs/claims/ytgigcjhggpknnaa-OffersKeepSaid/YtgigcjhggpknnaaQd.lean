/- The contracts of queue's release and Pop. -/
import Derived.Test.YtgigcjhggpknnaaQb
namespace Go.Proofs.Ytgigcjhggpknnaa
open Go.RowKit

set_option maxHeartbeats 400000 in
theorem c_rel {w : World} {b : Nat} {Vs : List (List Int)} {fr : Nat} {L : List Ln} {P : List Pc} {C : Ch} {V : Vl} (h : PX w b Vs fr L P C V) (q : Nat) (l r : List Int) (hq : Vs[q]? = some l) (bf : Int) (p : Nat) (c' : List Nat)
    (cU : Calls Try.prog 53 #[.pointer (some ⟨b, 0, none⟩), .int .i64 q, .int .i64 bf] w fun e w' => e = .returned (.int .i64 p) ∧ SPost w b (Vs.length : Nat) (upd C q c') (upd V q r) w')
    (hno : ∀ m, m < 65 → p ∉ upd C q c' m) (h1 : 1 ≤ p) (h2 : p < 1025) (hlen : r.length + 1 = l.length) :
    Calls Try.prog 42 #[.pointer (some ⟨b, 0, none⟩), .int .i64 q, .int .i64 bf] w fun e w' => e = .returned (.tuple #[]) ∧ PPost w b (Vs.set q r) (fr + 1) w' := by
  have hql := (List.getElem?_eq_some_iff.1 hq).1
  have hv := h.val q l hq
  have hq64 := hv.2
  have hcs := h.clen 64 (by omega)
  have hfew := h.few
  have hsum := sumlen_set Vs q l r hq
  have CU := Lib.hid cU
  have HX := Lib.hid h
  have HNO := Lib.hid hno
  have HS := Lib.hid hsum
  have HLN := Lib.hid hlen
  have hqn : (64 : Nat) ≠ q := by omega
  clear h hq hv hno hsum cU hlen
  go_enter Try.func42, Try.ntmps42
  go_wp2_with fail
  refine Calls.mono CU.out ?_
  rintro e w1 ⟨rfl, L1, P1, H1, S1, o1⟩
  have cL := c_linkS H1 S1 64 p 0 (by omega) HNO.out h1 h2 (by rw [upd_ne _ _ hqn]; omega)
  rw [show ((64 : Nat) : Int) = 64 from rfl] at cL
  have CL := Lib.hid cL
  clear cL
  go_wp2_with fail
  refine Calls.mono CL.out ?_
  rintro e w2 ⟨rfl, L2, P2, H2, S2, o2⟩
  go_wp2
  go_end0
  refine ⟨rfl, ⟨L2, P2, _, _, by rw [List.length_set]; exact H2, S2, ?_, ?_, by rw [List.length_set]; exact HX.out.q1, by rw [List.length_set]; exact HX.out.q2, ?_⟩, o1.trans o2⟩
  · exact vals_set' HX.out.vals q hql _ _
  · rw [upd_same, upd_ne _ _ hqn, List.length_append, HX.out.spare]
    rfl
  · have := HS.out
    have := HLN.out
    omega

set_option maxHeartbeats 400000 in
theorem c_pop_range {w : World} {b : Nat} {Vs : List (List Int)} {fr : Nat} (h : PA w b Vs fr) (q : Int) (hq : q < 0 ∨ (Vs.length : Int) ≤ q) :
    Calls Try.prog 26 #[.pointer (some ⟨b, 0, none⟩), .int .i64 q] w fun e w' => e = .returned (.tuple #[.int .i64 0, .int .i64 8]) ∧ Drew w w' := by
  have C := Lib.hid (c_first_range h q hq)
  clear h hq
  go_enter Try.func26, Try.ntmps26
  go_wp2_with (go_at_call 41; refine Calls.mono C.out ?_; rintro e w' ⟨rfl, n, rfl⟩)
  go_ret2
  exact ⟨rfl, Drew.of _ _⟩

set_option maxHeartbeats 400000 in
theorem c_pop_none {w : World} {b : Nat} {Vs : List (List Int)} {fr : Nat} (h : PA w b Vs fr) (q : Nat) (hq : Vs[q]? = some []) :
    Calls Try.prog 26 #[.pointer (some ⟨b, 0, none⟩), .int .i64 q] w fun e w' => e = .returned (.tuple #[.int .i64 0, .int .i64 11]) ∧ Drew w w' := by
  have C := Lib.hid (c_first_none h q hq)
  clear h hq
  go_enter Try.func26, Try.ntmps26
  go_wp2_with (go_at_call 41; refine Calls.mono C.out ?_; rintro e w' ⟨rfl, n, rfl⟩)
  go_ret2
  exact ⟨rfl, Drew.of _ _⟩

theorem PX.drewN {w : World} {b : Nat} {Vs : List (List Int)} {fr : Nat} {L : List Ln} {P : List Pc} {C : Ch} {V : Vl} (h : PX w b Vs fr L P C V) (n : Nat) : PX (w.drewN n) b Vs fr L P C V := ⟨h.H.drewN n, h.S, h.vals, h.spare, h.q1, h.q2, h.few⟩
set_option maxHeartbeats 400000 in
theorem c_pop_ok {w : World} {b : Nat} {Vs : List (List Int)} {fr : Nat} (h : PA w b Vs fr) (q : Nat) (x : Int) (l : List Int) (hq : Vs[q]? = some (x :: l)) :
    Calls Try.prog 26 #[.pointer (some ⟨b, 0, none⟩), .int .i64 q] w fun e w' => e = .returned (.tuple #[.int .i64 x, .int .i64 0]) ∧ PPost w b (Vs.set q l) (fr + 1) w' := by
  have CF := Lib.hid (c_first_ok h q x l hq)
  obtain ⟨L, P, C, V, h⟩ := h
  have hv := h.val q _ hq
  have hq65 : q < 65 := by omega
  have hcl := h.clen q hq65
  obtain ⟨p, c, hC⟩ : ∃ p c, C q = p :: c := List.exists_cons_of_length_pos (by rw [h.S.len q hq65, hv.1]; simp)
  have hr := h.S.rng q hq65 p (by rw [hC]; simp)
  have hno := (h.S.unlink0 q hq65 p c x l hC hv.1).2
  have CR := Lib.hid (fun n => c_rel (h.drewN n) q _ l hq 0 p c (c_unlinkS0 (h.drewN n).H h.S q hq65 p c x l hC hv.1 (by omega)) hno hr.1 hr.2 rfl)
  clear h hq hv hC hno hcl
  go_enter Try.func26, Try.ntmps26
  go_wp2_with (first | (go_at_call 41; refine Calls.mono CF.out ?_; rintro e w' ⟨rfl, n, rfl⟩) | (go_at_call 42; refine Calls.mono (CR.out _) ?_; rintro e w2 ⟨rfl, hP, ho⟩))
  go_ret2
  exact ⟨rfl, hP, ((Only.refl _ w).drewN _).trans ho⟩
end Go.Proofs.Ytgigcjhggpknnaa
