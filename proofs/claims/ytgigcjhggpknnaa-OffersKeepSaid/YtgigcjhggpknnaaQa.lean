/- queue's pool as lists of numbers and a room: the contracts of Push and First. -/
import Derived.Test.YtgigcjhggpknnaaQp
import Derived.Test.YtgigcjhggpknnaaNb
namespace Go.Proofs.Ytgigcjhggpknnaa
open Go.RowKit

def sumlen (Vs : List (List Int)) : Nat := (Vs.map List.length).sum
theorem sumlen_set : ∀ (Vs : List (List Int)) (q : Nat) (l r : List Int), Vs[q]? = some l → sumlen (Vs.set q r) + l.length = sumlen Vs + r.length
  | [], q, l, r, h => by simp at h
  | a :: Vs, 0, l, r, h => by
    obtain rfl : a = l := by simpa using h
    simp [sumlen]
    omega
  | a :: Vs, q + 1, l, r, h => by
    have := sumlen_set Vs q l r (by simpa using h)
    simp [sumlen] at this ⊢
    omega
theorem sumlen_le (Vs : List (List Int)) (q : Nat) (l : List Int) (h : Vs[q]? = some l) : l.length ≤ sumlen Vs := by
  have := sumlen_set Vs q l [] h
  simp at this
  omega

/-- The pool at block b has the queues Vs and room for fr more. -/
structure PX (w : World) (b : Nat) (Vs : List (List Int)) (fr : Nat) (L : List Ln) (P : List Pc) (C : Ch) (V : Vl) : Prop where
  H : PW w b (Vs.length : Nat) L P
  S : QPS L P C V
  vals : ∀ l, l < 64 → V l = Vs[l]?.getD []
  spare : (C 64).length = fr
  q1 : 1 ≤ Vs.length
  q2 : Vs.length ≤ 64
  few : fr + sumlen Vs ≤ 1024
def PA (w : World) (b : Nat) (Vs : List (List Int)) (fr : Nat) : Prop := ∃ L P C V, PX w b Vs fr L P C V
theorem PA.only {s : Nat → Prop} {w w' : World} {b : Nat} {Vs : List (List Int)} {fr : Nat} (h : PA w b Vs fr) (o : Only s w w') (hs : ¬ s b) : PA w' b Vs fr := by
  obtain ⟨L, P, C, V, h⟩ := h
  exact ⟨L, P, C, V, h.H.only o hs, h.S, h.vals, h.spare, h.q1, h.q2, h.few⟩
theorem PA.below {w w' : World} {b : Nat} {Vs : List (List Int)} {fr : Nat} (h : PA w b Vs fr) (o : Below w.heap.size w w') : PA w' b Vs fr := h.only (s := fun _ => False) (Only.of_below o) fun k => k
theorem PA.lt {w : World} {b : Nat} {Vs : List (List Int)} {fr : Nat} (h : PA w b Vs fr) : b < w.heap.size := by
  obtain ⟨L, P, C, V, h⟩ := h
  exact h.H.blk.lt
theorem PA.q2 {w : World} {b : Nat} {Vs : List (List Int)} {fr : Nat} (h : PA w b Vs fr) : Vs.length ≤ 64 := by
  obtain ⟨L, P, C, V, h⟩ := h
  exact h.q2
theorem PA.q1 {w : World} {b : Nat} {Vs : List (List Int)} {fr : Nat} (h : PA w b Vs fr) : 1 ≤ Vs.length := by
  obtain ⟨L, P, C, V, h⟩ := h
  exact h.q1
theorem PA.few {w : World} {b : Nat} {Vs : List (List Int)} {fr : Nat} (h : PA w b Vs fr) : fr + sumlen Vs ≤ 1024 := by
  obtain ⟨L, P, C, V, h⟩ := h
  exact h.few
section
variable {w : World} {b : Nat} {Vs : List (List Int)} {fr : Nat} {L : List Ln} {P : List Pc} {C : Ch} {V : Vl}
theorem PX.clen (h : PX w b Vs fr L P C V) (l : Nat) (hl : l < 65) : (C l).length ≤ 1024 := by
  have hf := h.few
  by_cases e : l = 64
  · subst e
    rw [h.spare]
    omega
  · rw [h.S.len l hl, h.vals l (by omega)]
    rcases hv : Vs[l]? with _ | v
    · simp
    · have := sumlen_le Vs l v hv
      simp
      omega
theorem PX.val (h : PX w b Vs fr L P C V) (q : Nat) (l : List Int) (hl : Vs[q]? = some l) : V q = l ∧ q < 64 := by
  have := (List.getElem?_eq_some_iff.1 hl).1
  have h2 := h.q2
  exact ⟨by rw [h.vals q (by omega), hl]; rfl, by omega⟩
/-- Another list in a queue. -/
theorem vals_set (h : ∀ l, l < 64 → V l = Vs[l]?.getD []) (q : Nat) (hq : q < Vs.length) (r vs : List Int) : ∀ l, l < 64 → upd (upd V 64 vs) q r l = (Vs.set q r)[l]?.getD [] := by
  intro l hl
  by_cases e : l = q
  · subst e
    rw [upd_same, List.getElem?_set_self hq]
    rfl
  · rw [upd_ne _ _ e, upd_ne _ _ (by omega), List.getElem?_set_ne (Ne.symm e)]
    exact h l hl
theorem vals_set' (h : ∀ l, l < 64 → V l = Vs[l]?.getD []) (q : Nat) (hq : q < Vs.length) (r vs : List Int) : ∀ l, l < 64 → upd (upd V q r) 64 vs l = (Vs.set q r)[l]?.getD [] := by
  intro l hl
  rw [upd_ne _ _ (show l ≠ 64 by omega)]
  by_cases e : l = q
  · subst e
    rw [upd_same, List.getElem?_set_self hq]
    rfl
  · rw [upd_ne _ _ e, List.getElem?_set_ne (Ne.symm e)]
    exact h l hl
end

/-- A pool with other queues, by another one's writing it alone. -/
def PPost (w : World) (b : Nat) (Vs : List (List Int)) (fr : Nat) (w' : World) : Prop := PA w' b Vs fr ∧ Only (· = b) w w'

set_option maxHeartbeats 400000 in
theorem c_push_range {w : World} {b : Nat} {Vs : List (List Int)} {fr : Nat} (h : PA w b Vs fr) (q x : Int) (hq : q < 0 ∨ (Vs.length : Int) ≤ q) :
    Calls Try.prog 49 #[.pointer (some ⟨b, 0, none⟩), .int .i64 q, .int .i64 x] w fun e w' => e = .returned (.int .i64 8) ∧ w = w' := by
  obtain ⟨L, P, C, V, h⟩ := h
  have CL := Lib.hid (c_look_no h.H (by have := h.q1; omega) q hq)
  clear h hq
  go_enter Try.func49, Try.ntmps49
  go_wp2_with (go_at_call 46; refine Calls.mono CL.out ?_; rintro e w' ⟨rfl, rfl⟩)
  go_ret
  exact ⟨rfl, rfl⟩

set_option maxHeartbeats 400000 in
theorem c_push_full {w : World} {b : Nat} {Vs : List (List Int)} (h : PA w b Vs 0) (q : Nat) (x : Int) (hq : q < Vs.length) :
    Calls Try.prog 49 #[.pointer (some ⟨b, 0, none⟩), .int .i64 q, .int .i64 x] w fun e w' => e = .returned (.int .i64 10) ∧ w = w' := by
  obtain ⟨L, P, C, V, h⟩ := h
  have CL := Lib.hid (c_look h.H (by have := h.q1; omega) q (by omega) (by omega))
  have c2 := h.H.l2 64 _ (h.S.line 64 (by omega))
  simp only [lnOf, h.spare] at c2
  clear h hq
  go_enter Try.func49, Try.ntmps49
  go_wp2_with (go_at_call 46; refine Calls.mono CL.out ?_; rintro e w' ⟨rfl, rfl⟩)
  go_ret
  exact ⟨rfl, rfl⟩

set_option maxHeartbeats 400000 in
theorem c_push_ok {w : World} {b : Nat} {Vs : List (List Int)} {fr : Nat} (h : PA w b Vs (fr + 1)) (q : Nat) (x : Int) (l : List Int) (hq : Vs[q]? = some l) :
    Calls Try.prog 49 #[.pointer (some ⟨b, 0, none⟩), .int .i64 q, .int .i64 x] w fun e w' => e = .returned (.int .i64 0) ∧ PPost w b (Vs.set q (l ++ [x])) fr w' := by
  obtain ⟨L, P, C, V, h⟩ := h
  have hql := (List.getElem?_eq_some_iff.1 hq).1
  have CL := Lib.hid (c_look h.H (by have := h.q1; omega) q (by omega) (by omega))
  have c2 := h.H.l2 64 _ (h.S.line 64 (by omega))
  have hv := h.val q l hq
  have hq64 := hv.2
  obtain ⟨p, c, hC⟩ : ∃ p c, C 64 = p :: c := List.exists_cons_of_length_pos (by rw [h.spare]; omega)
  obtain ⟨v, vs, hV⟩ : ∃ v vs, V 64 = v :: vs := List.exists_cons_of_length_pos (by rw [← h.S.len 64 (by omega), h.spare]; omega)
  have hcl := h.clen q (by omega)
  have hcs := h.clen 64 (by omega)
  have hfew := h.few
  simp only [lnOf, h.spare] at c2
  have cU := c_unlinkS0 h.H h.S 64 (by omega) p c v vs hC hV (by omega)
  rw [show ((64 : Nat) : Int) = 64 from rfl] at cU
  have CU := Lib.hid cU
  clear cU
  have hno := (h.S.unlink0 64 (by omega) p c v vs hC hV).2
  have hpr := h.S.rng 64 (by omega) p (by rw [hC]; simp)
  have hsp := h.spare
  rw [hC, List.length_cons] at hsp
  have hz : (((fr + 1 : Nat) : Int) == 0) = false := beq_eq_false_iff_ne.2 (by omega)
  have HX := Lib.hid h
  have HV := Lib.hid hv
  have HNO := Lib.hid hno
  have HQ := Lib.hid hq
  have HSP := Lib.hid hsp
  have hqn : q ≠ 64 := by omega
  have hq65 : q < 65 := by omega
  clear h hq hv hC hV hno hsp
  go_enter Try.func49, Try.ntmps49
  go_wp2_with (first | (go_at_call 46; refine Calls.mono CL.out ?_; rintro e w' ⟨rfl, rfl⟩) | (go_at_call 53; refine Calls.mono CU.out ?_; rintro e w' ⟨rfl, L1, P1, H1, S1, o1⟩) | (go_at_call 52; refine (c_linkS H1 S1 q p x (by omega) HNO.out hpr.1 hpr.2 (by rw [upd_ne _ _ hqn]; omega)).mono ?_; rintro e w' ⟨rfl, L2, P2, H2, S2, o2⟩))
  go_ret
  refine ⟨rfl, ⟨L2, P2, _, _, by rw [List.length_set]; exact H2, S2, ?_, ?_, by rw [List.length_set]; exact HX.out.q1, by rw [List.length_set]; exact HX.out.q2, ?_⟩, o1.trans o2⟩
  · rw [upd_ne _ _ hqn, HV.out.1]
    exact vals_set HX.out.vals q hql _ _
  · rw [upd_ne _ _ (Ne.symm hqn), upd_same]
    have := HSP.out
    omega
  · have := sumlen_set Vs q l (l ++ [x]) HQ.out
    rw [List.length_append, List.length_singleton] at this
    omega

set_option maxHeartbeats 400000 in
theorem c_first_range {w : World} {b : Nat} {Vs : List (List Int)} {fr : Nat} (h : PA w b Vs fr) (q : Int) (hq : q < 0 ∨ (Vs.length : Int) ≤ q) :
    Calls Try.prog 41 #[.pointer (some ⟨b, 0, none⟩), .int .i64 q] w fun e w' => e = .returned (.tuple #[.int .i64 0, .int .i64 8]) ∧ Drew w w' := by
  obtain ⟨L, P, C, V, h⟩ := h
  have CL := Lib.hid (c_look_no h.H (by have := h.q1; omega) q hq)
  clear h hq
  go_enter Try.func41, Try.ntmps41
  go_wp2_with (go_at_call 46; refine Calls.mono CL.out ?_; rintro e w' ⟨rfl, rfl⟩)
  go_ret2
  exact ⟨rfl, Drew.refl _⟩

set_option maxHeartbeats 400000 in
theorem c_first_none {w : World} {b : Nat} {Vs : List (List Int)} {fr : Nat} (h : PA w b Vs fr) (q : Nat) (hq : Vs[q]? = some []) :
    Calls Try.prog 41 #[.pointer (some ⟨b, 0, none⟩), .int .i64 q] w fun e w' => e = .returned (.tuple #[.int .i64 0, .int .i64 11]) ∧ Drew w w' := by
  obtain ⟨L, P, C, V, h⟩ := h
  have hql := (List.getElem?_eq_some_iff.1 hq).1
  have CL := Lib.hid (c_look h.H (by have := h.q1; omega) q (by omega) (by omega))
  have hv := h.val q _ hq
  have hq65 : q < 65 := by omega
  have c2 := h.H.l2 q _ (h.S.line q (by omega))
  have hn : C q = [] := List.eq_nil_of_length_eq_zero (by rw [h.S.len q (by omega), hv.1]; rfl)
  rw [hn] at c2
  simp only [lnOf, List.length_nil] at c2
  clear h hq hv hn
  go_enter Try.func41, Try.ntmps41
  go_wp2_with (go_at_call 46; refine Calls.mono CL.out ?_; rintro e w' ⟨rfl, rfl⟩)
  go_ret2
  exact ⟨rfl, Drew.refl _⟩
end Go.Proofs.Ytgigcjhggpknnaa
