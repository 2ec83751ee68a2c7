/- queue's pool as lists: the contracts of link, unlink and release over them. -/
import Derived.Test.YtgigcjhggpknnaaQc
namespace Go.Proofs.Ytgigcjhggpknnaa
open Go.RowKit

theorem getLastD_cons2 (p a : Nat) (c : List Nat) : (p :: a :: c).getLastD 0 = (a :: c).getLastD 0 := by simp [List.getLastD_eq_getLast?]
theorem lnOf_tail (p : Nat) (c : List Nat) (hn : (p :: c).Nodup) : (((c.headD 0 : Nat) : Int), (if ((p : Nat) : Int) = (((p :: c).getLastD 0 : Nat) : Int) then (0 : Int) else (((p :: c).getLastD 0 : Nat) : Int)), ((c.length : Nat) : Int)) = lnOf c := by
  rcases c with _ | ⟨a, c⟩
  · simp [lnOf]
  · have hne : ¬ ((p : Nat) : Int) = (((p :: a :: c).getLastD 0 : Nat) : Int) := by
      intro e
      have e : p = (p :: a :: c).getLastD 0 := by omega
      rw [getLastD_cons2] at e
      have : p ∈ a :: c := by
        rw [e]
        rw [List.getLastD_eq_getLast?]
        rw [List.getLast?_eq_some_getLast (by simp)]
        exact List.getLast_mem (by simp)
      exact (List.nodup_cons.1 hn).1 this
    rw [if_neg hne, getLastD_cons2]
    rfl
theorem last_app (c1 : List Nat) (b : Nat) (c2 : List Nat) : (c1 ++ b :: c2).getLastD 0 = (b :: c2).getLastD 0 := by
  simp [List.getLastD_eq_getLast?, List.getLast?_append]
  rw [List.getLast?_eq_some_getLast (by simp)]
  simp
theorem lnOf_out (c1 : List Nat) (b p : Nat) (c2 : List Nat) (hn : (c1 ++ b :: p :: c2).Nodup) :
    ((((c1 ++ b :: p :: c2).headD 0 : Nat) : Int), (if ((p : Nat) : Int) = (((c1 ++ b :: p :: c2).getLastD 0 : Nat) : Int) then ((b : Nat) : Int) else (((c1 ++ b :: p :: c2).getLastD 0 : Nat) : Int)), (((c1 ++ b :: c2).length : Nat) : Int)) = lnOf (c1 ++ b :: c2) := by
  have hh : (c1 ++ b :: p :: c2).headD 0 = (c1 ++ b :: c2).headD 0 := by cases c1 <;> rfl
  have hn2 : (p :: c2).Nodup := (List.nodup_cons.1 (List.nodup_append.1 hn).2.1).2
  rw [hh, last_app, getLastD_cons2]
  unfold lnOf
  rw [last_app]
  rcases c2 with _ | ⟨a, c2⟩
  · simp
  · have hne : ¬ ((p : Nat) : Int) = (((p :: a :: c2).getLastD 0 : Nat) : Int) := by
      intro e
      have e : p = (p :: a :: c2).getLastD 0 := by omega
      rw [getLastD_cons2] at e
      have : p ∈ a :: c2 := by
        rw [e]
        rw [List.getLastD_eq_getLast?]
        rw [List.getLast?_eq_some_getLast (by simp)]
        exact List.getLast_mem (by simp)
      exact (List.nodup_cons.1 hn2).1 this
    rw [if_neg hne, getLastD_cons2, getLastD_cons2]

/-- What became of the pool. -/
def SPost (w : World) (b : Nat) (q : Int) (C : Ch) (V : Vl) (w' : World) : Prop := ∃ L P, PW w' b q L P ∧ QPS L P C V ∧ Only (· = b) w w'

theorem c_linkS {w : World} {b : Nat} {q : Int} {L : List Ln} {P : List Pc} {C : Ch} {V : Vl} (H : PW w b q L P) (S : QPS L P C V) (l p : Nat) (x : Int) (hl : l < 65) (hp : ∀ m, m < 65 → p ∉ C m) (h1 : 1 ≤ p) (h2 : p < 1025) (hf : (C l).length < 5000) :
    Calls Try.prog 52 #[.pointer (some ⟨b, 0, none⟩), .int .i64 l, .int .i64 p, .int .i64 x] w fun e w' => e = .returned (.tuple #[]) ∧ SPost w b q (upd C l (C l ++ [p])) (upd V l (V l ++ [x])) w' := by
  have h0 := S.line l hl
  by_cases hC : C l = []
  · rw [hC] at h0
    refine (c_link0 H l p x hl h2 0 0 h0).mono ?_
    rintro e w' ⟨rfl, H', ho⟩
    exact ⟨rfl, _, _, H', S.link0 l hl p x hp h1 h2 H.lp hC, ho⟩
  · obtain ⟨z, hz⟩ : ∃ z, (C l).getLast? = some z := ⟨_, List.getLast?_eq_some_getLast hC⟩
    have hzm : z ∈ C l := List.mem_of_getLast? hz
    have hzr := S.rng l hl z hzm
    obtain ⟨⟨y, n⟩, hy⟩ : ∃ s, P[z]? = some s := ⟨P[z]'(by rw [H.lp]; exact hzr.2), List.getElem?_eq_getElem _⟩
    have hzp : p ≠ z := fun e => hp l hl (e ▸ hzm)
    have hpos : 0 < (C l).length := List.length_pos_of_mem hzm
    have h0' : L[l]? = some ((((C l).headD 0 : Nat) : Int), (z : Int), ((C l).length : Int)) := by
      rw [h0]
      unfold lnOf
      rw [List.getLastD_eq_getLast?, hz]
      rfl
    refine (c_link1 H l p z x hl h2 _ _ h0' hpos hf hzr.2 hzp y n hy).mono ?_
    rintro e w' ⟨rfl, H', ho⟩
    exact ⟨rfl, _, _, H', S.link1 l hl p x hp h1 h2 H.lp z y n hz hy, ho⟩

theorem c_unlinkS0 {w : World} {b : Nat} {q : Int} {L : List Ln} {P : List Pc} {C : Ch} {V : Vl} (H : PW w b q L P) (S : QPS L P C V) (l : Nat) (hl : l < 65) (p : Nat) (c : List Nat) (v : Int) (vs : List Int) (hC : C l = p :: c) (hV : V l = v :: vs) (hf : (C l).length < 5000) :
    Calls Try.prog 53 #[.pointer (some ⟨b, 0, none⟩), .int .i64 l, .int .i64 0] w fun e w' => e = .returned (.int .i64 p) ∧ SPost w b q (upd C l c) (upd V l vs) w' := by
  have h0 := S.line l hl
  have hlk := S.lk l hl
  have hnd := S.nd l hl
  rw [hC] at h0 hnd hf
  rw [hC, hV] at hlk
  have hr := S.rng l hl p (by rw [hC]; simp)
  have hln := lnOf_tail p c hnd
  simp only [List.length_cons] at hf
  have h0' : L[l]? = some ((p : Int), (((p :: c).getLastD 0 : Nat) : Int), (c.length : Int) + 1) := by
    rw [h0]
    unfold lnOf
    simp
  refine (c_unlink0 H l p hl hr.2 _ c.length h0' (by omega) v _ hlk.1).mono ?_
  rintro e w' ⟨rfl, H', ho⟩
  rw [hln] at H'
  exact ⟨rfl, _, _, H', (S.unlink0 l hl p c v vs hC hV).1, ho⟩

theorem c_unlinkS1 {w : World} {b : Nat} {q : Int} {L : List Ln} {P : List Pc} {C : Ch} {V : Vl} (H : PW w b q L P) (S : QPS L P C V) (l : Nat) (hl : l < 65) (c1 : List Nat) (r p : Nat) (c2 : List Nat) (v1 : List Int) (u v : Int) (v2 : List Int) (hC : C l = c1 ++ r :: p :: c2) (hV : V l = v1 ++ u :: v :: v2) (he : c1.length = v1.length) (hf : (C l).length < 5000) :
    Calls Try.prog 53 #[.pointer (some ⟨b, 0, none⟩), .int .i64 l, .int .i64 r] w fun e w' => e = .returned (.int .i64 p) ∧ SPost w b q (upd C l (c1 ++ r :: c2)) (upd V l (v1 ++ u :: v2)) w' := by
  have h0 := S.line l hl
  have hlk := S.lk l hl
  have hnd := S.nd l hl
  have g1 : (C l)[c1.length]? = some r := by rw [hC]; simp
  have g2 : (C l)[c1.length + 1]? = some p := by rw [hC]; simp
  have k1 : (V l)[c1.length]? = some u := by rw [hV, he]; simp
  have k2 : (V l)[c1.length + 1]? = some v := by rw [hV, he]; simp
  have p1 := hlk.get c1.length r u g1 k1
  have p2 := hlk.get (c1.length + 1) p v g2 k2
  have e1 : (C l).drop (c1.length + 1) = p :: c2 := by rw [hC]; simp
  have e2 : (C l).drop (c1.length + 1 + 1) = c2 := by rw [hC, show c1 ++ r :: p :: c2 = (c1 ++ [r, p]) ++ c2 by simp, show c1.length + 1 + 1 = (c1 ++ [r, p]).length by simp, List.drop_left]
  rw [e1] at p1
  rw [e2] at p2
  have hr1 := S.rng l hl r (List.mem_of_getElem? g1)
  have hr2 := S.rng l hl p (List.mem_of_getElem? g2)
  rw [hC] at h0 hnd hf
  have hne : r ≠ p := by
    intro e
    have := (List.nodup_cons.1 (List.nodup_append.1 hnd).2.1).1
    exact this (by simp [e])
  have hln := lnOf_out c1 r p c2 hnd
  simp only [List.length_append, List.length_cons] at hf
  have h0' : L[l]? = some ((((c1 ++ r :: p :: c2).headD 0 : Nat) : Int), (((c1 ++ r :: p :: c2).getLastD 0 : Nat) : Int), ((c1 ++ r :: c2).length : Int) + 1) := by
    rw [h0]
    unfold lnOf
    simp
    omega
  refine (c_unlink1 H l r p hl hr1.2 hr1.1 hr2.2 hne _ _ (c1 ++ r :: c2).length h0' (by simp; omega) u v _ p1 p2).mono ?_
  rintro e w' ⟨rfl, H', ho⟩
  rw [hln] at H'
  exact ⟨rfl, _, _, H', (S.unlink1 l hl c1 r p c2 v1 u v v2 hC hV he).1, ho⟩
end Go.Proofs.Ytgigcjhggpknnaa
