/- The contracts of queue's link, unlink and release, in memory. -/
import Derived.Test.YtgigcjhggpknnaaQt
import Derived.BigRegion
namespace Go.Proofs.Ytgigcjhggpknnaa
open Go.RowKit

theorem getL {α : Type} {L : List α} {l : Nat} {a b : α} (h : L[l]? = some a) : (L.set l b)[l]? = some b := by
  rw [List.getElem?_set_self (List.getElem?_eq_some_iff.1 h).1]

set_option maxHeartbeats 400000 in
theorem c_link0 {w : World} {b : Nat} {q : Int} {L : List Ln} {P : List Pc} (H : PW w b q L P) (l k : Nat) (x : Int) (hl : l < 65) (hk : k < 1025) (a z : Int) (h0 : L[l]? = some (a, z, 0)) :
    Calls Try.prog 52 #[.pointer (some ⟨b, 0, none⟩), .int .i64 l, .int .i64 k, .int .i64 x] w fun e w' => e = .returned (.tuple #[]) ∧ PW w' b q (L.set l ((k : Int), (k : Int), 1)) (P.set k (x, 0)) ∧ Only (· = b) w w' := by
  obtain ⟨s, hs⟩ : ∃ s, P[k]? = some s := ⟨P[k]'(by rw [H.lp]; exact hk), List.getElem?_eq_getElem _⟩
  have c0 := H.l0 l _ h0
  have c1 := H.l1 l _ h0
  have c2 := H.l2 l _ h0
  have p0 := H.p0 k _ hs
  have p1 := H.p1 k _ hs
  have f0 := H.free (196 + k * 2)
  have f1 := H.free (196 + k * 2 + 1)
  have g0 := H.free (1 + l * 3)
  have g1 := H.free (1 + l * 3 + 1)
  have g2 := H.free (1 + l * 3 + 2)
  have HH := Lib.hid H
  have H0 := Lib.hid h0
  have HS := Lib.hid hs
  clear H h0 hs
  go_enter Try.func52, Try.ntmps52
  go_wp2
  go_end0
  refine ⟨rfl, ?_, ((((Only.refl _ w).put _ _).put _ _ |>.put _ _).put _ _).put _ _⟩
  have K1 := (HH.out.sp0 k s HS.out x).sp1 k (x, s.2) (getL HS.out) 0
  have K2 := ((K1.sl0 l _ H0.out k).sl1 l _ (getL H0.out) k).sl2 l _ (getL (getL H0.out)) 1
  rw [List.set_set, List.set_set, List.set_set] at K2
  exact K2

set_option maxHeartbeats 1000000 in
theorem c_link1 {w : World} {b : Nat} {q : Int} {L : List Ln} {P : List Pc} (H : PW w b q L P) (l k z : Nat) (x : Int) (hl : l < 65) (hk : k < 1025) (a : Int) (m : Nat) (h0 : L[l]? = some (a, (z : Int), (m : Int))) (m0 : 0 < m) (m1 : m < 5000) (hz : z < 1025) (hzk : k ≠ z) (y n : Int) (hy : P[z]? = some (y, n)) :
    Calls Try.prog 52 #[.pointer (some ⟨b, 0, none⟩), .int .i64 l, .int .i64 k, .int .i64 x] w fun e w' => e = .returned (.tuple #[]) ∧ PW w' b q (L.set l (a, (k : Int), (m : Int) + 1)) ((P.set k (x, 0)).set z (y, (k : Int))) ∧ Only (· = b) w w' := by
  obtain ⟨s, hs⟩ : ∃ s, P[k]? = some s := ⟨P[k]'(by rw [H.lp]; exact hk), List.getElem?_eq_getElem _⟩
  have c0 := H.l0 l _ h0
  have c1 := H.l1 l _ h0
  have c2 := H.l2 l _ h0
  have p0 := H.p0 k _ hs
  have p1 := H.p1 k _ hs
  have r1 := H.p1 z _ hy
  have f0 := H.free (196 + k * 2)
  have f1 := H.free (196 + k * 2 + 1)
  have f2 := H.free (196 + z * 2 + 1)
  have g0 := H.free (1 + l * 3)
  have g1 := H.free (1 + l * 3 + 1)
  have g2 := H.free (1 + l * 3 + 2)
  have hm : ((m : Int) == 0) = false := beq_eq_false_iff_ne.2 (by omega)
  have HH := Lib.hid H
  have H0 := Lib.hid h0
  have HS := Lib.hid hs
  have HY := Lib.hid hy
  clear H h0 hs hy
  simp only at c0 c1 c2 r1
  go_enter Try.func52, Try.ntmps52
  go_wp2
  go_region
  go_wp2
  go_end0
  refine ⟨rfl, ?_, ((((Only.refl _ w).put _ _).put _ _).drewN 1 |>.put _ _ |>.put _ _).put _ _⟩
  have K1 := (HH.out.sp0 k s HS.out x).sp1 k (x, s.2) (getL HS.out) 0
  rw [List.set_set] at K1
  have K2 := (K1.drewN 1).sp1 z (y, n) (by rw [List.getElem?_set_ne hzk]; exact HY.out) k
  have K3 := (K2.sl1 l _ H0.out k).sl2 l _ (getL H0.out) ((m : Int) + 1)
  rw [List.set_set] at K3
  exact K3

/-- Behind nothing: the line's first place. -/
theorem c_unlink0 {w : World} {b : Nat} {q : Int} {L : List Ln} {P : List Pc} (H : PW w b q L P) (l k : Nat) (hl : l < 65) (hk : k < 1025) (z : Int) (m : Nat) (h0 : L[l]? = some ((k : Int), z, (m : Int) + 1)) (m1 : m < 5000) (x n : Int) (hy : P[k]? = some (x, n)) :
    Calls Try.prog 53 #[.pointer (some ⟨b, 0, none⟩), .int .i64 l, .int .i64 0] w fun e w' => e = .returned (.int .i64 k) ∧ PW w' b q (L.set l (n, if (k : Int) = z then 0 else z, (m : Int))) P ∧ Only (· = b) w w' := by
  have c0 := H.l0 l _ h0
  have c1 := H.l1 l _ h0
  have c2 := H.l2 l _ h0
  have r1 := H.p1 k _ hy
  have g0 := H.free (1 + l * 3)
  have g1 := H.free (1 + l * 3 + 1)
  have g2 := H.free (1 + l * 3 + 2)
  have HH := Lib.hid H
  have H0 := Lib.hid h0
  have HY := Lib.hid hy
  clear H h0 hy
  simp only at c0 c1 c2 r1
  by_cases hz : (k : Int) = z
  · subst hz
    have he : ((k : Int) == (k : Int)) = true := by simp
    go_enter Try.func53, Try.ntmps53
    go_wp2
    go_ret
    refine ⟨rfl, ?_, ((Only.refl _ w).put _ _ |>.put _ _).put _ _⟩
    have K2 := ((HH.out.sl0 l _ H0.out n).sl1 l _ (getL H0.out) 0).sl2 l _ (getL (getL H0.out)) m
    rw [List.set_set, List.set_set] at K2
    exact K2
  · have he : ((k : Int) == z) = false := beq_eq_false_iff_ne.2 hz
    have HZ := Lib.hid hz
    clear hz
    go_enter Try.func53, Try.ntmps53
    go_wp2
    go_ret
    refine ⟨rfl, ?_, ((Only.refl _ w).put _ _).put _ _⟩
    have K2 := (HH.out.sl0 l _ H0.out n).sl2 l _ (getL H0.out) m
    rw [List.set_set] at K2
    exact K2

/-- Behind another place. -/
theorem c_unlink1 {w : World} {b : Nat} {q : Int} {L : List Ln} {P : List Pc} (H : PW w b q L P) (l r k : Nat) (hl : l < 65) (hr : r < 1025) (r0 : 0 < r) (hk : k < 1025) (_ : r ≠ k) (a z : Int) (m : Nat) (h0 : L[l]? = some (a, z, (m : Int) + 1)) (m1 : m < 5000) (x y n : Int) (hx : P[r]? = some (x, (k : Int))) (hy : P[k]? = some (y, n)) :
    Calls Try.prog 53 #[.pointer (some ⟨b, 0, none⟩), .int .i64 l, .int .i64 r] w fun e w' => e = .returned (.int .i64 k) ∧ PW w' b q (L.set l (a, if (k : Int) = z then (r : Int) else z, (m : Int))) (P.set r (x, n)) ∧ Only (· = b) w w' := by
  have c0 := H.l0 l _ h0
  have c1 := H.l1 l _ h0
  have c2 := H.l2 l _ h0
  have r1 := H.p1 k _ hy
  have r2 := H.p1 r _ hx
  have f2 := H.free (196 + r * 2 + 1)
  have g0 := H.free (1 + l * 3)
  have g1 := H.free (1 + l * 3 + 1)
  have g2 := H.free (1 + l * 3 + 2)
  have hm : ((r : Int) == 0) = false := beq_eq_false_iff_ne.2 (by omega)
  have HH := Lib.hid H
  have H0 := Lib.hid h0
  have HX := Lib.hid hx
  clear H h0 hx hy
  simp only at c0 c1 c2 r1 r2
  by_cases hz : (k : Int) = z
  · subst hz
    have he : ((k : Int) == (k : Int)) = true := by simp
    go_enter Try.func53, Try.ntmps53
    go_wp2
    go_region
    go_wp2
    go_ret
    refine ⟨rfl, ?_, ((Only.refl _ w).drewN 1 |>.put _ _ |>.put _ _).put _ _⟩
    have K2 := ((((HH.out.drewN 1).sp1 r _ HX.out n).sl1 l _ H0.out r).sl2 l _ (getL H0.out) m)
    rw [List.set_set] at K2
    exact K2
  · have he : ((k : Int) == z) = false := beq_eq_false_iff_ne.2 hz
    have HZ := Lib.hid hz
    clear hz
    go_enter Try.func53, Try.ntmps53
    go_wp2
    go_region
    go_wp2
    go_ret
    refine ⟨rfl, ?_, ((Only.refl _ w).drewN 1 |>.put _ _).put _ _⟩
    have K2 := (((HH.out.drewN 1).sp1 r _ HX.out n).sl2 l _ H0.out m)
    exact K2
end Go.Proofs.Ytgigcjhggpknnaa
