/- A pool of package queue in memory, and the contracts of its small functions. -/
import Derived.Test.YtgigcjhggpknnaaRows
import Derived.Test.YtgigcjhggpknnaaM
import Derived.Test.YtgigcjhggpknnaaQm
import Derived.WalkKit
import Derived.WalkSpells
import Derived.WalkLawsBesides
import Derived.BigQuiet
import Derived.Deep.QuietTactic
import Derived.Outline
import Derived.LoopTactic
import Derived.Deep.RegionHeld3
namespace Go.Proofs.Ytgigcjhggpknnaa
open Go.RowKit

def lineV (l : Ln) : List Value := [.int .i64 l.1, .int .i64 l.2.1, .int .i64 l.2.2]
def placeV (p : Pc) : List Value := [.int .i64 p.1, .int .i64 p.2]
theorem lineV_len (l : Ln) : (lineV l).length = 3 := rfl
theorem placeV_len (l : Pc) : (placeV l).length = 2 := rfl
def poolV (q : Int) (L : List Ln) (P : List Pc) : List Value := .int .i64 q :: (L.flatMap lineV ++ P.flatMap placeV)
theorem flat_len {α β : Type} (f : α → List β) (m : Nat) (hf : ∀ a, (f a).length = m) (l : List α) : (l.flatMap f).length = l.length * m := by
  induction l with
  | nil => simp
  | cons a l ih => rw [List.flatMap_cons, List.length_append, ih, hf, List.length_cons, Nat.succ_mul]; omega

theorem poolV_line (q : Int) (L : List Ln) (P : List Pc) (l j : Nat) (s : Ln) (hl : L[l]? = some s) (hj : j < 3) : (poolV q L P)[1 + l * 3 + j]? = (lineV s)[j]? := by
  have hlt := (List.getElem?_eq_some_iff.1 hl).1
  unfold poolV
  rw [show 1 + l * 3 + j = (l * 3 + j) + 1 by omega, List.getElem?_cons_succ, List.getElem?_append_left (by rw [flat_len lineV 3 lineV_len]; omega)]
  exact flat_get lineV 3 lineV_len L l j s hl hj
theorem poolV_place (q : Int) (L : List Ln) (P : List Pc) (hL : L.length = 65) (k j : Nat) (s : Pc) (hk : P[k]? = some s) (hj : j < 2) : (poolV q L P)[196 + k * 2 + j]? = (placeV s)[j]? := by
  unfold poolV
  rw [show 196 + k * 2 + j = (195 + (k * 2 + j)) + 1 by omega, List.getElem?_cons_succ, List.getElem?_append_right (by rw [flat_len lineV 3 lineV_len]; omega), flat_len lineV 3 lineV_len, show 195 + (k * 2 + j) - L.length * 3 = k * 2 + j by omega]
  exact flat_get placeV 2 placeV_len P k j s hk hj
theorem poolV_setL (q : Int) (L : List Ln) (P : List Pc) (l j : Nat) (s t : Ln) (v : Value) (hl : L[l]? = some s) (hj : j < 3) (e : lineV t = (lineV s).set j v) : (poolV q L P).set (1 + l * 3 + j) v = poolV q (L.set l t) P := by
  have hlt := (List.getElem?_eq_some_iff.1 hl).1
  unfold poolV
  rw [show 1 + l * 3 + j = (l * 3 + j) + 1 by omega, List.set_cons_succ, List.set_append_left _ _ (by rw [flat_len lineV 3 lineV_len]; omega), flat_set lineV 3 lineV_len L l s t v j hl hj e]
theorem poolV_setP (q : Int) (L : List Ln) (P : List Pc) (hL : L.length = 65) (k j : Nat) (s t : Pc) (v : Value) (hk : P[k]? = some s) (hj : j < 2) (e : placeV t = (placeV s).set j v) : (poolV q L P).set (196 + k * 2 + j) v = poolV q L (P.set k t) := by
  unfold poolV
  rw [show 196 + k * 2 + j = (195 + (k * 2 + j)) + 1 by omega, List.set_cons_succ, List.set_append_right _ _ (by rw [flat_len lineV 3 lineV_len]; omega), flat_len lineV 3 lineV_len, show 195 + (k * 2 + j) - L.length * 3 = k * 2 + j by omega, flat_set placeV 2 placeV_len P k s t v j hk hj e]

/-- The pool at block b. -/
structure PW (w : World) (b : Nat) (q : Int) (L : List Ln) (P : List Pc) : Prop where
  blk : Blk w b (poolV q L P) 104
  ll : L.length = 65
  lp : P.length = 1025
section
variable {w w' : World} {b : Nat} {q : Int} {L : List Ln} {P : List Pc}
theorem PW.only {s : Nat → Prop} (h : PW w b q L P) (o : Only s w w') (hs : ¬ s b) : PW w' b q L P := ⟨h.blk.only o hs, h.ll, h.lp⟩
theorem PW.below (h : PW w b q L P) (o : Below w.heap.size w w') : PW w' b q L P := ⟨h.blk.up o h.blk.lt, h.ll, h.lp⟩
theorem PW.drewN (h : PW w b q L P) (n : Nat) : PW (w.drewN n) b q L P := ⟨h.blk, h.ll, h.lp⟩
theorem PW.free (h : PW w b q L P) (j : Nat) : w.frozen? ⟨b, j, none⟩ = false := h.blk.free j
theorem PW.cq (h : PW w b q L P) : w.cell? ⟨b, 0, none⟩ = some (.int .i64 q) := h.blk.cell 0 _ rfl
theorem PW.l0 (h : PW w b q L P) (l : Nat) (s : Ln) (hl : L[l]? = some s) : w.cell? ⟨b, 1 + l * 3, none⟩ = some (.int .i64 s.1) := by
  have := poolV_line q L P l 0 s hl (by omega)
  rw [h.blk.cell']
  exact this
theorem PW.l1 (h : PW w b q L P) (l : Nat) (s : Ln) (hl : L[l]? = some s) : w.cell? ⟨b, 1 + l * 3 + 1, none⟩ = some (.int .i64 s.2.1) := by
  have := poolV_line q L P l 1 s hl (by omega)
  rw [h.blk.cell']
  exact this
theorem PW.l2 (h : PW w b q L P) (l : Nat) (s : Ln) (hl : L[l]? = some s) : w.cell? ⟨b, 1 + l * 3 + 2, none⟩ = some (.int .i64 s.2.2) := by
  have := poolV_line q L P l 2 s hl (by omega)
  rw [h.blk.cell']
  exact this
theorem PW.p0 (h : PW w b q L P) (k : Nat) (s : Pc) (hk : P[k]? = some s) : w.cell? ⟨b, 196 + k * 2, none⟩ = some (.int .i64 s.1) := by
  have := poolV_place q L P h.ll k 0 s hk (by omega)
  rw [h.blk.cell']
  exact this
theorem PW.p1 (h : PW w b q L P) (k : Nat) (s : Pc) (hk : P[k]? = some s) : w.cell? ⟨b, 196 + k * 2 + 1, none⟩ = some (.int .i64 s.2) := by
  have := poolV_place q L P h.ll k 1 s hk (by omega)
  rw [h.blk.cell']
  exact this
theorem PW.sl0 (h : PW w b q L P) (l : Nat) (s : Ln) (hl : L[l]? = some s) (x : Int) : PW (w.setCell ⟨b, 1 + l * 3, none⟩ (.int .i64 x)) b q (L.set l (x, s.2.1, s.2.2)) P := by
  refine ⟨?_, by rw [List.length_set]; exact h.ll, h.lp⟩
  have := h.blk.set (1 + l * 3 + 0) (.int .i64 x)
  rwa [poolV_setL q L P l 0 s (x, s.2.1, s.2.2) _ hl (by omega) rfl] at this
theorem PW.sl1 (h : PW w b q L P) (l : Nat) (s : Ln) (hl : L[l]? = some s) (x : Int) : PW (w.setCell ⟨b, 1 + l * 3 + 1, none⟩ (.int .i64 x)) b q (L.set l (s.1, x, s.2.2)) P := by
  refine ⟨?_, by rw [List.length_set]; exact h.ll, h.lp⟩
  have := h.blk.set (1 + l * 3 + 1) (.int .i64 x)
  rwa [poolV_setL q L P l 1 s (s.1, x, s.2.2) _ hl (by omega) rfl] at this
theorem PW.sl2 (h : PW w b q L P) (l : Nat) (s : Ln) (hl : L[l]? = some s) (x : Int) : PW (w.setCell ⟨b, 1 + l * 3 + 2, none⟩ (.int .i64 x)) b q (L.set l (s.1, s.2.1, x)) P := by
  refine ⟨?_, by rw [List.length_set]; exact h.ll, h.lp⟩
  have := h.blk.set (1 + l * 3 + 2) (.int .i64 x)
  rwa [poolV_setL q L P l 2 s (s.1, s.2.1, x) _ hl (by omega) rfl] at this
theorem PW.sp0 (h : PW w b q L P) (k : Nat) (s : Pc) (hk : P[k]? = some s) (x : Int) : PW (w.setCell ⟨b, 196 + k * 2, none⟩ (.int .i64 x)) b q L (P.set k (x, s.2)) := by
  refine ⟨?_, h.ll, by rw [List.length_set]; exact h.lp⟩
  have := h.blk.set (196 + k * 2 + 0) (.int .i64 x)
  rwa [poolV_setP q L P h.ll k 0 s (x, s.2) _ hk (by omega) rfl] at this
theorem PW.sp1 (h : PW w b q L P) (k : Nat) (s : Pc) (hk : P[k]? = some s) (x : Int) : PW (w.setCell ⟨b, 196 + k * 2 + 1, none⟩ (.int .i64 x)) b q L (P.set k (s.1, x)) := by
  refine ⟨?_, h.ll, by rw [List.length_set]; exact h.lp⟩
  have := h.blk.set (196 + k * 2 + 1) (.int .i64 x)
  rwa [poolV_setP q L P h.ll k 1 s (s.1, x) _ hk (by omega) rfl] at this
end

set_option maxHeartbeats 400000 in
theorem c_look {w : World} {b : Nat} {q : Int} {L : List Ln} {P : List Pc} (H : PW w b q L P) (h0 : 1 ≤ q) (x : Int) (hx : 0 ≤ x) (hx1 : x < q) :
    Calls Try.prog 46 #[.pointer (some ⟨b, 0, none⟩), .int .i64 x] w fun e w' => e = .returned (.int .i64 0) ∧ w = w' := by
  have hc := H.cq
  clear H
  go_enter Try.func46, Try.ntmps46
  go_wp2
  go_ret
  exact ⟨rfl, rfl⟩
set_option maxHeartbeats 400000 in
theorem c_look_no {w : World} {b : Nat} {q : Int} {L : List Ln} {P : List Pc} (H : PW w b q L P) (h0 : 1 ≤ q) (x : Int) (hx : x < 0 ∨ q ≤ x) :
    Calls Try.prog 46 #[.pointer (some ⟨b, 0, none⟩), .int .i64 x] w fun e w' => e = .returned (.int .i64 8) ∧ w = w' := by
  have hc := H.cq
  clear H
  rcases hx with hx | hx
  · go_enter Try.func46, Try.ntmps46
    go_wp2
    go_ret
    exact ⟨rfl, rfl⟩
  · go_enter Try.func46, Try.ntmps46
    go_wp2
    go_ret
    exact ⟨rfl, rfl⟩

end Go.Proofs.Ytgigcjhggpknnaa
