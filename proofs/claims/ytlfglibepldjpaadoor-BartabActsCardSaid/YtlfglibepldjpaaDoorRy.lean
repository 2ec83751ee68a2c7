/- What lies in memory in a law of many calls: variables of cells, and facts that last as long as what was there stays; the newest first, told by their places. -/
import Derived.Test.YtlfglibepldjpaaDoorRw
namespace Go.Proofs.YtlfglibepldjpaaDoor
open Go.RowKit

/-- A fact on worlds that lasts. -/
structure Kp where
  P : World → Prop
  up : ∀ {W W' : World}, Below W.heap.size W W' → P W → P W'
structure Mm (w : World) (KS : List (Nat × List Value × TypeId)) (DS : List Kp) (W : World) : Prop where
  up : Below w.heap.size w W
  k : ∀ x ∈ KS, Blk W x.1 x.2.1 x.2.2
  d : ∀ y ∈ DS, y.P W
theorem Mm.nil {w W : World} (h : Below w.heap.size w W) : Mm w [] [] W := ⟨h, by simp, by simp⟩
theorem Mm.next {w W W' : World} {KS : List (Nat × List Value × TypeId)} {DS : List Kp} (h : Mm w KS DS W) (hb : Below W.heap.size W W') : Mm w KS DS W' :=
  ⟨up_trans h.up hb, fun x hx => (h.k x hx).up hb (h.k x hx).lt, fun y hy => y.up hb (h.d y hy)⟩
theorem Mm.var {w W : World} {KS : List (Nat × List Value × TypeId)} {DS : List Kp} (h : Mm w KS DS W) {b : Nat} {cs : List Value} {t : TypeId} (hk : Blk W b cs t) : Mm w ((b, cs, t) :: KS) DS W :=
  ⟨h.up, fun x hx => (List.mem_cons.1 hx).elim (fun e => by rw [e]; exact hk) (h.k x), h.d⟩
theorem Mm.fact {w W : World} {KS : List (Nat × List Value × TypeId)} {DS : List Kp} (h : Mm w KS DS W) (K : Kp) (hd : K.P W) : Mm w KS (K :: DS) W :=
  ⟨h.up, h.k, fun x hx => (List.mem_cons.1 hx).elim (fun e => by rw [e]; exact hd) (h.d x)⟩
theorem Mm.new {w W : World} {KS : List (Nat × List Value × TypeId)} {DS : List Kp} (h : Mm w KS DS W) (cs : List Value) (t : TypeId) : Mm w ((W.heap.size, cs, t) :: KS) DS (W.alloc (.cells cs.toArray t)) :=
  (h.next (up_alloc _ _)).var (Blk.new W cs t)
theorem Mm.ka {w W : World} {KS : List (Nat × List Value × TypeId)} {DS : List Kp} (h : Mm w KS DS W) (i : Nat) {b : Nat} {cs : List Value} {t : TypeId} (hi : KS[i]? = some (b, cs, t)) : Blk W b cs t := h.k _ (List.mem_of_getElem? hi)
theorem Mm.da {w W : World} {KS : List (Nat × List Value × TypeId)} {DS : List Kp} (h : Mm w KS DS W) (i : Nat) {K : Kp} (hi : DS[i]? = some K) : K.P W := h.d _ (List.mem_of_getElem? hi)
end Go.Proofs.YtlfglibepldjpaaDoor
