/- In a region that draws: boxes by their places, and an answer's cell in whatever state. -/
import Derived.Test.YtdiiilnebepfdaaGreatDoorA1
namespace Go.Proofs.YtdiiilnebepfdaaGreatDoor
open Go.RowKit

structure BL (w : World) (KS : List (Nat × List Value × TypeId)) (r k : Nat) (t : TypeId) (W : World) : Prop where
  up : Below w.heap.size w W
  bx : ∀ x ∈ KS, Blk W x.1 x.2.1 x.2.2
  no : ∀ x ∈ KS, x.1 ≠ r
  lo : w.heap.size ≤ r
  res : ∃ ds : List Value, ds.length = k ∧ Blk W r ds t
theorem BL.ka {w : World} {KS : List (Nat × List Value × TypeId)} {r k : Nat} {t : TypeId} {W : World} (h : BL w KS r k t W) (i : Nat) {b : Nat} {cs : List Value} {u : TypeId} (hi : KS[i]? = some (b, cs, u)) : Blk W b cs u := h.bx _ (List.mem_of_getElem? hi)
theorem BL.next {w : World} {KS : List (Nat × List Value × TypeId)} {r k : Nat} {t : TypeId} {W W' : World} (h : BL w KS r k t W) (hb : Below W.heap.size W W') : BL w KS r k t W' :=
  ⟨up_trans h.up hb, fun x hx => (h.bx x hx).up hb (h.bx x hx).lt, h.no, h.lo, by
    obtain ⟨ds, h1, h2⟩ := h.res
    exact ⟨ds, h1, h2.up hb h2.lt⟩⟩
theorem BL.put {w : World} {KS : List (Nat × List Value × TypeId)} {r k : Nat} {t : TypeId} {W : World} (h : BL w KS r k t W) (ds : List Value) (hl : ds.length = k) : BL w KS r k t (W.setRow r ds.toArray) :=
  ⟨below_setRow h.up h.lo _, fun x hx => (h.bx x hx).rowOther (h.no x hx) _, h.no, h.lo, by
    obtain ⟨es, _, h2⟩ := h.res
    exact ⟨ds, hl, h2.row ds⟩⟩
theorem BL.var {w : World} {KS : List (Nat × List Value × TypeId)} {r k : Nat} {t : TypeId} {W : World} (h : BL w KS r k t W) {b : Nat} {cs : List Value} {u : TypeId} (hk : Blk W b cs u) (hb : b ≠ r) : BL w ((b, cs, u) :: KS) r k t W :=
  ⟨h.up, fun x hx => (List.mem_cons.1 hx).elim (fun e => by rw [e]; exact hk) (h.bx x), fun x hx => (List.mem_cons.1 hx).elim (fun e => by rw [e]; exact hb) (h.no x), h.lo, h.res⟩
/-- A fresh variable. -/
theorem BL.new {w : World} {KS : List (Nat × List Value × TypeId)} {r k : Nat} {t : TypeId} {W : World} (h : BL w KS r k t W) (cs : List Value) (u : TypeId) : BL w ((W.heap.size, cs, u) :: KS) r k t (W.alloc (.cells cs.toArray u)) :=
  (h.next (up_alloc _ _)).var (Blk.new W cs u) (by
    obtain ⟨ds, _, h2⟩ := h.res
    have := h2.lt
    omega)
/-- The entry: a result's cell alone; boxes come behind. -/
theorem bl1 (w : World) (cs : List Value) (u : TypeId) (zs : List Value) (t : TypeId) : BL w [(w.heap.size, cs, u)] (w.heap.size + 1) zs.length t ((w.alloc (.cells cs.toArray u)).alloc (.cells zs.toArray t)) := by
  have h := bx2 w cs u zs t
  exact ⟨h.up, fun x hx => by
    obtain rfl : x = (w.heap.size, cs, u) := by simpa using hx
    exact h.box, fun x hx => by
    obtain rfl : x = (w.heap.size, cs, u) := by simpa using hx
    show w.heap.size ≠ _
    omega, by omega, zs, rfl, h.res⟩
theorem bl2 (w : World) (cs : List Value) (u : TypeId) (ds : List Value) (v : TypeId) (zs : List Value) (t : TypeId) : BL w [(w.heap.size, cs, u), (w.heap.size + 1, ds, v)] (w.heap.size + 2) zs.length t (((w.alloc (.cells cs.toArray u)).alloc (.cells ds.toArray v)).alloc (.cells zs.toArray t)) := by
  have h := bx2 w cs u ds v
  have hs : ((w.alloc (.cells cs.toArray u)).alloc (.cells ds.toArray v)).heap.size = w.heap.size + 2 := by simp
  have k := Blk.new ((w.alloc (.cells cs.toArray u)).alloc (.cells ds.toArray v)) zs t
  rw [hs] at k
  have n := h.next (up_alloc _ (.cells zs.toArray t))
  refine ⟨n.up, fun x hx => ?_, fun x hx => ?_, by omega, zs, rfl, k⟩
  · simp only [List.mem_cons, List.not_mem_nil, or_false] at hx
    rcases hx with rfl | rfl
    · exact n.box
    · exact n.res
  · simp only [List.mem_cons, List.not_mem_nil, or_false] at hx
    rcases hx with rfl | rfl
    · show w.heap.size ≠ _; omega
    · show w.heap.size + 1 ≠ _; omega
end Go.Proofs.YtdiiilnebepfdaaGreatDoor
