/- Regions that draw, walked by hand: a struct's box is read, an answer's cell is stored whole at the end. -/
import Derived.Test.YtlfglibepldjpaaDoorRw
import Derived.BigRegion
import Derived.OrdersHeld
import Derived.Deep.RegionHeld3
import Derived.Deep.CutBlock
namespace Go.Proofs.YtlfglibepldjpaaDoor
open Go.RowKit

theorem tk_load {P : Program} {o : Oper} {a : Act} {W : World} {ty : TypeId} {x : Operand} {b : Nat} {v : Value} (ho : o.op = .load ty x) (hx : a.eval x = .pointer (some ⟨b, 0, none⟩)) (hl : (loadVar ty ⟨b, 0, none⟩).run P W = .ok v W) :
    (execOp a.eval o).run P W = .ok (.value v) W := by
  unfold execOp
  simp only [ho, hx, Instr.loadAt, Instr.sureAddr, Sem.run_bind, Sem.run_pure, Result.andThen_ok, hl]
theorem al_one {cs : List Value} (h : ∀ v ∈ cs, v.oneCell' = true) : cs.toArray.all (·.oneCell') = true := by
  rw [Array.all_eq_true_iff_forall_mem]
  intro v hv
  exact h v (by simpa using hv)
/-- What holds in such a region: the box reads so, and the answer's cell is there, in whatever state. -/
structure BS (w : World) (cs : List Value) (t t' : TypeId) (k : Nat) (W : World) : Prop where
  up : Below w.heap.size w W
  box : Blk W w.heap.size cs t
  res : ∃ ds : List Value, ds.length = k ∧ Blk W (w.heap.size + 1) ds t'
theorem BS.of {w w2 : World} {cs zs : List Value} {t t' : TypeId} (h : Bx2 w w2 cs t zs t') : BS w cs t t' zs.length w2 := ⟨h.up, h.box, zs, rfl, h.res⟩
theorem BS.next {w W W' : World} {cs : List Value} {t t' : TypeId} {k : Nat} (h : BS w cs t t' k W) (hb : Below W.heap.size W W') : BS w cs t t' k W' :=
  ⟨up_trans h.up hb, h.box.up hb h.box.lt, by
    obtain ⟨ds, h1, h2⟩ := h.res
    exact ⟨ds, h1, h2.up hb h2.lt⟩⟩
theorem BS.big {w W : World} {cs : List Value} {t t' : TypeId} {k : Nat} (h : BS w cs t t' k W) : w.heap.size + 2 ≤ W.heap.size := by
  obtain ⟨ds, _, h2⟩ := h.res
  exact h2.lt
theorem BS.put {w W : World} {cs : List Value} {t t' : TypeId} {k : Nat} (h : BS w cs t t' k W) (ds : List Value) (hl : ds.length = k) : BS w cs t t' k (W.setRow (w.heap.size + 1) ds.toArray) :=
  ⟨below_setRow h.up (by omega) _, h.box.rowOther (by omega) _, by
    obtain ⟨es, _, h2⟩ := h.res
    exact ⟨ds, hl, h2.row ds⟩⟩
end Go.Proofs.YtlfglibepldjpaaDoor
