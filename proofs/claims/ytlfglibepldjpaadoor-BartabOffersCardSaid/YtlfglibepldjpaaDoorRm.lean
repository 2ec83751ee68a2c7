/- A struct within a greater one: loaded and stored whole, at its offset. (tab/XYa has range_below, Blk.range, layL, Blk.lay, layL_get, layL_len, only_cells too: one or the other in a seat.) -/
import Derived.Test.YtlfglibepldjpaaDoorRw
import Derived.Deep.MidRow
namespace Go.Proofs.YtlfglibepldjpaaDoor
open Go.RowKit

theorem range_below {w w' : World} {b o : Nat} {cs : List Value} (h : w.rangeAt b o cs) (hb : Below w.heap.size w w') (hlt : b < w.heap.size) : w'.rangeAt b o cs := fun j v hv => (hb.cell (p := ⟨b, o + j, none⟩) hlt).trans (h j v hv)
/-- A block that holds just these cells, as a range. -/
theorem Blk.range {w : World} {b : Nat} {cs : List Value} {t : TypeId} (h : Blk w b cs t) : w.rangeAt b 0 cs := fun j v hv => by rw [Nat.zero_add]; exact h.cell j v hv
/-- A part of it. -/
theorem Blk.part {w : World} {b : Nat} {cs : List Value} {t : TypeId} (h : Blk w b cs t) (o n : Nat) {ds : List Value} (he : (cs.drop o).take n = ds) : w.rangeAt b o ds := fun j v hv => by
  subst he
  refine h.cell (o + j) v ?_
  rw [List.getElem?_take] at hv
  split at hv
  · rwa [List.getElem?_drop] at hv
  · cases hv
theorem Blk.there {w : World} {b : Nat} {cs : List Value} {t : TypeId} (h : Blk w b cs t) (o n : Nat) (hn : o + n ≤ cs.length) : w.there b o n := fun j hj => by
  refine ⟨?_, h.free (o + j)⟩
  have : w.cell? ⟨b, o + j, none⟩ = some (cs[o + j]'(by omega)) := h.cell (o + j) _ (List.getElem?_eq_getElem (by omega))
  rw [this]
  rfl

/-- The list with others from place o on. -/
def layL (ds : List Value) (o : Nat) : List Value → List Value
  | [] => ds
  | c :: cs => layL (ds.set o c) (o + 1) cs
theorem Blk.lay {b : Nat} {t : TypeId} : ∀ (cs ds : List Value) (o : Nat) (w : World), Blk w b ds t → Blk (w.setCells b o cs) b (layL ds o cs) t
  | [], _, _, _, h => h
  | c :: cs, ds, o, _, h => Blk.lay cs (ds.set o c) (o + 1) _ (h.set o c)
theorem only_cells {g : Nat} : ∀ (cs : List Value) (o : Nat) (w : World), Only (· = g) w (w.setCells g o cs)
  | [], _, w => Only.refl _ w
  | c :: cs, o, w => ((Only.refl _ w).put o c).trans (only_cells cs (o + 1) _)
/-- The block behind a part that was stored. -/
theorem Blk.laid {w : World} {b : Nat} {ds es : List Value} {t : TypeId} (h : Blk w b ds t) (o : Nat) (cs : List Value) (he : layL ds o cs = es) : Blk (w.setCells b o cs) b es t := he ▸ Blk.lay cs ds o w h
theorem Blk.cellsOther {w : World} {b g : Nat} {ds : List Value} {t : TypeId} (h : Blk w b ds t) (o : Nat) (cs : List Value) (hn : b ≠ g) : Blk (w.setCells g o cs) b ds t := h.only (only_cells cs o w) hn

section
variable {P : Program}
/-- A part of cells cs, loaded whole (under a guard that says yes, or none). -/
theorem lmr {w : World} {b q : Nat} {cs : List Value} {ty : TypeId} {d : TypeDesc} {ops : Array Oper} {rest : List Oper} {o : Oper} {a : Act} {Q : Exit → Act → World → Prop} (x : Operand) (ho : o.op = .load ty x)
    (hx : a.eval x = .pointer (some ⟨b, q, none⟩)) (hu : P.underlying ty = some d) (hd : d.isRow = true) (hi : (P.info? ty).map (·.size) = some cs.length) (hw : Region.wanted o (yielded ops a.tmps) = true) (h : w.rangeAt b q cs) (hk : wpList P ops Q rest (a.put o.dst (.agg cs.toArray)) w) : wpList P ops Q (o :: rest) a w :=
  BigFrame.wpList_want hw fun _ hK => wp_load_mid ty x ho b q hx cs d h hu hd hi (hK _ _ hk)
/-- One stored into a greater one. -/
theorem smr {w : World} {b q : Nat} {cs : List Value} {ty : TypeId} {ops : Array Oper} {rest : List Oper} {o : Oper} {a : Act} {Q : Exit → Act → World → Prop} (x y : Operand) (ho : o.op = .store ty x y) (hgd : o.guard = none)
    (hx : a.eval x = .pointer (some ⟨b, q, none⟩)) (hy : a.eval y = .agg cs.toArray) (hi : (P.info? ty).map (·.size) = some cs.length) (h1 : ∀ v ∈ cs, v.oneCell' = true) (h : w.there b q cs.length) (hk : wpList P ops Q rest (a.put o.dst undef) (w.setCells b q cs)) : wpList P ops Q (o :: rest) a w :=
  wpList_store_mid hgd ty x y ho b q cs.toArray hx hy (by simpa using h) (by simpa using hi) (all_oneCell_toArray h1) (by simpa using hk)
/-- In a region that draws. -/
theorem tk_part {o : Oper} {a : Act} {W : World} {ty : TypeId} {d : TypeDesc} {x : Operand} {b q : Nat} {cs : List Value} (ho : o.op = .load ty x) (hx : a.eval x = .pointer (some ⟨b, q, none⟩)) (hu : P.underlying ty = some d) (hd : d.isRow = true) (hi : (P.info? ty).map (·.size) = some cs.length) (h : W.rangeAt b q cs) :
    (execOp a.eval o).run P W = .ok (.value (.agg cs.toArray)) W := by
  unfold execOp
  simp only [ho, hx, Instr.loadAt, Instr.sureAddr, Sem.run_bind, Sem.run_pure, Result.andThen_ok, run_loadVar_mid W b q ty cs d h hu hd hi]
end

/-- The world of a function that boxes a struct and has a cell for its answer, behind a part that was stored into the box. -/
theorem Bx2.lay {w wc : World} {cs ds es : List Value} {t : TypeId} {zs : List Value} {t' : TypeId} (h : Bx2 w wc cs t zs t') (o : Nat) (he : layL cs o ds = es) : Bx2 w (wc.setCells w.heap.size o ds) es t zs t' :=
  ⟨h.up.trans ((only_cells ds o wc).toBelow h.up.size (fun k hk => by omega)), h.box.laid o ds he, h.res.cellsOther o ds (by omega)⟩
/-- A cell of the box that was stored. -/
theorem Bx2.set {w wc : World} {cs : List Value} {t : TypeId} {zs : List Value} {t' : TypeId} (h : Bx2 w wc cs t zs t') (j : Nat) (u : Value) : Bx2 w (wc.setCell ⟨w.heap.size, j, none⟩ u) (cs.set j u) t zs t' :=
  ⟨h.up.setCell (p := ⟨w.heap.size, j, none⟩) (Nat.le_refl _) u, h.box.set j u, h.res.other ⟨w.heap.size, j, none⟩ (by simp) u⟩
end Go.Proofs.YtlfglibepldjpaaDoor
