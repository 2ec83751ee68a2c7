/- Structs that are loaded and stored whole, of any make: their cells as one list; the box of a struct argument, and the cell of a struct answer. -/
import Derived.Test.YtniijkdlphkpkaaDoorM
import Derived.Laws.Rows
import Derived.Laws.CopyOwn
import Derived.Deep.WholeRow
import Derived.BigFrame
namespace Go.Proofs.YtniijkdlphkpkaaDoor
open Go.RowKit

theorem Blk.row {w : World} {b : Nat} {cs : List Value} {t : TypeId} (h : Blk w b cs t) (ds : List Value) : Blk (w.setRow b ds.toArray) b ds t := setRow_heap w b _ _ t (0, 0) h
theorem Blk.rowOther {w : World} {b g : Nat} {cs : List Value} {t : TypeId} (h : Blk w b cs t) (hg : b ≠ g) (ds : Array Value) : Blk (w.setRow g ds) b cs t := (setRow_other w g b ds hg).trans h
theorem Only.row {s : Nat → Prop} {a b : World} (h : Only s a b) {g : Nat} (hg : s g) (ds : Array Value) : Only s a (b.setRow g ds) :=
  ⟨h.os, h.tape, h.output, by simpa [World.setRow] using h.size, fun i hi hs => (setRow_other b g i ds (by rintro rfl; exact hs hg)).trans (h.block i hi hs)⟩


section
variable {P : Program}
/-- A struct of cells cs, loaded whole. -/
theorem ld_row {w : World} {b : Nat} {cs : List Value} {t ty : TypeId} {d : TypeDesc} {ops : Array Oper} {rest : List Oper} {o : Oper} {a : Act} {Q : Exit → Act → World → Prop} (h : Blk w b cs t) (hgd : o.guard = none) (x : Operand) (ho : o.op = .load ty x)
    (hx : a.eval x = .pointer (some ⟨b, 0, none⟩)) (hu : P.underlying ty = some d) (hd : (match d with | .struct _ | .array _ _ => true | _ => false) = true) (hi : (P.info? ty).map (·.size) = some cs.length) (hk : wpList P ops Q rest (a.put o.dst (.agg cs.toArray)) w) : wpList P ops Q (o :: rest) a w :=
  wpList_load_row hgd ty x ho b hx t cs.toArray (0, 0) d h hu hd (by rw [List.size_toArray]; exact hi) hk
/-- The same, under a guard that says yes. -/
theorem lw_row {w : World} {b : Nat} {cs : List Value} {t ty : TypeId} {d : TypeDesc} {ops : Array Oper} {rest : List Oper} {o : Oper} {a : Act} {Q : Exit → Act → World → Prop} (h : Blk w b cs t) (x : Operand) (ho : o.op = .load ty x)
    (hx : a.eval x = .pointer (some ⟨b, 0, none⟩)) (hu : P.underlying ty = some d) (hd : (match d with | .struct _ | .array _ _ => true | _ => false) = true) (hi : (P.info? ty).map (·.size) = some cs.length) (hw : Region.wanted o (yielded ops a.tmps) = true) (hk : wpList P ops Q rest (a.put o.dst (.agg cs.toArray)) w) : wpList P ops Q (o :: rest) a w :=
  BigFrame.wpList_want hw fun _ hK => wp_load_row ty x ho b hx t cs.toArray (0, 0) d h hu hd (by rw [List.size_toArray]; exact hi) (hK _ _ hk)
theorem st_row {w : World} {b : Nat} {cs ds : List Value} {t ty : TypeId} {ops : Array Oper} {rest : List Oper} {o : Oper} {a : Act} {Q : Exit → Act → World → Prop} (h : Blk w b ds t) (hgd : o.guard = none) (x y : Operand) (ho : o.op = .store ty x y)
    (hx : a.eval x = .pointer (some ⟨b, 0, none⟩)) (hy : a.eval y = .agg cs.toArray) (hi : (P.info? ty).map (·.size) = some cs.length) (hl : ds.length = cs.length) (h1 : ∀ v ∈ cs, v.oneCell' = true) (hk : wpList P ops Q rest (a.put o.dst undef) (w.setRow b cs.toArray)) : wpList P ops Q (o :: rest) a w :=
  wpList_store_row hgd ty x y ho b _ hx hy t ds.toArray h (by rw [List.size_toArray]; exact hi) (by rw [List.size_toArray, List.size_toArray]; exact hl) (by
    rw [Array.all_eq_true_iff_forall_mem]
    intro v hv
    exact h1 v (by simpa using hv)) hk
theorem load_row {w : World} {b : Nat} {cs : List Value} {t ty : TypeId} {d : TypeDesc} (h : Blk w b cs t) (hu : P.underlying ty = some d) (hd : (match d with | .struct _ | .array _ _ => true | _ => false) = true) (hi : (P.info? ty).map (·.size) = some cs.length) :
    (loadVar ty ⟨b, 0, none⟩).run P w = .ok (.agg cs.toArray) w := run_loadVar_row w b t ty cs.toArray (0, 0) d h hu hd (by rw [List.size_toArray]; exact hi)
/-- What a function gives back that has a cell for a struct, and a number. -/
theorem results_ce {fn : Func} {p t : Tmp} {ty : TypeId} {d : TypeDesc} (hr : fn.results = #[.cell p ty, .tmp t]) (tmps : Array Value) (w : World) (b : Nat) {cs : List Value} {t' : TypeId}
    (hp : tmps.getD p undef = .pointer (some ⟨b, 0, none⟩)) (h : Blk w b cs t') (hu : P.underlying ty = some d) (hd : (match d with | .struct _ | .array _ _ => true | _ => false) = true) (hi : (P.info? ty).map (·.size) = some cs.length) :
    (results fn tmps).run P w = .ok (.tuple #[.agg cs.toArray, tmps.getD t undef]) w := by
  have hp' : tmps[p]?.getD undef = .pointer (some ⟨b, 0, none⟩) := by simpa using hp
  simp [results, hr, hp', asAddr, load_row h hu hd hi]
theorem results_c {fn : Func} {p : Tmp} {ty : TypeId} {d : TypeDesc} (hr : fn.results = #[.cell p ty]) (tmps : Array Value) (w : World) (b : Nat) {cs : List Value} {t' : TypeId}
    (hp : tmps.getD p undef = .pointer (some ⟨b, 0, none⟩)) (h : Blk w b cs t') (hu : P.underlying ty = some d) (hd : (match d with | .struct _ | .array _ _ => true | _ => false) = true) (hi : (P.info? ty).map (·.size) = some cs.length) :
    (results fn tmps).run P w = .ok (.agg cs.toArray) w := by
  have hp' : tmps[p]?.getD undef = .pointer (some ⟨b, 0, none⟩) := by simpa using hp
  simp [results, hr, hp', asAddr, load_row h hu hd hi]
/-- A struct's fresh variable, stored whole. -/
theorem sn_row {w' W : World} {N : Nat} {cs zs : List Value} {ty t : TypeId} {ops : Array Oper} {rest : List Oper} {o : Oper} {a : Act} {Q : Exit → Act → World → Prop} (x y : Operand) (ho : o.op = .store ty x y) (hgd : o.guard = none)
    (hx : a.eval x = .pointer (some ⟨N, 0, none⟩)) (hy : a.eval y = .agg cs.toArray) (hW : w' = W.alloc (.cells zs.toArray t)) (hN : W.heap.size = N) (hi : (P.info? ty).map (·.size) = some cs.length) (hl : zs.length = cs.length) (h1 : ∀ v ∈ cs, v.oneCell' = true)
    (hk : wpList P ops Q rest (a.put o.dst undef) (W.alloc (.cells cs.toArray t))) : wpList P ops Q (o :: rest) a w' := by
  subst hN
  subst hW
  have e : wpList P ops Q rest (a.put o.dst undef) ((W.alloc (.cells zs.toArray t)).setRow W.heap.size cs.toArray) := by
    rw [World.setRow_alloc_new]
    exact hk
  exact st_row (Blk.new W zs t) hgd x y ho hx hy hi hl h1 e
/-- The same laws with what is dear to elaborate behind: as arms of a walk. -/
theorem ldr {w : World} {b : Nat} {cs : List Value} {t ty : TypeId} {d : TypeDesc} {ops : Array Oper} {rest : List Oper} {o : Oper} {a : Act} {Q : Exit → Act → World → Prop} (x : Operand) (ho : o.op = .load ty x)
    (hx : a.eval x = .pointer (some ⟨b, 0, none⟩)) (hu : P.underlying ty = some d) (hd : (match d with | .struct _ | .array _ _ => true | _ => false) = true) (hi : (P.info? ty).map (·.size) = some cs.length) (hw : Region.wanted o (yielded ops a.tmps) = true) (h : Blk w b cs t) (hk : wpList P ops Q rest (a.put o.dst (.agg cs.toArray)) w) : wpList P ops Q (o :: rest) a w :=
  lw_row h x ho hx hu hd hi hw hk
theorem str {w : World} {b : Nat} {cs ds : List Value} {t ty : TypeId} {ops : Array Oper} {rest : List Oper} {o : Oper} {a : Act} {Q : Exit → Act → World → Prop} (x y : Operand) (ho : o.op = .store ty x y) (hgd : o.guard = none)
    (hx : a.eval x = .pointer (some ⟨b, 0, none⟩)) (hy : a.eval y = .agg cs.toArray) (hi : (P.info? ty).map (·.size) = some cs.length) (hl : ds.length = cs.length) (h1 : ∀ v ∈ cs, v.oneCell' = true) (h : Blk w b ds t) (hk : wpList P ops Q rest (a.put o.dst undef) (w.setRow b cs.toArray)) : wpList P ops Q (o :: rest) a w :=
  st_row h hgd x y ho hx hy hi hl h1 hk
theorem snr {w' W : World} {N : Nat} {cs zs : List Value} {ty t : TypeId} {ops : Array Oper} {rest : List Oper} {o : Oper} {a : Act} {Q : Exit → Act → World → Prop} (x y : Operand) (ho : o.op = .store ty x y) (hgd : o.guard = none)
    (hx : a.eval x = .pointer (some ⟨N, 0, none⟩)) (hy : a.eval y = .agg cs.toArray) (hi : (P.info? ty).map (·.size) = some cs.length) (hl : zs.length = cs.length) (h1 : ∀ v ∈ cs, v.oneCell' = true)
    (hW : w' = W.alloc (.cells zs.toArray t)) (hN : W.heap.size = N) (hk : wpList P ops Q rest (a.put o.dst undef) (W.alloc (.cells cs.toArray t))) : wpList P ops Q (o :: rest) a w' := sn_row x y ho hgd hx hy hW hN hi hl h1 hk
end

/-- The world of a function that boxes its struct. -/
structure Bx1 (w w2 : World) (cs : List Value) (t : TypeId) : Prop where
  up : Below w.heap.size w w2
  box : Blk w2 w.heap.size cs t
theorem bx1 (w : World) (cs : List Value) (t : TypeId) : Bx1 w (w.alloc (.cells cs.toArray t)) cs t := ⟨up_alloc _ _, Blk.new w cs t⟩
theorem Bx1.next {w w2 w3 : World} {cs : List Value} {t : TypeId} (h : Bx1 w w2 cs t) (hb : Below w2.heap.size w2 w3) : Bx1 w w3 cs t := ⟨up_trans h.up hb, h.box.up hb h.box.lt⟩
/-- The world of one that has a cell for its answer, too. -/
structure Bx2 (w w2 : World) (cs : List Value) (t : TypeId) (zs : List Value) (t' : TypeId) : Prop where
  up : Below w.heap.size w w2
  box : Blk w2 w.heap.size cs t
  res : Blk w2 (w.heap.size + 1) zs t'
theorem bx2 (w : World) (cs : List Value) (t : TypeId) (zs : List Value) (t' : TypeId) : Bx2 w ((w.alloc (.cells cs.toArray t)).alloc (.cells zs.toArray t')) cs t zs t' := by
  refine ⟨up_trans (up_alloc _ _) (up_alloc _ _), (Blk.new w cs t).alloc _, ?_⟩
  have := Blk.new (w.alloc (.cells cs.toArray t)) zs t'
  rw [show (w.alloc (.cells cs.toArray t)).heap.size = w.heap.size + 1 by simp] at this
  exact this
theorem Bx2.next {w w2 w3 : World} {cs : List Value} {t : TypeId} {zs : List Value} {t' : TypeId} (h : Bx2 w w2 cs t zs t') (hb : Below w2.heap.size w2 w3) : Bx2 w w3 cs t zs t' := ⟨up_trans h.up hb, h.box.up hb h.box.lt, h.res.up hb h.res.lt⟩
end Go.Proofs.YtniijkdlphkpkaaDoor
