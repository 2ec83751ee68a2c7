/- Words for regions that make sets in memory, in whatever order. -/
import Derived.Test.YtknlkkigiommhaaDoorBm
import Derived.BigRegion
import Derived.Deep.DeepCutAuto
import Derived.Deep.RegionWith
namespace Go.Proofs.YtknlkkigiommhaaDoor
open Go.RowKit

theorem Blk.drew {w : World} {b : Nat} {cs : List Value} {t : TypeId} (h : Blk w b cs t) : Blk w.drew b cs t := h
theorem Blk.up' {w w' : World} {b : Nat} {cs : List Value} {t : TypeId} (hb : Below w.heap.size w w') (h : Blk w b cs t) : Blk w' b cs t := h.up hb h.lt
theorem drew_size (w : World) : w.drew.heap.size = w.heap.size := rfl
/-- Three sets in three blocks. -/
def Three (w : World) (x y z : S4) (s7 s8 s9 : Value) (wx : World) : Prop := ∃ p q r : Nat, s7 = .pointer (some ⟨p, 0, none⟩) ∧ s8 = .pointer (some ⟨q, 0, none⟩) ∧ s9 = .pointer (some ⟨r, 0, none⟩) ∧ Blk wx p x.cs 26 ∧ Blk wx q y.cs 26 ∧ Blk wx r z.cs 26 ∧ Below w.heap.size w wx
/-- Two more. -/
def TwoB (w : World) (x y : S4) (s7 s8 : Value) (wx : World) : Prop := ∃ p q : Nat, s7 = .pointer (some ⟨p, 0, none⟩) ∧ s8 = .pointer (some ⟨q, 0, none⟩) ∧ Blk wx p x.cs 26 ∧ Blk wx q y.cs 26 ∧ Below w.heap.size w wx
theorem regr {w : World} {b : Nat} {s : S4} (h : Blk w b s.cs 26) :
    (∀ d os, (Sort.grow (redrawn w d) os).cell? ⟨b, 0, none⟩ = some (.int .u64 s.a.toNat)) ∧ (∀ d os, (Sort.grow (redrawn w d) os).cell? ⟨b, 1, none⟩ = some (.int .u64 s.b.toNat)) ∧
    (∀ d os, (Sort.grow (redrawn w d) os).cell? ⟨b, 2, none⟩ = some (.int .u64 s.c.toNat)) ∧ (∀ d os, (Sort.grow (redrawn w d) os).cell? ⟨b, 3, none⟩ = some (.int .u64 s.d.toNat)) :=
  ⟨cell_regrown (h.cell 0 _ rfl), cell_regrown (h.cell 1 _ rfl), cell_regrown (h.cell 2 _ rfl), cell_regrown (h.cell 3 _ rfl)⟩
theorem facts4 {w : World} {b : Nat} {x y z u : Value} {t : TypeId} (h : Blk w b [x, y, z, u] t) :
    w.cell? ⟨b, 0, none⟩ = some x ∧ w.cell? ⟨b, 1, none⟩ = some y ∧ w.cell? ⟨b, 2, none⟩ = some z ∧ w.cell? ⟨b, 3, none⟩ = some u ∧ w.frozen? ⟨b, 0, none⟩ = false ∧ w.frozen? ⟨b, 1, none⟩ = false ∧ w.frozen? ⟨b, 2, none⟩ = false ∧ w.frozen? ⟨b, 3, none⟩ = false :=
  ⟨h.cell 0 _ rfl, h.cell 1 _ rfl, h.cell 2 _ rfl, h.cell 3 _ rfl, h.free 0, h.free 1, h.free 2, h.free 3⟩
theorem put4 {w : World} {b : Nat} {x y z u x' y' z' u' : Value} {t : TypeId} (h : Blk w b [x', y', z', u'] t) : Blk ((((w.setCell ⟨b, 0, none⟩ x).setCell ⟨b, 1, none⟩ y).setCell ⟨b, 2, none⟩ z).setCell ⟨b, 3, none⟩ u) b [x, y, z, u] t :=
  (((h.set 0 x).set 1 y).set 2 z).set 3 u
theorem put4_other {w : World} {b c : Nat} {cs : List Value} {x y z u : Value} {t : TypeId} (hne : b ≠ c) (h : Blk w b cs t) : Blk ((((w.setCell ⟨c, 0, none⟩ x).setCell ⟨c, 1, none⟩ y).setCell ⟨c, 2, none⟩ z).setCell ⟨c, 3, none⟩ u) b cs t :=
  (((h.other _ hne x).other _ hne y).other _ hne z).other _ hne u
theorem put4_below {w w' : World} {n c : Nat} {x y z u : Value} (hc : n ≤ c) (h : Below n w w') : Below n w ((((w'.setCell ⟨c, 0, none⟩ x).setCell ⟨c, 1, none⟩ y).setCell ⟨c, 2, none⟩ z).setCell ⟨c, 3, none⟩ u) :=
  (((h.setCell (p := ⟨c, 0, none⟩) hc x).setCell (p := ⟨c, 1, none⟩) hc y).setCell (p := ⟨c, 2, none⟩) hc z).setCell (p := ⟨c, 3, none⟩) hc u

/-- In such a region: memory has only grown, and two blocks read as they did. -/
abbrev Held2 (w : World) (p q : Nat) (x y : S4) (W : World) : Prop := Below w.heap.size w W ∧
  W.cell? ⟨p, 0, none⟩ = some (.int .u64 x.a.toNat) ∧ W.cell? ⟨p, 1, none⟩ = some (.int .u64 x.b.toNat) ∧ W.cell? ⟨p, 2, none⟩ = some (.int .u64 x.c.toNat) ∧ W.cell? ⟨p, 3, none⟩ = some (.int .u64 x.d.toNat) ∧
  W.cell? ⟨q, 0, none⟩ = some (.int .u64 y.a.toNat) ∧ W.cell? ⟨q, 1, none⟩ = some (.int .u64 y.b.toNat) ∧ W.cell? ⟨q, 2, none⟩ = some (.int .u64 y.c.toNat) ∧ W.cell? ⟨q, 3, none⟩ = some (.int .u64 y.d.toNat)
theorem held2 {w W : World} {p q : Nat} {x y : S4} (hP : Blk w p x.cs 26) (hQ : Blk w q y.cs 26) (hb : Below w.heap.size w W) : Held2 w p q x y W :=
  ⟨hb, (hP.up hb hP.lt).cell 0 _ rfl, (hP.up hb hP.lt).cell 1 _ rfl, (hP.up hb hP.lt).cell 2 _ rfl, (hP.up hb hP.lt).cell 3 _ rfl, (hQ.up hb hQ.lt).cell 0 _ rfl, (hQ.up hb hQ.lt).cell 1 _ rfl, (hQ.up hb hQ.lt).cell 2 _ rfl, (hQ.up hb hQ.lt).cell 3 _ rfl⟩
theorem swap_below {w V : World} {n : Nat} {o o' : Obj} (hn : n ≤ V.heap.size) (h : Below n w (V.alloc o)) : Below n w (V.alloc o') :=
  ⟨h.os, h.tape, h.output, by have := h.size; simpa using this, fun k hk => by
    have := h.block k hk
    rw [Below.heap_alloc V o k (by omega)] at this
    rw [Below.heap_alloc V o' k (by omega)]
    exact this⟩
end Go.Proofs.YtknlkkigiommhaaDoor
