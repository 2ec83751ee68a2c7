/- The contracts of the document's functions of layer 9: its table laid anew, a number's line, a name's number. -/
import Derived.Test.YtnmcieilpomkaaaDoorRows
import Derived.Test.YtnmcieilpomkaaaDoorPm
import Derived.BigRegion
import Derived.WalkKit
import Derived.WalkSpells
import Derived.IntWalk
import Derived.Lib.SliceRun
import Derived.Great.BuildSlice
namespace Go.Proofs.YtnmcieilpomkaaaDoor
open Go.RowKit

def zKind : Value := .agg #[.string ⟨#[]⟩, .string ⟨#[]⟩, .int .i64 0]
/-- A slice literal of 48 lines of the table: one closed fact on what its places hold. -/
theorem wpList_kinds {ops : Array Oper} {rest : List Oper} {o : Oper} {a : Act} {w : World} {Q : Exit → Act → World → Prop} (hg : o.guard = none) (parts : Array (Nat × Operand)) (ho : o.op = .buildSlice 33 48 parts)
    (cells : Array Value) (hf : Instr.fill (fun i => some (i * 3, 3)) ((Array.range 144).map (zKind.cells[· % zKind.cells.size]!)) (parts.map fun (i, x) => (i, a.eval x)).toList = some cells)
    (h : wpList Tryd.prog ops Q rest (a.put o.dst (.slice (some ⟨w.heap.size, 0, none⟩) 48 48)) (w.alloc (.cells cells 23))) : wpList Tryd.prog ops Q (o :: rest) a w := by
  have hs : (Tryd.prog.info? 23).map (·.size) = some 3 := by kernel_rfl
  have hz : (Tryd.prog.info? 23).bind (·.zero) = some zKind := by kernel_rfl
  cases hie : Tryd.prog.info? 23 with
  | none => rw [hie] at hs; cases hs
  | some ie =>
    rw [hie] at hs hz
    have h3 : ie.size = 3 := Option.some.inj hs
    exact wpList_buildSlice hg 33 23 48 parts ho cells ie zKind Tryd.underlying33 hie hz (by rw [h3]; decide) (by rw [h3]; decide) (by rw [h3]; exact hf) h

set_option maxRecDepth 100000 in
set_option maxHeartbeats 1000000 in
theorem c_table (w : World) :
    Calls Tryd.prog 13 #[] w fun e w' => e = .returned (.slice (some ⟨w.heap.size, 0, none⟩) 48 48) ∧ w' = w.alloc (.cells tabC.toArray 23) := by
  generalize hT : tabC.toArray = T
  go_enter Tryd.func13, Tryd.ntmps13
  go_wp2_with (refine wpList_kinds rfl _ rfl T (by rw [← hT]; kernel_rfl) ?_)
  go_ret
  exact ⟨rfl, rfl⟩

/-- The document's table lies in block b. -/
def KT (w : World) (b : Nat) : Prop := ∀ k, k < 48 → w.cell? ⟨b, k * 3, none⟩ = some (.string ⟨(nmN k).toArray⟩) ∧ w.cell? ⟨b, k * 3 + 1, none⟩ = some (.string ⟨(fmN k).toArray⟩) ∧ w.cell? ⟨b, k * 3 + 2, none⟩ = some (.int .i64 (clN k))
theorem KT.of {w : World} {b : Nat} {t : TypeId} (h : Blk w b tabC t) : KT w b := by
  intro k hk
  exact ⟨h.cell _ _ ((tabC_at k 0 (by omega) hk).trans rfl), h.cell _ _ ((tabC_at k 1 (by omega) hk).trans rfl), h.cell _ _ ((tabC_at k 2 (by omega) hk).trans rfl)⟩
theorem KT.up {w w' : World} {b : Nat} (h : KT w b) (hb : Below w.heap.size w w') : KT w' b := by
  intro k hk
  obtain ⟨x, y, z⟩ := h k hk
  exact ⟨(hb.cell (World.block_lt_of_cell? _ _ x)).trans x, (hb.cell (World.block_lt_of_cell? _ _ y)).trans y, (hb.cell (World.block_lt_of_cell? _ _ z)).trans z⟩
theorem k_table (w : World) :
    Calls Tryd.prog 13 #[] w fun e w' => e = .returned (.slice (some ⟨w.heap.size, 0, none⟩) 48 48) ∧ KT w' w.heap.size ∧ Below w.heap.size w w' := by
  refine (c_table w).mono ?_
  rintro e w' ⟨rfl, rfl⟩
  exact ⟨rfl, KT.of (Blk.new w tabC 23), up_alloc w _⟩
end Go.Proofs.YtnmcieilpomkaaaDoor
