/- Two frames of the document's type with the same cells are equal. -/
import Derived.Test.YtdcaiecgholgiaaDoorFq
namespace Go.Proofs.YtdcaiecgholgiaaDoor
open Go.RowKit

set_option maxRecDepth 100000 in
theorem run_eqR {f : FR} (hf : f.Ok) (w : World) : (Op.equalIn 10000 25 (.agg f.cells.toArray) (.agg f.cells.toArray)).run Tryd.prog w = .ok true w := by
  have u3 := Tryd.underlying3
  have a3 := Tryd.isAgg3
  have z3 := Tryd.sizeOf3
  have hS : Tryd.prog.underlying 25 = some (.struct (Tryd.prog.fieldsOf 25)) := by kernel_rfl
  have hp : Tryd.prog.stoodInHeld 25 = false := by kernel_rfl
  have p0 : ∀ w, (part 3 f.cells.toArray 0).run Tryd.prog w = .ok (.int .i64 f.pc) w := part_cell Tryd.underlying3 _ 0 _ (by simpa using FR.c_pc f)
  have p1 : ∀ w, (part 4 f.cells.toArray 1).run Tryd.prog w = .ok (.bool f.bad) w := fun w => by
    have hagg : (isAgg 4).run Tryd.prog w = .ok false w := by
      unfold isAgg
      rw [Sem.run_bind, run_underlying Tryd.underlying4 w]
      rfl
    have := FR.c_bad f
    simp [part, Sem.run_bind, hagg, this]
  have p26 : ∀ w, (part 3 f.cells.toArray 26).run Tryd.prog w = .ok (.int .i64 f.depth) w := part_cell Tryd.underlying3 _ 26 _ (by simpa using FR.c_depth hf)
  have p2 : ∀ w, (part 22 f.cells.toArray 2).run Tryd.prog w = .ok (.agg (f.regs.map (Value.int .i64)).toArray) w := fun w => by
    rw [part_arr (n := 8) Tryd.underlying22 (fun w => by kernel_rfl), FR.x_regs hf]
  have p10 : ∀ w, (part 23 f.cells.toArray 10).run Tryd.prog w = .ok (.agg (f.words.map (Value.int .i64)).toArray) w := fun w => by
    rw [part_arr (n := 16) Tryd.underlying23 (fun w => by kernel_rfl), FR.x_words hf]
  have p27 : ∀ w, (part 22 f.cells.toArray 27).run Tryd.prog w = .ok (.agg (f.stack.map (Value.int .i64)).toArray) w := fun w => by
    rw [part_arr (n := 8) Tryd.underlying22 (fun w => by kernel_rfl), FR.x_stack hf]
  have q8 : ∀ (zs : List Int) w, zs.length = 8 → (Op.equalIn 9999 22 (.agg (zs.map (Value.int .i64)).toArray) (.agg (zs.map (Value.int .i64)).toArray)).run Tryd.prog w = .ok true w := fun zs w h => eq_arr Tryd.underlying22 Tryd.underlying3 (fun w => by kernel_rfl) zs h 9997 w
  have q16 : ∀ (zs : List Int) w, zs.length = 16 → (Op.equalIn 9999 23 (.agg (zs.map (Value.int .i64)).toArray) (.agg (zs.map (Value.int .i64)).toArray)).run Tryd.prog w = .ok true w := fun zs w h => eq_arr Tryd.underlying23 Tryd.underlying3 (fun w => by kernel_rfl) zs h 9997 w
  have qi : ∀ (z : Int) w, (Op.equalIn 9999 3 (.int .i64 z) (.int .i64 z)).run Tryd.prog w = .ok true w := fun z w => by
    rw [show (9999 : Nat) = 9998 + 1 from rfl, run_equalIn_int w 9998 3 .i64 .i64 z z Tryd.underlying3]
    simp
  have qb : ∀ (z : Bool) w, (Op.equalIn 9999 4 (.bool z) (.bool z)).run Tryd.prog w = .ok true w := fun z w => by
    rw [show (9999 : Nat) = 9998 + 1 from rfl, run_equalIn_bool' w 9998 4 z z Tryd.underlying4]
    simp
  rw [show (10000 : Nat) = 9999 + 1 from rfl, run_equalIn_agg w 9999 25 _ _ hS hp]
  simp only [Program.fieldsOf, Tryd.underlying25]
  simp [Op.eqFields, p0, p1, p2, p10, p26, p27, qi, qb, q8 _ _ hf.regs, q8 _ _ hf.stack, q16 _ _ hf.words]
end Go.Proofs.YtdcaiecgholgiaaDoor
