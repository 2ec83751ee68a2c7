/- Two frames with the same cells are equal, as the model has it. -/
import Derived.Test.YtdcaiecgholgiaaDoorFc
import Derived.Laws.StructEq
namespace Go.Proofs.YtdcaiecgholgiaaDoor
open Go.RowKit

section
variable {P : Program}
theorem part_cell {e : TypeId} {k : IntKind} (he : P.underlying e = some (.int k)) (cs : Array Value) (i : Nat) (v : Value) (hv : cs[i]? = some v) (w : World) : (part e cs i).run P w = .ok v w := by
  have hagg : (isAgg e).run P w = .ok false w := by
    unfold isAgg
    rw [Sem.run_bind, run_underlying he w]
    rfl
  simp [part, Sem.run_bind, hagg, hv]
theorem eq_arr {n : Nat} {T e : TypeId} {k : IntKind} (hT : P.underlying T = some (.array n e)) (he : P.underlying e = some (.int k)) (hs : ∀ w, (sizeOf e).run P w = .ok 1 w) (zs : List Int) (hl : zs.length = n) (d : Nat) (w : World) :
    (Op.equalIn (d + 2) T (.agg (zs.map (Value.int k)).toArray) (.agg (zs.map (Value.int k)).toArray)).run P w = .ok true w := by
  rw [show d + 2 = (d + 1) + 1 from rfl]
  unfold Op.equalIn
  simp only [Sem.run_bind, run_underlying hT, Result.andThen_ok, hs, Std.Legacy.Range.forIn_eq_forIn_range', Std.Legacy.Range.size]
  have hm : ∀ i ∈ List.range' 0 ((n - 0 + 1 - 1) / 1) 1, i < n := by
    intro i hi
    rw [List.mem_range'] at hi
    obtain ⟨j, hj, rfl⟩ := hi
    simp at hj ⊢
    omega
  generalize List.range' 0 ((n - 0 + 1 - 1) / 1) 1 = L at hm
  induction L with
  | nil => simp
  | cons i L ih =>
    have hi : i < zs.length := by rw [hl]; exact hm i (by simp)
    have hp : ∀ w, (part e (zs.map (Value.int k)).toArray i).run P w = .ok (.int k zs[i]) w := part_cell he _ i _ (by simp [hi])
    have hq : ∀ w, (Op.equalIn (d + 1) e (.int k zs[i]) (.int k zs[i])).run P w = .ok true w := fun w => by
      rw [run_equalIn_int w d e k k zs[i] zs[i] he]
      simp
    simp only [List.forIn_cons, Sem.run_bind, Nat.mul_one, hp, hq, Result.andThen_ok]
    simp only [Nat.mul_one] at ih
    simp only [Bool.not_true, Bool.false_eq_true, if_false, Sem.run_pure, Result.andThen_ok]
    exact ih fun j hj => hm j (by simp [hj])
theorem part_arr {T e : TypeId} {n : Nat} (hT : P.underlying T = some (.array n e)) (hs : ∀ w, (sizeOf T).run P w = .ok n w) (cs : Array Value) (i : Nat) (w : World) : (part T cs i).run P w = .ok (.agg (cs.extract i (i + n))) w := by
  have hagg : (isAgg T).run P w = .ok true w := by
    unfold isAgg
    rw [Sem.run_bind, run_underlying hT w]
    rfl
  simp [part, Sem.run_bind, hagg, hs]
end
theorem FR.x_regs {f : FR} (h : f.Ok) : f.cells.toArray.extract 2 (2 + 8) = (f.regs.map (Value.int .i64)).toArray := by
  apply Array.toList_inj.1
  simp only [FR.cells, List.extract_toArray, List.extract_eq_take_drop]
  simp [h.regs]
theorem FR.x_words {f : FR} (h : f.Ok) : f.cells.toArray.extract 10 (10 + 16) = (f.words.map (Value.int .i64)).toArray := by
  apply Array.toList_inj.1
  simp only [FR.cells, List.extract_toArray, List.extract_eq_take_drop]
  simp [h.regs, h.words]
theorem FR.x_stack {f : FR} (h : f.Ok) : f.cells.toArray.extract 27 (27 + 8) = (f.stack.map (Value.int .i64)).toArray := by
  apply Array.toList_inj.1
  simp only [FR.cells, List.extract_toArray, List.extract_eq_take_drop]
  simp [h.regs, h.words, List.drop_append]
  rw [List.drop_eq_nil_of_le (by simp [h.regs]), List.drop_eq_nil_of_le (by simp [h.words]), List.nil_append, List.nil_append, List.take_of_length_le (by simp [h.stack])]
set_option maxRecDepth 100000 in
theorem run_eqP {f : FR} (hf : f.Ok) (w : World) : (Op.equalIn 10000 26 (.agg f.cells.toArray) (.agg f.cells.toArray)).run Tryd.prog w = .ok true w := by
  have u3 := Tryd.underlying3
  have a3 := Tryd.isAgg3
  have z3 := Tryd.sizeOf3
  have hS : Tryd.prog.underlying 26 = some (.struct (Tryd.prog.fieldsOf 26)) := by kernel_rfl
  have hp : Tryd.prog.stoodInHeld 26 = false := by kernel_rfl
  have p0 : ∀ w, (part 3 f.cells.toArray 0).run Tryd.prog w = .ok (.int .i64 f.pc) w := part_cell Tryd.underlying3 _ 0 _ (by simpa using FR.c_pc f)
  have p1 : ∀ w, (part 4 f.cells.toArray 1).run Tryd.prog w = .ok (.bool f.bad) w := fun w => by
    have hagg : (isAgg 4).run Tryd.prog w = .ok false w := by
      unfold isAgg
      rw [Sem.run_bind, run_underlying Tryd.underlying4 w]
      rfl
    have := FR.c_bad f
    simp [part, Sem.run_bind, hagg, this]
  have p26 : ∀ w, (part 3 f.cells.toArray 26).run Tryd.prog w = .ok (.int .i64 f.depth) w := part_cell Tryd.underlying3 _ 26 _ (by simpa using FR.c_depth hf)
  have p2 : ∀ w, (part 22 f.cells.toArray 2).run Tryd.prog w = .ok (.agg (f.regs.map (Value.int .i64)).toArray) w := fun w => by
    rw [part_arr (n := 8) Tryd.underlying22 (fun w => by kernel_rfl), FR.x_regs hf]
  have p10 : ∀ w, (part 23 f.cells.toArray 10).run Tryd.prog w = .ok (.agg (f.words.map (Value.int .i64)).toArray) w := fun w => by
    rw [part_arr (n := 16) Tryd.underlying23 (fun w => by kernel_rfl), FR.x_words hf]
  have p27 : ∀ w, (part 22 f.cells.toArray 27).run Tryd.prog w = .ok (.agg (f.stack.map (Value.int .i64)).toArray) w := fun w => by
    rw [part_arr (n := 8) Tryd.underlying22 (fun w => by kernel_rfl), FR.x_stack hf]
  have q8 : ∀ (zs : List Int) w, zs.length = 8 → (Op.equalIn 9999 22 (.agg (zs.map (Value.int .i64)).toArray) (.agg (zs.map (Value.int .i64)).toArray)).run Tryd.prog w = .ok true w := fun zs w h => eq_arr Tryd.underlying22 Tryd.underlying3 (fun w => by kernel_rfl) zs h 9997 w
  have q16 : ∀ (zs : List Int) w, zs.length = 16 → (Op.equalIn 9999 23 (.agg (zs.map (Value.int .i64)).toArray) (.agg (zs.map (Value.int .i64)).toArray)).run Tryd.prog w = .ok true w := fun zs w h => eq_arr Tryd.underlying23 Tryd.underlying3 (fun w => by kernel_rfl) zs h 9997 w
  have qi : ∀ (z : Int) w, (Op.equalIn 9999 3 (.int .i64 z) (.int .i64 z)).run Tryd.prog w = .ok true w := fun z w => by
    rw [show (9999 : Nat) = 9998 + 1 from rfl, run_equalIn_int w 9998 3 .i64 .i64 z z Tryd.underlying3]
    simp
  have qb : ∀ (z : Bool) w, (Op.equalIn 9999 4 (.bool z) (.bool z)).run Tryd.prog w = .ok true w := fun z w => by
    rw [show (9999 : Nat) = 9998 + 1 from rfl, run_equalIn_bool' w 9998 4 z z Tryd.underlying4]
    simp
  rw [show (10000 : Nat) = 9999 + 1 from rfl, run_equalIn_agg w 9999 26 _ _ hS hp]
  simp only [Program.fieldsOf, Tryd.underlying26]
  simp [Op.eqFields, p0, p1, p2, p10, p26, p27, qi, qb, q8 _ _ hf.regs, q8 _ _ hf.stack, q16 _ _ hf.words]
end Go.Proofs.YtdcaiecgholgiaaDoor
