/- What the laws on frames lay and compare: a frame stored in a new block, loaded under a guard, compared with itself. -/
import Derived.Test.YtdcaiecgholgiaaDoorFx
import Derived.Test.YtdcaiecgholgiaaDoorFi
import Derived.Test.YtdcaiecgholgiaaDoorFk
import Derived.Test.YtdcaiecgholgiaaDoorFo
import Derived.Test.YtdcaiecgholgiaaDoorFp
import Derived.Test.YtdcaiecgholgiaaDoorFq
import Derived.Test.YtdcaiecgholgiaaDoorFr
namespace Go.Proofs.YtdcaiecgholgiaaDoor
open Go.RowKit

theorem sn_prog {W : World} {N : Nat} (hN : W.heap.size = N) {f : FR} {ops : Array Oper} {rest : List Oper} {o : Oper} {a : Act} {Q : Exit → Act → World → Prop} (hf : f.Ok) (hgd : o.guard = none) (x y : Operand) (ho : o.op = .store 26 x y)
    (hx : a.eval x = .pointer (some ⟨N, 0, none⟩)) (hy : a.eval y = .agg f.cells.toArray) (hk : wpList Tryd.prog ops Q rest (a.put o.dst undef) (W.alloc (.cells f.cells.toArray 26))) :
    wpList Tryd.prog ops Q (o :: rest) a (W.alloc (.cells #[.int .i64 0, .bool false, .int .i64 0, .int .i64 0, .int .i64 0, .int .i64 0, .int .i64 0, .int .i64 0, .int .i64 0, .int .i64 0, .int .i64 0, .int .i64 0, .int .i64 0, .int .i64 0, .int .i64 0, .int .i64 0, .int .i64 0, .int .i64 0, .int .i64 0, .int .i64 0, .int .i64 0, .int .i64 0, .int .i64 0, .int .i64 0, .int .i64 0, .int .i64 0, .int .i64 0, .int .i64 0, .int .i64 0, .int .i64 0, .int .i64 0, .int .i64 0, .int .i64 0, .int .i64 0, .int .i64 0] 26)) := by
  subst hN
  have e : wpList Tryd.prog ops Q rest (a.put o.dst undef) ((W.alloc (.cells FR.zero.cells.toArray 26)).setRow W.heap.size f.cells.toArray) := by
    rw [World.setRow_alloc_new]
    exact hk
  exact st_prog hf FR.zero_ok (Blk.new W FR.zero.cells 26) hgd x y ho hx hy e
theorem sn_ref {W : World} {N : Nat} (hN : W.heap.size = N) {f : FR} {ops : Array Oper} {rest : List Oper} {o : Oper} {a : Act} {Q : Exit → Act → World → Prop} (hf : f.Ok) (hgd : o.guard = none) (x y : Operand) (ho : o.op = .store 25 x y)
    (hx : a.eval x = .pointer (some ⟨N, 0, none⟩)) (hy : a.eval y = .agg f.cells.toArray) (hk : wpList Tryd.prog ops Q rest (a.put o.dst undef) (W.alloc (.cells f.cells.toArray 25))) :
    wpList Tryd.prog ops Q (o :: rest) a (W.alloc (.cells #[.int .i64 0, .bool false, .int .i64 0, .int .i64 0, .int .i64 0, .int .i64 0, .int .i64 0, .int .i64 0, .int .i64 0, .int .i64 0, .int .i64 0, .int .i64 0, .int .i64 0, .int .i64 0, .int .i64 0, .int .i64 0, .int .i64 0, .int .i64 0, .int .i64 0, .int .i64 0, .int .i64 0, .int .i64 0, .int .i64 0, .int .i64 0, .int .i64 0, .int .i64 0, .int .i64 0, .int .i64 0, .int .i64 0, .int .i64 0, .int .i64 0, .int .i64 0, .int .i64 0, .int .i64 0, .int .i64 0] 25)) := by
  subst hN
  have e : wpList Tryd.prog ops Q rest (a.put o.dst undef) ((W.alloc (.cells FR.zero.cells.toArray 25)).setRow W.heap.size f.cells.toArray) := by
    rw [World.setRow_alloc_new]
    exact hk
  exact st_ref hf FR.zero_ok (Blk.new W FR.zero.cells 25) hgd x y ho hx hy e
theorem lh_ref {w : World} {b : Nat} {f : FR} {t : TypeId} {ops : Array Oper} {rest : List Oper} {o : Oper} {a : Act} {Q : Exit → Act → World → Prop} (hf : f.Ok) (h : Blk w b f.cells t) (x : Operand) (ho : o.op = .load 25 x)
    (hx : a.eval x = .pointer (some ⟨b, 0, none⟩)) (hw : Region.wanted o (yielded ops a.tmps) = true) (hk : wpList Tryd.prog ops Q rest (a.put o.dst (.agg f.cells.toArray)) w) : wpList Tryd.prog ops Q (o :: rest) a w :=
  BigFrame.wpList_want hw fun _ hK => wp_load_row _ x ho b hx t f.cells.toArray (0, 0) _ h Tryd.underlying25 rfl (by rw [List.size_toArray, FR.cells_len hf]; exact info_ref) (hK _ _ hk)

theorem lh_prog {w : World} {b : Nat} {f : FR} {t : TypeId} {ops : Array Oper} {rest : List Oper} {o : Oper} {a : Act} {Q : Exit → Act → World → Prop} (hf : f.Ok) (h : Blk w b f.cells t) (x : Operand) (ho : o.op = .load 26 x)
    (hx : a.eval x = .pointer (some ⟨b, 0, none⟩)) (hw : Region.wanted o (yielded ops a.tmps) = true) (hk : wpList Tryd.prog ops Q rest (a.put o.dst (.agg f.cells.toArray)) w) : wpList Tryd.prog ops Q (o :: rest) a w :=
  BigFrame.wpList_want hw fun _ hK => wp_load_row _ x ho b hx t f.cells.toArray (0, 0) _ h Tryd.underlying26 rfl (by rw [List.size_toArray, FR.cells_len hf]; exact info_prog) (hK _ _ hk)

theorem eq_ref {w : World} {f : FR} {ops : Array Oper} {rest : List Oper} {o : Oper} {a : Act} {Q : Exit → Act → World → Prop} (hf : f.Ok) (x y : Operand) (u : TypeId) (ho : o.op = .binOp .eql 25 x y u)
    (hx : a.eval x = .agg f.cells.toArray) (hy : a.eval y = .agg f.cells.toArray) (hw : Region.wanted o (yielded ops a.tmps) = true) (hk : wpList Tryd.prog ops Q rest (a.put o.dst (.bool true)) w) : wpList Tryd.prog ops Q (o :: rest) a w :=
  BigFrame.wpList_want hw fun _ hK => by
    have hm : Tryd.prog.eqGuardType Tryd.prog.depth 25 = false := by kernel_rfl
    unfold Oper.wp execOp
    simp only [ho, hx, hy, Sem.run_bind, run_eqGuard_agg w .eql 25 x y _ _ hm, run_eql_struct, run_eqR hf, Result.andThen_ok, Sem.run_pure]
    exact hK _ _ hk
theorem eq_prog {w : World} {f : FR} {ops : Array Oper} {rest : List Oper} {o : Oper} {a : Act} {Q : Exit → Act → World → Prop} (hf : f.Ok) (x y : Operand) (u : TypeId) (ho : o.op = .binOp .eql 26 x y u)
    (hx : a.eval x = .agg f.cells.toArray) (hy : a.eval y = .agg f.cells.toArray) (hw : Region.wanted o (yielded ops a.tmps) = true) (hk : wpList Tryd.prog ops Q rest (a.put o.dst (.bool true)) w) : wpList Tryd.prog ops Q (o :: rest) a w :=
  BigFrame.wpList_want hw fun _ hK => by
    have hm : Tryd.prog.eqGuardType Tryd.prog.depth 26 = false := by kernel_rfl
    unfold Oper.wp execOp
    simp only [ho, hx, hy, Sem.run_bind, run_eqGuard_agg w .eql 26 x y _ _ hm, run_eql_struct, run_eqP hf, Result.andThen_ok, Sem.run_pure]
    exact hK _ _ hk
theorem ne_prog {w : World} {f : FR} {ops : Array Oper} {rest : List Oper} {o : Oper} {a : Act} {Q : Exit → Act → World → Prop} (hf : f.Ok) (x y : Operand) (u : TypeId) (ho : o.op = .binOp .neq 26 x y u)
    (hx : a.eval x = .agg f.cells.toArray) (hy : a.eval y = .agg f.cells.toArray) (hw : Region.wanted o (yielded ops a.tmps) = true) (hk : wpList Tryd.prog ops Q rest (a.put o.dst (.bool false)) w) : wpList Tryd.prog ops Q (o :: rest) a w :=
  BigFrame.wpList_want hw fun _ hK => by
    have hm : Tryd.prog.eqGuardType Tryd.prog.depth 26 = false := by kernel_rfl
    unfold Oper.wp execOp
    simp only [ho, hx, hy, Sem.run_bind, run_eqGuard_agg w .neq 26 x y _ _ hm, run_neq_struct, run_eqP hf, Result.andThen_ok, Sem.run_pure]
    exact hK _ _ hk

end Go.Proofs.YtdcaiecgholgiaaDoor
