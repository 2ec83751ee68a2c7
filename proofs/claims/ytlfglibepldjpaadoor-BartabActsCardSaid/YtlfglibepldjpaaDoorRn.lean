/- In a region that draws: a struct that is built of parts. -/
import Derived.Test.YtlfglibepldjpaaDoorRx
import Derived.Test.YtlfglibepldjpaaDoorRm
import Derived.Laws.Tables
namespace Go.Proofs.YtlfglibepldjpaaDoor
open Go.RowKit

theorem tk_build {P : Program} {o : Oper} {a : Act} {W : World} {t : TypeId} {parts : Array (Nat × Operand)} {cells : Array Value} (ho : o.op = .build t parts) (hf : P.built t (parts.map fun (i, x) => (i, a.eval x)).toList = some cells) :
    (execOp a.eval o).run P W = .ok (.value (.agg cells)) W := by
  unfold execOp
  simp only [ho, Sem.run_bind, run_build W t _ cells hf, Result.andThen_ok]
  rfl
end Go.Proofs.YtlfglibepldjpaaDoor
