/- == of two arrays of numbers that are one. -/
import Derived.Test.YtoimcbdajmghkaaI
import Derived.Laws.StructEq
namespace Go.Proofs.Ytoimcbdajmghkaa
open Go.RowKit
section
variable {P : Program}
theorem la_part {e : TypeId} {k : IntKind} (he : P.underlying e = some (.int k)) (cs : Array Value) (i : Nat) (v : Value) (hv : cs[i]? = some v) (w : World) : (part e cs i).run P w = .ok v w := by
  have hagg : (isAgg e).run P w = .ok false w := by
    unfold isAgg
    rw [Sem.run_bind, run_underlying he w]
    rfl
  simp [part, Sem.run_bind, hagg, hv]
theorem la_eq {n : Nat} {T e : TypeId} {k : IntKind} (hT : P.underlying T = some (.array n e)) (he : P.underlying e = some (.int k)) (hs : ∀ w, (sizeOf e).run P w = .ok 1 w) (zs : List Int) (hl : zs.length = n) (d : Nat) (w : World) :
    (Op.equalIn (d + 2) T (.agg (zs.map (Value.int k)).toArray) (.agg (zs.map (Value.int k)).toArray)).run P w = .ok true w := by
  rw [show d + 2 = (d + 1) + 1 from rfl]
  unfold Op.equalIn
  simp only [Sem.run_bind, run_underlying hT, Result.andThen_ok, hs, Std.Legacy.Range.forIn_eq_forIn_range', Std.Legacy.Range.size]
  have hm : ∀ i ∈ List.range' 0 ((n - 0 + 1 - 1) / 1) 1, i < n := by
    intro i hi
    rw [List.mem_range'] at hi
    obtain ⟨j, hj, rfl⟩ := hi
    simp at hj ⊢
    omega
  generalize List.range' 0 ((n - 0 + 1 - 1) / 1) 1 = L at hm
  induction L with
  | nil => simp
  | cons i L ih =>
    have hi : i < zs.length := by rw [hl]; exact hm i (by simp)
    have hp : ∀ w, (part e (zs.map (Value.int k)).toArray i).run P w = .ok (.int k zs[i]) w := la_part he _ i _ (by simp [hi])
    have hq : ∀ w, (Op.equalIn (d + 1) e (.int k zs[i]) (.int k zs[i])).run P w = .ok true w := fun w => by
      rw [run_equalIn_int w d e k k zs[i] zs[i] he]
      simp
    simp only [List.forIn_cons, Sem.run_bind, Nat.mul_one, hp, hq, Result.andThen_ok]
    simp only [Nat.mul_one] at ih
    simp only [Bool.not_true, Bool.false_eq_true, if_false, Sem.run_pure, Result.andThen_ok]
    exact ih fun j hj => hm j (by simp [hj])
end
theorem eq_16 (zs : List Int) (hz : zs.length = 16) (w : World) : (Op.equalIn 10000 46 (.agg (zs.map (Value.int .i64)).toArray) (.agg (zs.map (Value.int .i64)).toArray)).run Try.prog w = .ok true w :=
  la_eq Try.underlying46 Try.underlying3 (fun w => by kernel_rfl) zs hz 9998 w
theorem eq_zeros (w : World) : (Op.equalIn 10000 46 (.agg #[.int .i64 0, .int .i64 0, .int .i64 0, .int .i64 0, .int .i64 0, .int .i64 0, .int .i64 0, .int .i64 0, .int .i64 0, .int .i64 0, .int .i64 0, .int .i64 0, .int .i64 0, .int .i64 0, .int .i64 0, .int .i64 0]) (.agg #[.int .i64 0, .int .i64 0, .int .i64 0, .int .i64 0, .int .i64 0, .int .i64 0, .int .i64 0, .int .i64 0, .int .i64 0, .int .i64 0, .int .i64 0, .int .i64 0, .int .i64 0, .int .i64 0, .int .i64 0, .int .i64 0])).run Try.prog w = .ok true w :=
  eq_16 (List.replicate 16 0) rfl w
end Go.Proofs.Ytoimcbdajmghkaa
