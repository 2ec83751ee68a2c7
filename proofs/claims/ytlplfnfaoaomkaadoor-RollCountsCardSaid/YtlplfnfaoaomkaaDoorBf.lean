/- Two sets compared, as the model does it. -/
import Derived.Test.YtlplfnfaoaomkaaDoorBd
import Derived.Laws.StructEq
namespace Go.Proofs.YtlplfnfaoaomkaaDoor
open Go.RowKit

theorem part_0 (a b c d : Value) (w : World) : (part 27 #[a, b, c, d] 0).run Tryd.prog w = .ok a w := by kernel_rfl
theorem part_1 (a b c d : Value) (w : World) : (part 27 #[a, b, c, d] 1).run Tryd.prog w = .ok b w := by kernel_rfl
theorem part_2 (a b c d : Value) (w : World) : (part 27 #[a, b, c, d] 2).run Tryd.prog w = .ok c w := by kernel_rfl
theorem part_3 (a b c d : Value) (w : World) : (part 27 #[a, b, c, d] 3).run Tryd.prog w = .ok d w := by kernel_rfl
theorem run_eq4 (x y z u x' y' z' u' : Int) (w : World) :
    (Op.equalIn 10000 29 (.agg #[.int .u64 x, .int .u64 y, .int .u64 z, .int .u64 u]) (.agg #[.int .u64 x', .int .u64 y', .int .u64 z', .int .u64 u'])).run Tryd.prog w = .ok (x == x' && y == y' && z == z' && u == u') w := by
  rw [show (10000 : Nat) = 9999 + 1 from rfl]
  unfold Op.equalIn
  have e : ∀ a b : Int, ∀ w, (Op.equalIn 9999 27 (.int .u64 a) (.int .u64 b)).run Tryd.prog w = .ok (a == b) w := fun a b w => run_equalIn_int w 9998 _ .u64 .u64 a b Tryd.underlying27
  have hs : ∀ w, (sizeOf 27).run Tryd.prog w = .ok 1 w := fun w => by kernel_rfl
  simp only [Sem.run_bind, run_underlying Tryd.underlying29, Result.andThen_ok, hs, Std.Legacy.Range.forIn_eq_forIn_range', Std.Legacy.Range.size]
  rw [show List.range' 0 ((4 - 0 + 1 - 1) / 1) 1 = [0, 1, 2, 3] from rfl]
  simp only [List.forIn_cons, List.forIn_nil, Sem.run_bind, Nat.mul_one, part_0, Result.andThen_ok, e, Sem.run_ite, Sem.run_pure]
  cases hx : (x == x') <;> cases hy : (y == y') <;> cases hz : (z == z') <;> cases hu : (u == u') <;> simp [Sem.run_pure, part_1, part_2, part_3, e, hy, hz, hu]
theorem eq4_of {s t : S4} (h : s = t) : ((s.a.toNat : Int) == t.a.toNat && (s.b.toNat : Int) == t.b.toNat && (s.c.toNat : Int) == t.c.toNat && (s.d.toNat : Int) == t.d.toNat) = true := by
  subst h
  simp
theorem eq4_ne {s t : S4} (h : s ≠ t) : ((s.a.toNat : Int) == t.a.toNat && (s.b.toNat : Int) == t.b.toNat && (s.c.toNat : Int) == t.c.toNat && (s.d.toNat : Int) == t.d.toNat) = false := by
  rw [Bool.eq_false_iff]
  intro hh
  simp only [Bool.and_eq_true, beq_iff_eq] at hh
  apply h
  obtain ⟨a, b, c, d⟩ := s
  obtain ⟨a', b', c', d'⟩ := t
  obtain ⟨⟨⟨h1, h2⟩, h3⟩, h4⟩ := hh
  congr 1
  · exact BitVec.eq_of_toNat_eq (Int.natCast_inj.1 h1)
  · exact BitVec.eq_of_toNat_eq (Int.natCast_inj.1 h2)
  · exact BitVec.eq_of_toNat_eq (Int.natCast_inj.1 h3)
  · exact BitVec.eq_of_toNat_eq (Int.natCast_inj.1 h4)
theorem run_same {s t : S4} (h : s = t) (w : World) : (Op.equalIn 10000 29 s.val t.val).run Tryd.prog w = .ok true w := by
  rw [run_eq4, eq4_of h]
theorem run_other {s t : S4} (h : s ≠ t) (w : World) : (Op.equalIn 10000 29 s.val t.val).run Tryd.prog w = .ok false w := by
  rw [run_eq4, eq4_ne h]
theorem run_zero {s : S4} (h : s = S4.zero) (w : World) : (Op.equalIn 10000 29 s.val (.agg #[.int .u64 0, .int .u64 0, .int .u64 0, .int .u64 0])).run Tryd.prog w = .ok true w := run_same h w
theorem run_some {s : S4} (h : s ≠ S4.zero) (w : World) : (Op.equalIn 10000 29 s.val (.agg #[.int .u64 0, .int .u64 0, .int .u64 0, .int .u64 0])).run Tryd.prog w = .ok false w := run_other h w
end Go.Proofs.YtlplfnfaoaomkaaDoor
