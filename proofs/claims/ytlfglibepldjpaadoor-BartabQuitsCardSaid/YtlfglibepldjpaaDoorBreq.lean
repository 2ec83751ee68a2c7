/- Two barriers compared, as the model has it. -/
import Derived.Test.YtlfglibepldjpaaDoorBrb
import Derived.Laws.StructEq
namespace Go.Proofs.YtlfglibepldjpaaDoor
open Go.RowKit

def brEq (b c : BR) : Bool := b.al == c.al && b.lim == c.lim && (b.r.m.eqb c.r.m && b.r.a.eqb c.r.a) && b.ph == c.ph
theorem eqb_refl (s : S4) : s.eqb s = true := eqb_iff.2 rfl
theorem brEq_refl (b : BR) : brEq b b = true := by unfold brEq; simp [eqb_refl]
theorem brEq_ph {b c : BR} (h : b.ph ≠ c.ph) : brEq b c = false := by unfold brEq; rw [show (b.ph == c.ph) = false from by simpa using h]; simp
theorem eqb_ints (s t : S4) : ((s.a.toNat : Int) == t.a.toNat && (s.b.toNat : Int) == t.b.toNat && (s.c.toNat : Int) == t.c.toNat && (s.d.toNat : Int) == t.d.toNat) = s.eqb t := by
  by_cases h : s = t
  · rw [eq4_of h, eqb_iff.2 h]
  · rw [eq4_ne h, eqb_no.2 h]
theorem eq_word (d : Nat) (x y : Int) (w : World) : (Op.equalIn (d + 1) 60 (.int .u64 x) (.int .u64 y)).run Tryd.prog w = .ok (x == y) w := run_equalIn_int w d _ .u64 .u64 x y Tryd.underlying60
theorem eq_num (d : Nat) (x y : Int) (w : World) : (Op.equalIn (d + 1) 3 (.int .i64 x) (.int .i64 y)).run Tryd.prog w = .ok (x == y) w := run_equalIn_int w d _ .i64 .i64 x y Tryd.underlying3
theorem eq_flag (d : Nat) (x y : Bool) (w : World) : (Op.equalIn (d + 1) 4 (.bool x) (.bool y)).run Tryd.prog w = .ok (x == y) w := run_equalIn_bool' w d _ x y Tryd.underlying4
theorem eq_set (d : Nat) (s t : S4) (w : World) : (Op.equalIn (d + 2) 62 s.val t.val).run Tryd.prog w = .ok (s.eqb t) w := by
  rw [← eqb_ints]
  unfold S4.val
  generalize (s.a.toNat : Int) = x
  generalize (s.b.toNat : Int) = y
  generalize (s.c.toNat : Int) = z
  generalize (s.d.toNat : Int) = u
  generalize (t.a.toNat : Int) = x'
  generalize (t.b.toNat : Int) = y'
  generalize (t.c.toNat : Int) = z'
  generalize (t.d.toNat : Int) = u'
  rw [show d + 2 = (d + 1) + 1 from rfl]
  unfold Op.equalIn
  have hs : ∀ w, (sizeOf 60).run Tryd.prog w = .ok 1 w := fun w => by kernel_rfl
  simp only [Sem.run_bind, run_underlying Tryd.underlying62, Result.andThen_ok, hs, Std.Legacy.Range.forIn_eq_forIn_range', Std.Legacy.Range.size]
  rw [show List.range' 0 ((4 - 0 + 1 - 1) / 1) 1 = [0, 1, 2, 3] from rfl]
  simp only [List.forIn_cons, List.forIn_nil, Sem.run_bind, Nat.mul_one, part_0, Result.andThen_ok, eq_word, Sem.run_ite, Sem.run_pure]
  cases hx : (x == x') <;> cases hy : (y == y') <;> cases hz : (z == z') <;> cases hu : (u == u') <;> simp [Sem.run_pure, part_1, part_2, part_3, eq_word, hy, hz, hu]
theorem eq_roll (d : Nat) (r q : RL) (w : World) : (Op.equalIn (d + 3) 64 (.agg (rlC r).toArray) (.agg (rlC q).toArray)).run Tryd.prog w = .ok (r.m.eqb q.m && r.a.eqb q.a) w := by
  have hS : Tryd.prog.underlying 64 = some (.struct (Tryd.prog.fieldsOf 64)) := by kernel_rfl
  have hp : Tryd.prog.stoodInHeld 64 = false := by kernel_rfl
  have p0 : ∀ (r : RL) w, (part 62 (rlC r).toArray 0).run Tryd.prog w = .ok r.m.val w := fun r w => by kernel_rfl
  have p1 : ∀ (r : RL) w, (part 62 (rlC r).toArray 4).run Tryd.prog w = .ok r.a.val w := fun r w => by kernel_rfl
  rw [show d + 3 = (d + 2) + 1 from rfl, run_equalIn_agg w (d + 2) 64 _ _ hS hp]
  simp only [Program.fieldsOf, Tryd.underlying64]
  cases hx : r.m.eqb q.m <;> cases hy : r.a.eqb q.a <;> simp [Op.eqFields, p0, p1, eq_set, hx, hy]
theorem eq_conf (d : Nat) (a b : Bool) (l m : Int) (w : World) : (Op.equalIn (d + 2) 59 (.agg (cfC a l).toArray) (.agg (cfC b m).toArray)).run Tryd.prog w = .ok (a == b && l == m) w := by
  have hS : Tryd.prog.underlying 59 = some (.struct (Tryd.prog.fieldsOf 59)) := by kernel_rfl
  have hp : Tryd.prog.stoodInHeld 59 = false := by kernel_rfl
  have p0 : ∀ (a : Bool) (l : Int) w, (part 4 (cfC a l).toArray 0).run Tryd.prog w = .ok (.bool a) w := fun a l w => by kernel_rfl
  have p1 : ∀ (a : Bool) (l : Int) w, (part 3 (cfC a l).toArray 1).run Tryd.prog w = .ok (.int .i64 l) w := fun a l w => by kernel_rfl
  rw [show d + 2 = (d + 1) + 1 from rfl, run_equalIn_agg w (d + 1) 59 _ _ hS hp]
  simp only [Program.fieldsOf, Tryd.underlying59]
  have a0 := p0 a l
  have a1 := p1 a l
  have b0 := p0 b m
  have b1 := p1 b m
  have q0 := fun w => eq_flag d a b w
  have q1 := fun w => eq_num d l m w
  clear p0 p1
  generalize (cfC a l).toArray = X at a0 a1 ⊢
  generalize (cfC b m).toArray = Y at b0 b1 ⊢
  generalize (a == b) = u at q0 ⊢
  generalize (l == m) = v at q1 ⊢
  cases u <;> cases v <;> simp [Op.eqFields, a0, a1, b0, b1, q0, q1]
set_option maxRecDepth 100000 in
theorem run_eqB (b c : BR) (w : World) : (Op.equalIn 10000 66 (.agg (brC b).toArray) (.agg (brC c).toArray)).run Tryd.prog w = .ok (brEq b c) w := by
  have hS : Tryd.prog.underlying 66 = some (.struct (Tryd.prog.fieldsOf 66)) := by kernel_rfl
  have hp : Tryd.prog.stoodInHeld 66 = false := by kernel_rfl
  have p0 : ∀ (b : BR) w, (part 59 (brC b).toArray 0).run Tryd.prog w = .ok (.agg (cfC b.al b.lim).toArray) w := fun b w => by kernel_rfl
  have p2 : ∀ (b : BR) w, (part 64 (brC b).toArray 2).run Tryd.prog w = .ok (.agg (rlC b.r).toArray) w := fun b w => by kernel_rfl
  have p10 : ∀ (b : BR) w, (part 3 (brC b).toArray 10).run Tryd.prog w = .ok (.int .i64 b.ph) w := fun b w => by kernel_rfl
  have q0 := fun w => eq_conf 9997 b.al c.al b.lim c.lim w
  have q2 := fun w => eq_roll 9996 b.r c.r w
  have q10 := fun w => eq_num 9998 b.ph c.ph w
  unfold brEq
  rw [show (10000 : Nat) = 9999 + 1 from rfl, run_equalIn_agg w 9999 66 _ _ hS hp]
  simp only [Program.fieldsOf, Tryd.underlying66]
  have a0 := p0 b
  have a2 := p2 b
  have aa := p10 b
  have c0 := p0 c
  have c2 := p2 c
  have ca := p10 c
  clear p0 p2 p10
  generalize (brC b).toArray = X at a0 a2 aa ⊢
  generalize (brC c).toArray = Y at c0 c2 ca ⊢
  generalize (b.al == c.al && b.lim == c.lim) = u at q0 ⊢
  generalize (b.r.m.eqb c.r.m && b.r.a.eqb c.r.a) = v at q2 ⊢
  generalize (b.ph == c.ph) = x at q10 ⊢
  generalize (cfC b.al b.lim).toArray = X0 at a0 q0
  generalize (cfC c.al c.lim).toArray = Y0 at c0 q0
  generalize (rlC b.r).toArray = X2 at a2 q2
  generalize (rlC c.r).toArray = Y2 at c2 q2
  cases u <;> cases v <;> cases x <;> simp [Op.eqFields, a0, a2, aa, c0, c2, ca, q0, q2, q10]
end Go.Proofs.YtlfglibepldjpaaDoor
