/- Events of the program compared; what regions that draw read of them. -/
import Derived.Test.YtdiiilnebepfdaaGreatDoorReb
import Derived.Test.YtdiiilnebepfdaaGreatDoorE1
namespace Go.Proofs.YtdiiilnebepfdaaGreatDoor
open Go.RowKit

set_option maxRecDepth 100000 in
theorem eq_pev (d : Nat) (k o h n k' o' h' n' : Int) (w : World) : (Op.equalIn (d + 2) 32 (.agg #[.int .i64 k, .int .i64 o, .int .i64 h, .int .i64 n]) (.agg #[.int .i64 k', .int .i64 o', .int .i64 h', .int .i64 n'])).run Tryz.prog w = .ok ((k == k') && (o == o') && (h == h') && (n == n')) w := by
  have hS : Tryz.prog.underlying 32 = some (.struct (Tryz.prog.fieldsOf 32)) := by kernel_rfl
  have hp : Tryz.prog.stoodInHeld 32 = false := by kernel_rfl
  have p0 : ∀ (a b c e : Int) w, (part 3 #[.int .i64 a, .int .i64 b, .int .i64 c, .int .i64 e] 0).run Tryz.prog w = .ok (.int .i64 a) w := fun a b c e w => by kernel_rfl
  have p1 : ∀ (a b c e : Int) w, (part 3 #[.int .i64 a, .int .i64 b, .int .i64 c, .int .i64 e] 1).run Tryz.prog w = .ok (.int .i64 b) w := fun a b c e w => by kernel_rfl
  have p2 : ∀ (a b c e : Int) w, (part 3 #[.int .i64 a, .int .i64 b, .int .i64 c, .int .i64 e] 2).run Tryz.prog w = .ok (.int .i64 c) w := fun a b c e w => by kernel_rfl
  have p3 : ∀ (a b c e : Int) w, (part 3 #[.int .i64 a, .int .i64 b, .int .i64 c, .int .i64 e] 3).run Tryz.prog w = .ok (.int .i64 e) w := fun a b c e w => by kernel_rfl
  have q : ∀ (x y : Int) w, (Op.equalIn (d + 1) 3 (.int .i64 x) (.int .i64 y)).run Tryz.prog w = .ok (x == y) w := fun x y w => run_equalIn_int w d _ .i64 .i64 x y Tryz.underlying3
  rw [show d + 2 = (d + 1) + 1 from rfl, run_equalIn_agg w (d + 1) 32 _ _ hS hp]
  simp only [Program.fieldsOf, Tryz.underlying32]
  have a0 := p0 k o h n
  have a1 := p1 k o h n
  have a2 := p2 k o h n
  have a3 := p3 k o h n
  have b0 := p0 k' o' h' n'
  have b1 := p1 k' o' h' n'
  have b2 := p2 k' o' h' n'
  have b3 := p3 k' o' h' n'
  clear p0 p1 p2 p3
  generalize (#[.int .i64 k, .int .i64 o, .int .i64 h, .int .i64 n] : Array Value) = X at a0 a1 a2 a3 ⊢
  generalize (#[.int .i64 k', .int .i64 o', .int .i64 h', .int .i64 n'] : Array Value) = Y at b0 b1 b2 b3 ⊢
  cases e0 : (k == k') <;> cases e1 : (o == o') <;> cases e2 : (h == h') <;> cases e3 : (n == n') <;> simp [Op.eqFields, a0, a1, a2, a3, b0, b1, b2, b3, q, e0, e1, e2, e3]
theorem neq_pev (k o h n k' o' h' n' : Int) (w : World) : (binOp .neq 32 (.agg #[.int .i64 k, .int .i64 o, .int .i64 h, .int .i64 n]) (.agg #[.int .i64 k', .int .i64 o', .int .i64 h', .int .i64 n'])).run Tryz.prog w = .ok (.bool (!((k == k') && (o == o') && (h == h') && (n == n')))) w := by
  rw [run_neq_struct, eq_pev 9998]
  rfl
theorem eql_pev (k o h n k' o' h' n' : Int) (w : World) : (binOp .eql 32 (.agg #[.int .i64 k, .int .i64 o, .int .i64 h, .int .i64 n]) (.agg #[.int .i64 k', .int .i64 o', .int .i64 h', .int .i64 n'])).run Tryz.prog w = .ok (.bool ((k == k') && (o == o') && (h == h') && (n == n'))) w := by
  rw [run_eql_struct, eq_pev 9998]
  rfl
theorem tk_eqp {o : Oper} {a : Act} {W : World} {t' : TypeId} {x y : Operand} {u v : EV} (ho : o.op = .binOp .eql 32 x y t') (hx : a.eval x = .agg (evC u).toArray) (hy : a.eval y = .agg (evC v).toArray) :
    (execOp a.eval o).run Tryz.prog W = .ok (.value (.bool ((u.k == v.k) && (u.o == v.o) && (u.h == v.h) && (u.n == v.n)))) W := by
  have h1 : ∀ x y, (eqGuard .eql 32 x y (.agg (evC u).toArray) (.agg (evC v).toArray)).run Tryz.prog W = .ok () W := fun x y => run_eqGuard_agg (P := Tryz.prog) W .eql 32 x y (evC u).toArray (evC v).toArray (by kernel_rfl)
  have h2 : (binOp .eql 32 (.agg (evC u).toArray) (.agg (evC v).toArray)).run Tryz.prog W = _ := eql_pev u.k u.o u.h u.n v.k v.o v.h v.n W
  unfold execOp
  simp only [ho, hx, hy, Sem.run_bind, Sem.run_pure, Result.andThen_ok, h1, h2]
theorem tk_eqr {o : Oper} {a : Act} {W : World} {t' : TypeId} {x y : Operand} {u v : EV} (ho : o.op = .binOp .eql 42 x y t') (hx : a.eval x = .agg (evC u).toArray) (hy : a.eval y = .agg (evC v).toArray) :
    (execOp a.eval o).run Tryz.prog W = .ok (.value (.bool ((u.k == v.k) && (u.o == v.o) && (u.h == v.h) && (u.n == v.n)))) W := by
  have h1 : ∀ x y, (eqGuard .eql 42 x y (.agg (evC u).toArray) (.agg (evC v).toArray)).run Tryz.prog W = .ok () W := fun x y => run_eqGuard_agg (P := Tryz.prog) W .eql 42 x y (evC u).toArray (evC v).toArray (by kernel_rfl)
  have h2 : (binOp .eql 42 (.agg (evC u).toArray) (.agg (evC v).toArray)).run Tryz.prog W = _ := eql_rev u.k u.o u.h u.n v.k v.o v.h v.n W
  unfold execOp
  simp only [ho, hx, hy, Sem.run_bind, Sem.run_pure, Result.andThen_ok, h1, h2]
/-- Events compared. -/
def evEq (u v : EV) : Bool := (u.k == v.k) && (u.o == v.o) && (u.h == v.h) && (u.n == v.n)
theorem evEq_iff {u v : EV} : evEq u v = true ↔ u = v := by
  unfold evEq
  obtain ⟨a, b, c, d⟩ := u
  obtain ⟨a', b', c', d'⟩ := v
  simp only [Bool.and_eq_true, beq_iff_eq]
  constructor
  · rintro ⟨⟨⟨rfl, rfl⟩, rfl⟩, rfl⟩
    rfl
  · intro h
    injection h with h1 h2 h3 h4
    exact ⟨⟨⟨h1, h2⟩, h3⟩, h4⟩
theorem evEq_refl (u : EV) : evEq u u = true := evEq_iff.2 rfl
theorem tk_eqr_refl {o : Oper} {a : Act} {W : World} {t' : TypeId} {x y : Operand} (u : EV) (ho : o.op = .binOp .eql 42 x y t') (hx : a.eval x = .agg (evC u).toArray) (hy : a.eval y = .agg (evC u).toArray) :
    (execOp a.eval o).run Tryz.prog W = .ok (.value (.bool true)) W := by
  have h := tk_eqr (W := W) ho hx hy
  rwa [show ((u.k == u.k) && (u.o == u.o) && (u.h == u.h) && (u.n == u.n)) = true from evEq_refl u] at h
theorem blk_up {w w' : World} {b : Nat} {cs : List Value} {t : TypeId} (h : Blk w b cs t) (hb : Below w.heap.size w w') : Blk w' b cs t := h.up hb h.lt
/-- Memory that has grown from here on. -/
def Up1 (w W : World) : Prop := Below w.heap.size w W
theorem up1_new {w W : World} {cs : Array Value} {t : TypeId} (_ : Up1 w (W.alloc (.cells cs t))) : Blk (W.alloc (.cells cs t)) W.heap.size cs.toList t := by
  have h := Blk.new W cs.toList t
  rwa [Array.toArray_toList] at h
theorem up1_newd {w W : World} {cs : Array Value} {t : TypeId} (_ : Up1 w (W.alloc (.cells cs t)).drew) : Blk (W.alloc (.cells cs t)).drew W.heap.size cs.toList t := by
  have h := Blk.new W cs.toList t
  rwa [Array.toArray_toList] at h
end Go.Proofs.YtdiiilnebepfdaaGreatDoor
