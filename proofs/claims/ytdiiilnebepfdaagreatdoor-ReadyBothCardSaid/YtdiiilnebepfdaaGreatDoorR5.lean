/- The law ReadyGuards of layer 29. What ReadyBoth's loops carry. -/
import Derived.Test.YtdiiilnebepfdaaGreatDoorR4
import Derived.Test.YtdiiilnebepfdaaGreatDoorRpc
import Derived.Test.YtdiiilnebepfdaaGreatDoorReh
import Derived.Test.YtdiiilnebepfdaaGreatDoorC4
import Derived.BigQuiet
import Derived.Deep.QuietTactic
import Derived.Test.YtdiiilnebepfdaaGreatDoorRei
import Derived.Test.YtdiiilnebepfdaaGreatDoorD4
import Derived.Test.YtdiiilnebepfdaaGreatDoorD1
import Derived.Test.YtdiiilnebepfdaaGreatDoorRel
import Derived.Deep.DeepCutAuto
import Derived.Test.YtdiiilnebepfdaaGreatDoorRem
import Derived.Test.YtdiiilnebepfdaaGreatDoorR1
import Derived.Test.YtdiiilnebepfdaaGreatDoorRpb
import Derived.Test.YtdiiilnebepfdaaGreatDoorA1
namespace Go.Proofs.YtdiiilnebepfdaaGreatDoor
open Go.RowKit

theorem Few.rows {V : VQ} (h : Few V) (A1 : Option Addr) (c1 : Nat) (A2 : Option Addr) (c2 : Nat) (A3 : Option Addr) (c3 : Nat) (A4 : Option Addr) (c4 : Nat) : Few (V.rows A1 c1 A2 c2 A3 c3 A4 c4) := ⟨h.ch, h.cl, h.br, h.wt, h.ws, h.tm, h.tw, h.lv⟩
/-- To, as it is used. -/
theorem to_one {V : VQ} {Q : List RB} {w : World} (h : VX w V Q) (hf : FewV V) (hs : smallT Q = true) :
    Calls Tryz.prog 8 #[.agg (vC V).toArray] w fun e w' => ∃ V1 : VQ, e = .returned (.agg (vC V1).toArray) ∧ VW w' V1 ∧ FewV V1 ∧ V1.p = V.p ∧ Below w.heap.size w w' :=
  (c_to29 h hf.f hs).mono (by
    rintro e w' ⟨a1, d1, a2, d2, a3, d3, a4, d4, rfl, hv, hb⟩
    exact ⟨_, rfl, hv, ⟨hf.f.rows _ _ _ _ _ _ _ _, hf.t⟩, rfl, hb⟩)
end Go.Proofs.YtdiiilnebepfdaaGreatDoor

namespace Go.Proofs.YtdiiilnebepfdaaGreatDoor
open Go.RowKit

theorem wpList_oneEv {P : Program} {w : World} {ops : Array Oper} {rest : List Oper} {o : Oper} {a : Act} {Q : Exit → Act → World → Prop} {t e : TypeId} {bytes : Nat} (E : EI P t e (.agg (([.int .i64 0, .int .i64 0, .int .i64 0, .int .i64 0] : List Value)).toArray) 4 bytes) (hg : o.guard = none) (x : Operand)
    (ho : o.op = .buildSlice t 1 #[(0, x)]) (b : EV) (hx : a.eval x = .agg (evC b).toArray)
    (h : wpList P ops Q rest (a.put o.dst (.slice (some ⟨w.heap.size, 0, none⟩) 1 1)) (w.alloc (.cells (evC b).toArray e))) : wpList P ops Q (o :: rest) a w := by
  obtain ⟨i, hi, hz, hs, hb⟩ := info_parts E.info
  refine wpList_buildSlice hg t e 1 _ ho (evC b).toArray i _ E.under hi hz (by rw [hs]; decide) (by rw [hs]; decide) ?_ h
  rw [hs]
  have e1 : ((#[(0, x)] : Array (Nat × Operand)).map fun (i, x) => (i, a.eval x)).toList = [(0, .agg (evC b).toArray)] := by simp [hx]
  rw [e1]
  have e2 : Instr.fill (fun i => some (i * 4, 4)) ((Array.range (1 * 4)).map ((Value.agg (([.int .i64 0, .int .i64 0, .int .i64 0, .int .i64 0] : List Value)).toArray).cells[· % (Value.agg (([.int .i64 0, .int .i64 0, .int .i64 0, .int .i64 0] : List Value)).toArray).cells.size]!)) [(0, .agg (evC b).toArray)] = some (evC b).toArray := by kernel_rfl
  exact e2
theorem rd_evC {w W : World} {y : EV} {t : TypeId} {n : Nat} (hW : w.alloc (.cells (evC y).toArray t) = W) (hn : n = w.heap.size) : RD W tt 4 (some ⟨n, 0, none⟩) 1 ([y].flatMap evC) := by
  subst hW
  exact hn ▸ RD.of_blk (xs := [y].flatMap evC) (t := t) (Blk.new w (evC y) t) rfl trivial
theorem eq_evC (u v : EV) {b : Bool} (h : evEq u v = b) (W : World) : (binOp .eql 32 (.agg (evC u).toArray) (.agg (evC v).toArray)).run Tryz.prog W = .ok (.bool b) W := by
  subst h
  exact eql_pev u.k u.o u.h u.n v.k v.o v.h v.n W
theorem ne_evC (u : EV) {b : Bool} (h : (!evEq u evZ) = b) (W : World) : (binOp .neq 32 (.agg (evC u).toArray) (.agg #[.int .i64 0, .int .i64 0, .int .i64 0, .int .i64 0])).run Tryz.prog W = .ok (.bool b) W := by
  subst h
  exact neq_pev u.k u.o u.h u.n 0 0 0 0 W
theorem flat_le {α β : Type} {f : α → List β} {m : Nat} : ∀ {l : List α}, (∀ x ∈ l, (f x).length ≤ m) → (l.flatMap f).length ≤ m * l.length
  | [], _ => by simp
  | a :: l, h => by
    have h1 := h a List.mem_cons_self
    have h2 := flat_le (l := l) fun x hx => h x (List.mem_cons_of_mem _ hx)
    rw [List.flatMap_cons, List.length_append, List.length_cons, Nat.mul_succ]
    omega
theorem knW_len {V : VP} (h : ∀ x ∈ V.Ws, x.2.length ≤ 8) (k : Nat) : (knW V k).length ≤ 8 * k := by
  have h1 : (knW V k).length ≤ 8 * (V.Ws.take k).length := flat_le fun x hx => Nat.le_trans (List.length_filterMap_le _ _) (h x (List.mem_of_mem_take hx))
  have h2 := List.length_take_le k V.Ws
  omega
theorem knG_len {V : VP} (h : ∀ x ∈ V.Ws, x.2.length ≤ 8) (k : Nat) (p : Int) (gs : List GD) (j : Nat) : (knG V k p gs j).length ≤ 8 * k + j := by
  have h1 := knW_len h k
  have h2 := List.length_filterMap_le (rdOf V p) (gs.take j)
  have h3 := List.length_take_le j gs
  unfold knG
  rw [List.length_append]
  omega
theorem RD.int1 {w : World} {pl : Nat → Prop} {A : Option Addr} {n : Nat} {zs : List Int} (h : RD w pl 1 A n (zs.map (Value.int .i64))) {k : Nat} {z : Int} (hz : zs[k]? = some z) (hk : k < n) : ∃ b o, A = some ⟨b, o, Option.none⟩ ∧ pl b ∧ b < w.heap.size ∧ w.cell? ⟨b, o + k, Option.none⟩ = some (.int .i64 z) := by
  obtain ⟨b, o, rfl, h1, h2, h3⟩ := h.at_ (by omega)
  exact ⟨b, o, rfl, h1, h2, h3 k _ (by rw [List.getElem?_map, hz]; rfl)⟩
/-- What stands while one wait's guards are asked. -/
structure LBt (lo n8 bq : Nat) (w6 : World) (q : WQ) (A8 : Option Addr) (nz : Nat) (zs : List Int) (wr : World) : Prop where
  b : Below lo w6 wr
  sz : n8 ≤ wr.heap.size
  l6 : w6.heap.size ≤ wr.heap.size
  bx : Blk wr bq (wqC q) 61
  rd : RD wr (fun b => bq < b ∧ b < n8) 1 A8 nz (zs.map (Value.int .i64))
theorem LBt.next {n8 bq : Nat} {w6 : World} {q : WQ} {A8 : Option Addr} {nz : Nat} {zs : List Int} {wr wr' : World} (h : LBt w6.heap.size n8 bq w6 q A8 nz zs wr) (hb : Below wr.heap.size wr wr') : LBt w6.heap.size n8 bq w6 q A8 nz zs wr' :=
  ⟨up_trans h.b hb, Nat.le_trans h.sz hb.size, Nat.le_trans h.l6 hb.size, blk_up h.bx hb, h.rd.below hb⟩
theorem LBt.grown {n8 bq : Nat} {w6 : World} {q : WQ} {A8 : Option Addr} {nz : Nat} {zs : List Int} {wr wr' : World} {row : Option Nat} (h : LBt w6.heap.size n8 bq w6 q A8 nz zs wr) (hg : wr.grownBy wr' row) (hr : ∀ k, row = some k → w6.heap.size ≤ k ∧ (k < bq ∨ n8 ≤ k)) (hq : bq < n8) : LBt w6.heap.size n8 bq w6 q A8 nz zs wr' := by
  have o : Only (fun k => row = some k) wr wr' := (Only.refl _ _).grown hg fun k e => .inl e
  exact ⟨h.b.grown hg h.l6 fun k e => (hr k e).1, Nat.le_trans h.sz hg.size, Nat.le_trans h.l6 hg.size, (o.block bq h.bx.lt (fun e => by have := hr _ e; omega)).trans h.bx, h.rd.only o fun k e h2 => by have := hr _ e; omega⟩
end Go.Proofs.YtdiiilnebepfdaaGreatDoor
