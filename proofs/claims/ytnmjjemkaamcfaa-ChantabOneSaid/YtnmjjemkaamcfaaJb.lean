/- A channel in memory: four slices that read so; its cells, loaded and stored whole. -/
import Derived.Test.YtnmjjemkaamcfaaJa
import Derived.Test.YtnmjjemkaamcfaaLc
import Derived.Laws.Rows
import Derived.Laws.CopyOwn
import Derived.Deep.WholeRow
import Derived.BigFrame
namespace Go.Proofs.Ytnmjjemkaamcfaa
open Go.RowKit

/-- A slice as a value. -/
structure SL where
  A : Option Addr
  n : Nat
  c : Nat
def SL.val (s : SL) : Value := .slice s.A s.n s.c
/-- A channel's four slices. -/
structure SM where
  (V W S G : SL)
def SL.nil : SL := ⟨none, 0, 0⟩
def SM.nil : SM := ⟨SL.nil, SL.nil, SL.nil, SL.nil⟩
/-- They read as the channel's lists. -/
structure ChW (w : World) (pl : Nat → Prop) (C : CP) (M : SM) : Prop where
  v : LnW w pl M.V.A M.V.n M.V.c C.V
  w_ : LnW w pl M.W.A M.W.n M.W.c C.W
  s : LnW w pl M.S.A M.S.n M.S.c C.S
  g : LnW w pl M.G.A M.G.n M.G.c C.G
theorem ChW.below {w w' : World} {pl : Nat → Prop} {C : CP} {M : SM} (h : ChW w pl C M) (hb : Below w.heap.size w w') : ChW w' pl C M := ⟨h.v.below hb, h.w_.below hb, h.s.below hb, h.g.below hb⟩
theorem ChW.only {s : Nat → Prop} {w w' : World} {pl : Nat → Prop} {C : CP} {M : SM} (h : ChW w pl C M) (o : Only s w w') (hs : ∀ k, s k → ¬ pl k) : ChW w' pl C M := ⟨h.v.only o hs, h.w_.only o hs, h.s.only o hs, h.g.only o hs⟩
theorem ChW.lo {w : World} {pl pl' : Nat → Prop} {C : CP} {M : SM} (h : ChW w pl C M) (hl : ∀ b, pl b → pl' b) : ChW w pl' C M := ⟨h.v.lo hl, h.w_.lo hl, h.s.lo hl, h.g.lo hl⟩
theorem ChW.nil (w : World) (pl : Nat → Prop) {C : CP} (h : C.V = [] ∧ C.W = [] ∧ C.S = [] ∧ C.G = []) : ChW w pl C SM.nil := by
  obtain ⟨h1, h2, h3, h4⟩ := h
  refine ⟨?_, ?_, ?_, ?_⟩
  · rw [h1]; exact LnW.none w pl
  · rw [h2]; exact LnW.none w pl
  · rw [h3]; exact LnW.none w pl
  · rw [h4]; exact LnW.none w pl
/-- The channel's cells. -/
def chC (C : CP) (M : SM) : List Value := [.int .i64 C.k, .int .i64 C.r, .int .i64 C.i, .int .i64 C.o, .int .i64 C.lv, .slice M.V.A M.V.n M.V.c, .bool C.os, .slice M.W.A M.W.n M.W.c, .slice M.S.A M.S.n M.S.c, .bool C.is, .slice M.G.A M.G.n M.G.c]
theorem chC_one {C : CP} {M : SM} : ∀ v ∈ chC C M, v.oneCell' = true := by
  intro v hv
  simp only [chC, List.mem_cons, List.not_mem_nil, or_false] at hv
  rcases hv with rfl | rfl | rfl | rfl | rfl | rfl | rfl | rfl | rfl | rfl | rfl <;> rfl
def chZ : List Value := [.int .i64 0, .int .i64 0, .int .i64 0, .int .i64 0, .int .i64 0, .slice none 0 0, .bool false, .slice none 0 0, .slice none 0 0, .bool false, .slice none 0 0]
theorem Blk.row {w : World} {b : Nat} {cs : List Value} {t : TypeId} (h : Blk w b cs t) (ds : List Value) : Blk (w.setRow b ds.toArray) b ds t := setRow_heap w b _ _ t (0, 0) h
theorem Blk.rowOther {w : World} {b g : Nat} {cs : List Value} {t : TypeId} (h : Blk w b cs t) (hg : b ≠ g) (ds : Array Value) : Blk (w.setRow g ds) b cs t := (setRow_other w g b ds hg).trans h
theorem Only.row {s : Nat → Prop} {a b : World} (h : Only s a b) {g : Nat} (hg : s g) (ds : Array Value) : Only s a (b.setRow g ds) :=
  ⟨h.os, h.tape, h.output, by simpa [World.setRow] using h.size, fun i hi hs => (setRow_other b g i ds (by rintro rfl; exact hs hg)).trans (h.block i hi hs)⟩

theorem Blk.ck {w : World} {b : Nat} {C : CP} {M : SM} {t : TypeId} (h : Blk w b (chC C M) t) : w.cell? ⟨b, 0, none⟩ = some (.int .i64 C.k) := h.cell 0 _ rfl
theorem Blk.cr {w : World} {b : Nat} {C : CP} {M : SM} {t : TypeId} (h : Blk w b (chC C M) t) : w.cell? ⟨b, 1, none⟩ = some (.int .i64 C.r) := h.cell 1 _ rfl
theorem Blk.ci {w : World} {b : Nat} {C : CP} {M : SM} {t : TypeId} (h : Blk w b (chC C M) t) : w.cell? ⟨b, 2, none⟩ = some (.int .i64 C.i) := h.cell 2 _ rfl
theorem Blk.co {w : World} {b : Nat} {C : CP} {M : SM} {t : TypeId} (h : Blk w b (chC C M) t) : w.cell? ⟨b, 3, none⟩ = some (.int .i64 C.o) := h.cell 3 _ rfl
theorem Blk.clv {w : World} {b : Nat} {C : CP} {M : SM} {t : TypeId} (h : Blk w b (chC C M) t) : w.cell? ⟨b, 4, none⟩ = some (.int .i64 C.lv) := h.cell 4 _ rfl
theorem Blk.cV {w : World} {b : Nat} {C : CP} {M : SM} {t : TypeId} (h : Blk w b (chC C M) t) : w.cell? ⟨b, 5, none⟩ = some (.slice M.V.A M.V.n M.V.c) := h.cell 5 _ rfl
theorem Blk.cos {w : World} {b : Nat} {C : CP} {M : SM} {t : TypeId} (h : Blk w b (chC C M) t) : w.cell? ⟨b, 6, none⟩ = some (.bool C.os) := h.cell 6 _ rfl
theorem Blk.cW {w : World} {b : Nat} {C : CP} {M : SM} {t : TypeId} (h : Blk w b (chC C M) t) : w.cell? ⟨b, 7, none⟩ = some (.slice M.W.A M.W.n M.W.c) := h.cell 7 _ rfl
theorem Blk.cS {w : World} {b : Nat} {C : CP} {M : SM} {t : TypeId} (h : Blk w b (chC C M) t) : w.cell? ⟨b, 8, none⟩ = some (.slice M.S.A M.S.n M.S.c) := h.cell 8 _ rfl
theorem Blk.cis {w : World} {b : Nat} {C : CP} {M : SM} {t : TypeId} (h : Blk w b (chC C M) t) : w.cell? ⟨b, 9, none⟩ = some (.bool C.is) := h.cell 9 _ rfl
theorem Blk.cG {w : World} {b : Nat} {C : CP} {M : SM} {t : TypeId} (h : Blk w b (chC C M) t) : w.cell? ⟨b, 10, none⟩ = some (.slice M.G.A M.G.n M.G.c) := h.cell 10 _ rfl

section
variable {P : Program}
/-- A struct of cells cs, loaded whole. -/
theorem ld_row {w : World} {b : Nat} {cs : List Value} {t ty : TypeId} {d : TypeDesc} {ops : Array Oper} {rest : List Oper} {o : Oper} {a : Act} {Q : Exit → Act → World → Prop} (h : Blk w b cs t) (hgd : o.guard = none) (x : Operand) (ho : o.op = .load ty x)
    (hx : a.eval x = .pointer (some ⟨b, 0, none⟩)) (hu : P.underlying ty = some d) (hd : (match d with | .struct _ | .array _ _ => true | _ => false) = true) (hi : (P.info? ty).map (·.size) = some cs.length) (hk : wpList P ops Q rest (a.put o.dst (.agg cs.toArray)) w) : wpList P ops Q (o :: rest) a w :=
  wpList_load_row hgd ty x ho b hx t cs.toArray (0, 0) d h hu hd (by rw [List.size_toArray]; exact hi) hk
/-- The same, under a guard that says yes. -/
theorem lw_row {w : World} {b : Nat} {cs : List Value} {t ty : TypeId} {d : TypeDesc} {ops : Array Oper} {rest : List Oper} {o : Oper} {a : Act} {Q : Exit → Act → World → Prop} (h : Blk w b cs t) (x : Operand) (ho : o.op = .load ty x)
    (hx : a.eval x = .pointer (some ⟨b, 0, none⟩)) (hu : P.underlying ty = some d) (hd : (match d with | .struct _ | .array _ _ => true | _ => false) = true) (hi : (P.info? ty).map (·.size) = some cs.length) (hw : Region.wanted o (yielded ops a.tmps) = true) (hk : wpList P ops Q rest (a.put o.dst (.agg cs.toArray)) w) : wpList P ops Q (o :: rest) a w :=
  BigFrame.wpList_want hw fun _ hK => wp_load_row ty x ho b hx t cs.toArray (0, 0) d h hu hd (by rw [List.size_toArray]; exact hi) (hK _ _ hk)
theorem st_row {w : World} {b : Nat} {cs ds : List Value} {t ty : TypeId} {ops : Array Oper} {rest : List Oper} {o : Oper} {a : Act} {Q : Exit → Act → World → Prop} (h : Blk w b ds t) (hgd : o.guard = none) (x y : Operand) (ho : o.op = .store ty x y)
    (hx : a.eval x = .pointer (some ⟨b, 0, none⟩)) (hy : a.eval y = .agg cs.toArray) (hi : (P.info? ty).map (·.size) = some cs.length) (hl : ds.length = cs.length) (h1 : ∀ v ∈ cs, v.oneCell' = true) (hk : wpList P ops Q rest (a.put o.dst undef) (w.setRow b cs.toArray)) : wpList P ops Q (o :: rest) a w :=
  wpList_store_row hgd ty x y ho b _ hx hy t ds.toArray h (by rw [List.size_toArray]; exact hi) (by rw [List.size_toArray, List.size_toArray]; exact hl) (by
    rw [Array.all_eq_true_iff_forall_mem]
    intro v hv
    exact h1 v (by simpa using hv)) hk
theorem load_row {w : World} {b : Nat} {cs : List Value} {t ty : TypeId} {d : TypeDesc} (h : Blk w b cs t) (hu : P.underlying ty = some d) (hd : (match d with | .struct _ | .array _ _ => true | _ => false) = true) (hi : (P.info? ty).map (·.size) = some cs.length) :
    (loadVar ty ⟨b, 0, none⟩).run P w = .ok (.agg cs.toArray) w := run_loadVar_row w b t ty cs.toArray (0, 0) d h hu hd (by rw [List.size_toArray]; exact hi)
/-- What a function gives back that has a cell for a struct, and a number. -/
theorem results_ce {fn : Func} {p t : Tmp} {ty : TypeId} {d : TypeDesc} (hr : fn.results = #[.cell p ty, .tmp t]) (tmps : Array Value) (w : World) (b : Nat) {cs : List Value} {t' : TypeId}
    (hp : tmps.getD p undef = .pointer (some ⟨b, 0, none⟩)) (h : Blk w b cs t') (hu : P.underlying ty = some d) (hd : (match d with | .struct _ | .array _ _ => true | _ => false) = true) (hi : (P.info? ty).map (·.size) = some cs.length) :
    (results fn tmps).run P w = .ok (.tuple #[.agg cs.toArray, tmps.getD t undef]) w := by
  have hp' : tmps[p]?.getD undef = .pointer (some ⟨b, 0, none⟩) := by simpa using hp
  simp [results, hr, hp', asAddr, load_row h hu hd hi]
theorem results_c {fn : Func} {p : Tmp} {ty : TypeId} {d : TypeDesc} (hr : fn.results = #[.cell p ty]) (tmps : Array Value) (w : World) (b : Nat) {cs : List Value} {t' : TypeId}
    (hp : tmps.getD p undef = .pointer (some ⟨b, 0, none⟩)) (h : Blk w b cs t') (hu : P.underlying ty = some d) (hd : (match d with | .struct _ | .array _ _ => true | _ => false) = true) (hi : (P.info? ty).map (·.size) = some cs.length) :
    (results fn tmps).run P w = .ok (.agg cs.toArray) w := by
  have hp' : tmps[p]?.getD undef = .pointer (some ⟨b, 0, none⟩) := by simpa using hp
  simp [results, hr, hp', asAddr, load_row h hu hd hi]
/-- A struct's fresh variable, stored whole. -/
theorem sn_row {w' W : World} {N : Nat} {cs zs : List Value} {ty t : TypeId} {ops : Array Oper} {rest : List Oper} {o : Oper} {a : Act} {Q : Exit → Act → World → Prop} (x y : Operand) (ho : o.op = .store ty x y) (hgd : o.guard = none)
    (hx : a.eval x = .pointer (some ⟨N, 0, none⟩)) (hy : a.eval y = .agg cs.toArray) (hW : w' = W.alloc (.cells zs.toArray t)) (hN : W.heap.size = N) (hi : (P.info? ty).map (·.size) = some cs.length) (hl : zs.length = cs.length) (h1 : ∀ v ∈ cs, v.oneCell' = true)
    (hk : wpList P ops Q rest (a.put o.dst undef) (W.alloc (.cells cs.toArray t))) : wpList P ops Q (o :: rest) a w' := by
  subst hN
  subst hW
  have e : wpList P ops Q rest (a.put o.dst undef) ((W.alloc (.cells zs.toArray t)).setRow W.heap.size cs.toArray) := by
    rw [World.setRow_alloc_new]
    exact hk
  exact st_row (Blk.new W zs t) hgd x y ho hx hy hi hl h1 e
end

/-- The world of a function that boxes its channel. -/
structure Bx1 (w w2 : World) (cs : List Value) (t : TypeId) : Prop where
  up : Below w.heap.size w w2
  box : Blk w2 w.heap.size cs t
theorem bx1 (w : World) (cs : List Value) (t : TypeId) : Bx1 w (w.alloc (.cells cs.toArray t)) cs t := ⟨up_alloc _ _, Blk.new w cs t⟩
theorem Bx1.next {w w2 w3 : World} {cs : List Value} {t : TypeId} (h : Bx1 w w2 cs t) (hb : Below w2.heap.size w2 w3) : Bx1 w w3 cs t := ⟨up_trans h.up hb, h.box.up hb h.box.lt⟩
/-- The world of one that has a cell for its answer, too. -/
structure Bx2 (w w2 : World) (cs : List Value) (t : TypeId) (zs : List Value) (t' : TypeId) : Prop where
  up : Below w.heap.size w w2
  box : Blk w2 w.heap.size cs t
  res : Blk w2 (w.heap.size + 1) zs t'
theorem bx2 (w : World) (cs : List Value) (t : TypeId) (zs : List Value) (t' : TypeId) : Bx2 w ((w.alloc (.cells cs.toArray t)).alloc (.cells zs.toArray t')) cs t zs t' := by
  refine ⟨two_up _ _ _, (Blk.new w cs t).alloc _, ?_⟩
  have := Blk.new (w.alloc (.cells cs.toArray t)) zs t'
  rw [show (w.alloc (.cells cs.toArray t)).heap.size = w.heap.size + 1 by simp] at this
  exact this
theorem Bx2.next {w w2 w3 : World} {cs : List Value} {t : TypeId} {zs : List Value} {t' : TypeId} (h : Bx2 w w2 cs t zs t') (hb : Below w2.heap.size w2 w3) : Bx2 w w3 cs t zs t' := ⟨up_trans h.up hb, h.box.up hb h.box.lt, h.res.up hb h.res.lt⟩
end Go.Proofs.Ytnmjjemkaamcfaa
