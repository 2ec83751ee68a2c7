/- Laws on processes and frames as values: two frames compared, a process that is built, one in a row of its own. -/
import Derived.Test.YtflpjpdgacjlcaaPra
import Derived.Test.YtflpjpdgacjlcaaP4
import Derived.Test.YtflpjpdgacjlcaaP5
import Derived.Test.YtflpjpdgacjlcaaP1
import Derived.ChangeKeysEq
import Derived.Great.BuildSlice
import Derived.Great.FillDense
import Derived.BigFrame
namespace Go.Proofs.Ytflpjpdgacjlcaa
open Go.RowKit

section
variable {P : Program}
theorem run_items {e : TypeId} {k : IntKind} (he : P.underlying e = some (.int k)) (zs ys : List Int) (hl : zs.length = ys.length) (d : Nat) (w : World) : ∀ m s, s + m = zs.length →
    (Op.eqItems (d + 1) e 1 (zs.map (Value.int k)).toArray (ys.map (Value.int k)).toArray (List.range' s m)).run P w = .ok (zs.drop s == ys.drop s) w
  | 0, s, h => by
    rw [List.drop_eq_nil_of_le (by omega), List.drop_eq_nil_of_le (by omega)]
    simp [Op.eqItems]
  | m + 1, s, h => by
    have hs : s < zs.length := by omega
    have hy : s < ys.length := by omega
    have p1 : (part e (zs.map (Value.int k)).toArray (s * 1)).run P w = .ok (.int k zs[s]) w := part_cell he _ _ _ (by simp [hs]) w
    have p2 : (part e (ys.map (Value.int k)).toArray (s * 1)).run P w = .ok (.int k ys[s]) w := part_cell he _ _ _ (by simp [hy]) w
    have ih := run_items he zs ys hl d w m (s + 1) (by omega)
    rw [List.range'_succ, List.drop_eq_getElem_cons hs, List.drop_eq_getElem_cons hy]
    simp only [Op.eqItems, Sem.run_bind, p1, p2, run_equalIn_int w d e k k _ _ he, Result.andThen_ok]
    cases hc : (zs[s] == ys[s])
    · simp only [Bool.not_false, if_true, Sem.run_pure, List.cons_beq_cons, hc, Bool.false_and]
    · simp only [Bool.not_true, Bool.false_eq_true, if_false, List.cons_beq_cons, hc, Bool.true_and]
      exact ih
theorem eq_arr2 {n : Nat} {T e : TypeId} {k : IntKind} {i : TypeInfo} (hT : P.underlying T = some (.array n e)) (he : P.underlying e = some (.int k)) (hi : P.info? e = some i) (hc : P.cellsOf e = 1) (zs ys : List Int) (hl : zs.length = n) (hy : ys.length = n) (d : Nat) (w : World) :
    (Op.equalIn (d + 2) T (.agg (zs.map (Value.int k)).toArray) (.agg (ys.map (Value.int k)).toArray)).run P w = .ok (zs == ys) w := by
  rw [show d + 2 = (d + 1) + 1 from rfl, run_equalIn_array w (d + 1) _ _ hT hi, hc, List.range_eq_range', run_items he zs ys (by omega) d w n 0 (by omega)]
  rfl
end

/-- A type of frames. -/
structure FT (T : TypeId) : Prop where
  s : Try.prog.underlying T = some (.struct (Try.prog.fieldsOf T))
  f : Try.prog.fieldsOf T = Try.prog.fieldsOf 67
  p : Try.prog.stoodInHeld T = false
  m : Try.prog.eqGuardType Try.prog.depth T = false
theorem ft_prog : FT 67 := ⟨by kernel_rfl, rfl, by kernel_rfl, by kernel_rfl⟩
theorem ft_ref : FT 63 := ⟨by kernel_rfl, by kernel_rfl, by kernel_rfl, by kernel_rfl⟩

set_option maxRecDepth 100000 in
theorem run_eqF {T : TypeId} (hT : FT T) {f g : FR} (hf : f.Ok) (hg : g.Ok) (w : World) : (Op.equalIn 10000 T (.agg f.cells.toArray) (.agg g.cells.toArray)).run Try.prog w = .ok (frEq f g) w := by
  obtain ⟨i3, hi3⟩ : ∃ i, Try.prog.info? 3 = some i := Option.isSome_iff_exists.1 (by kernel_rfl)
  have c3 : Try.prog.cellsOf 3 = 1 := by kernel_rfl
  have p0 : ∀ (f : FR) w, (part 3 f.cells.toArray 0).run Try.prog w = .ok (.int .i64 f.pc) w := fun f => part_cell Try.underlying3 _ 0 _ (by simpa using FR.c_pc f)
  have p1 : ∀ (f : FR) w, (part 4 f.cells.toArray 1).run Try.prog w = .ok (.bool f.bad) w := fun f w => by
    have hagg : (isAgg 4).run Try.prog w = .ok false w := by
      unfold isAgg
      rw [Sem.run_bind, run_underlying Try.underlying4 w]
      rfl
    have := FR.c_bad f
    simp [part, Sem.run_bind, hagg, this]
  have p26 : ∀ {f : FR} (_ : f.Ok) w, (part 3 f.cells.toArray 26).run Try.prog w = .ok (.int .i64 f.depth) w := fun {f} hf => part_cell Try.underlying3 _ 26 _ (by simpa using FR.c_depth hf)
  have p2 : ∀ {f : FR} (_ : f.Ok) w, (part 60 f.cells.toArray 2).run Try.prog w = .ok (.agg (f.regs.map (Value.int .i64)).toArray) w := fun {f} hf w => by
    rw [part_arr (n := 8) Try.underlying60 (fun w => by kernel_rfl), FR.x_regs hf]
  have p10 : ∀ {f : FR} (_ : f.Ok) w, (part 61 f.cells.toArray 10).run Try.prog w = .ok (.agg (f.words.map (Value.int .i64)).toArray) w := fun {f} hf w => by
    rw [part_arr (n := 16) Try.underlying61 (fun w => by kernel_rfl), FR.x_words hf]
  have p27 : ∀ {f : FR} (_ : f.Ok) w, (part 60 f.cells.toArray 27).run Try.prog w = .ok (.agg (f.stack.map (Value.int .i64)).toArray) w := fun {f} hf w => by
    rw [part_arr (n := 8) Try.underlying60 (fun w => by kernel_rfl), FR.x_stack hf]
  have q8 : ∀ (zs ys : List Int) w, zs.length = 8 → ys.length = 8 → (Op.equalIn 9999 60 (.agg (zs.map (Value.int .i64)).toArray) (.agg (ys.map (Value.int .i64)).toArray)).run Try.prog w = .ok (zs == ys) w := fun zs ys w h h' => eq_arr2 Try.underlying60 Try.underlying3 hi3 c3 zs ys h h' 9997 w
  have q16 : ∀ (zs ys : List Int) w, zs.length = 16 → ys.length = 16 → (Op.equalIn 9999 61 (.agg (zs.map (Value.int .i64)).toArray) (.agg (ys.map (Value.int .i64)).toArray)).run Try.prog w = .ok (zs == ys) w := fun zs ys w h h' => eq_arr2 Try.underlying61 Try.underlying3 hi3 c3 zs ys h h' 9997 w
  have qi : ∀ (z y : Int) w, (Op.equalIn 9999 3 (.int .i64 z) (.int .i64 y)).run Try.prog w = .ok (z == y) w := fun z y w => by
    rw [show (9999 : Nat) = 9998 + 1 from rfl, run_equalIn_int w 9998 3 .i64 .i64 z y Try.underlying3]
  have qb : ∀ (z y : Bool) w, (Op.equalIn 9999 4 (.bool z) (.bool y)).run Try.prog w = .ok (z == y) w := fun z y w => by
    rw [show (9999 : Nat) = 9998 + 1 from rfl, run_equalIn_bool' w 9998 4 z y Try.underlying4]
  rw [show (10000 : Nat) = 9999 + 1 from rfl, run_equalIn_agg w 9999 T _ _ hT.s hT.p, hT.f]
  have s1 := q8 _ _ w hf.regs hg.regs
  have s2 := q16 _ _ w hf.words hg.words
  have s3 := q8 _ _ w hf.stack hg.stack
  have k0 := qi f.pc g.pc w
  have k1 := qb f.bad g.bad w
  have k2 := qi f.depth g.depth w
  unfold frEq
  generalize (f.pc == g.pc) = r0 at k0 ⊢
  generalize (f.bad == g.bad) = r1 at k1 ⊢
  generalize (f.regs == g.regs) = r2 at s1 ⊢
  generalize (f.words == g.words) = r3 at s2 ⊢
  generalize (f.depth == g.depth) = r4 at k2 ⊢
  generalize (f.stack == g.stack) = r5 at s3 ⊢
  simp only [Program.fieldsOf, Try.underlying67]
  cases r0
  · simp [Op.eqFields, p0, k0]
  cases r1
  · simp [Op.eqFields, p0, p1, k0, k1]
  cases r2
  · simp [Op.eqFields, p0, p1, p2 hf, p2 hg, k0, k1, s1]
  cases r3
  · simp [Op.eqFields, p0, p1, p2 hf, p2 hg, p10 hf, p10 hg, k0, k1, s1, s2]
  cases r4
  · simp [Op.eqFields, p0, p1, p2 hf, p2 hg, p10 hf, p10 hg, p26 hf, p26 hg, k0, k1, s1, s2, k2]
  cases r5
  · simp [Op.eqFields, p0, p1, p2 hf, p2 hg, p10 hf, p10 hg, p26 hf, p26 hg, p27 hf, p27 hg, k0, k1, s1, s2, k2, s3]
  · simp [Op.eqFields, p0, p1, p2 hf, p2 hg, p10 hf, p10 hg, p26 hf, p26 hg, p27 hf, p27 hg, k0, k1, s1, s2, k2, s3]

/-- Two frames compared, at a walk (under a guard that says yes, or none). -/
theorem eqF {T : TypeId} {w : World} {f g : FR} {ops : Array Oper} {rest : List Oper} {o : Oper} {a : Act} {Q : Exit → Act → World → Prop} (x y : Operand) (u : TypeId) (ho : o.op = .binOp .eql T x y u)
    (hx : a.eval x = .agg f.cells.toArray) (hy : a.eval y = .agg g.cells.toArray) (hw : Region.wanted o (yielded ops a.tmps) = true) (hT : FT T) (hf : f.Ok) (hg : g.Ok) (hk : wpList Try.prog ops Q rest (a.put o.dst (.bool (frEq f g))) w) : wpList Try.prog ops Q (o :: rest) a w :=
  BigFrame.wpList_want hw fun _ hK => by
    unfold Oper.wp execOp
    simp only [ho, hx, hy, Sem.run_bind, run_eqGuard_agg w .eql T x y _ _ hT.m, run_eql_struct, run_eqF hT hf hg, Result.andThen_ok, Sem.run_pure]
    exact hK _ _ hk
theorem eqFr {T : TypeId} {w : World} {f g : FR} {r : Bool} {ops : Array Oper} {rest : List Oper} {o : Oper} {a : Act} {Q : Exit → Act → World → Prop} (x y : Operand) (u : TypeId) (ho : o.op = .binOp .eql T x y u)
    (hx : a.eval x = .agg f.cells.toArray) (hy : a.eval y = .agg g.cells.toArray) (hw : Region.wanted o (yielded ops a.tmps) = true) (hT : FT T) (hf : f.Ok) (hg : g.Ok) (hr : frEq f g = r) (hk : wpList Try.prog ops Q rest (a.put o.dst (.bool r)) w) : wpList Try.prog ops Q (o :: rest) a w :=
  eqF x y u ho hx hy hw hT hf hg (by rw [hr]; exact hk)
section
variable {P : Program}
/-- A struct that is built, its cells told. -/
theorem bdw {T : TypeId} {w : World} {ops : Array Oper} {rest : List Oper} {o : Oper} {a : Act} {Q : Exit → Act → World → Prop} (parts : Array (Nat × Operand)) (cells : Array Value) (ho : o.op = .build T parts) (hw : Region.wanted o (yielded ops a.tmps) = true)
    (hf : P.built T (parts.map fun (i, x) => (i, a.eval x)).toList = some cells) (hk : wpList P ops Q rest (a.put o.dst (.agg cells)) w) : wpList P ops Q (o :: rest) a w :=
  BigFrame.wpList_want hw fun _ hK => wp_build T parts ho (by rw [hf]; rfl) (by rw [hf]; exact hK _ _ hk)
/-- A slice of one struct. -/
theorem fill_one {cs z : Array Value} (hz : z.size = cs.size) (hp : 0 < cs.size) : Instr.fill (fun i => some (i * cs.size, cs.size)) z [(0, .agg cs)] = some cs := by
  obtain ⟨r, h1, h2, h3⟩ := Great.fill_dense hp [.agg cs] 0 z (fun v hv => by rw [List.mem_singleton.1 hv]; rfl) (by simp [hz])
  rw [show ([.agg cs] : List Value).zipIdx 0 = [(.agg cs, 0)] from rfl] at h1
  refine h1.trans ?_
  congr 1
  apply Array.ext_getElem?
  intro k
  rw [h3 k]
  by_cases hk : k < cs.size
  · rw [if_pos (by simp [hk]), Nat.div_eq_of_lt hk, Nat.mod_eq_of_lt hk]
    rfl
  · rw [if_neg (by simp; omega), Array.getElem?_eq_none (by omega), Array.getElem?_eq_none (by omega)]
theorem bs_one {T e : TypeId} {w : World} {ops : Array Oper} {rest : List Oper} {o : Oper} {a : Act} {Q : Exit → Act → World → Prop} (x : Operand) (cs : List Value) (z : Value) (ho : o.op = .buildSlice T 1 #[(0, x)]) (hgd : o.guard = none)
    (hx : a.eval x = .agg cs.toArray) (hu : P.underlying T = some (.slice e)) (hi : (P.info? e).map (·.size) = some cs.length) (hz : (P.info? e).bind (·.zero) = some z) (hp : 0 < cs.length) (hs : cs.length ≤ 1000)
    (hk : wpList P ops Q rest (a.put o.dst (.slice (some ⟨w.heap.size, 0, none⟩) 1 1)) (w.alloc (.cells cs.toArray e))) : wpList P ops Q (o :: rest) a w := by
  cases hie : P.info? e with
  | none => simp [hie] at hi
  | some ie =>
    simp only [hie, Option.map_some, Option.some.injEq, Option.bind_some] at hi hz
    refine wpList_buildSlice hgd T e 1 #[(0, x)] ho cs.toArray ie z hu hie hz (by rw [hi]; omega) (by rw [hi]; omega) ?_ hk
    rw [hi, show (#[(0, x)].map fun (i, x) => (i, a.eval x)).toList = [(0, .agg cs.toArray)] by simp [hx]]
    have := fill_one (cs := cs.toArray) (z := (Array.range (1 * cs.length)).map (z.cells[· % z.cells.size]!)) (by simp) (by simpa using hp)
    simpa using this
end

theorem list8 {α : Type} {l : List α} (h : l.length = 8) : ∃ a0 a1 a2 a3 a4 a5 a6 a7, l = [a0, a1, a2, a3, a4, a5, a6, a7] := by
  match l, h with
  | [a0, a1, a2, a3, a4, a5, a6, a7], _ => exact ⟨a0, a1, a2, a3, a4, a5, a6, a7, rfl⟩
theorem list16 {α : Type} {l : List α} (h : l.length = 16) : ∃ b0 b1 b2 b3 b4 b5 b6 b7 b8 b9 b10 b11 b12 b13 b14 b15, l = [b0, b1, b2, b3, b4, b5, b6, b7, b8, b9, b10, b11, b12, b13, b14, b15] := by
  match l, h with
  | [b0, b1, b2, b3, b4, b5, b6, b7, b8, b9, b10, b11, b12, b13, b14, b15], _ => exact ⟨b0, b1, b2, b3, b4, b5, b6, b7, b8, b9, b10, b11, b12, b13, b14, b15, rfl⟩
set_option maxRecDepth 100000 in
theorem built_p (q : PR) : Try.prog.built 69 [(0, .int .i64 q.gen), (1, .bool q.live), (2, .int .i64 q.prog), (3, .agg q.frm.cells.toArray), (4, .int .i64 q.mode), (5, .int .i64 q.how), (6, .int .i64 q.turn), (7, .slice q.gA q.gn q.gc)] = some (prC q).toArray := by
  obtain ⟨gen, live, prog, ⟨pc, bad, regs, words, depth, stack⟩, ⟨h1, h2, h3⟩, mode, how, turn, gA, gn, gc, gs⟩ := q
  simp only at h1 h2 h3
  obtain ⟨a0, a1, a2, a3, a4, a5, a6, a7, rfl⟩ := list8 h1
  obtain ⟨b0, b1, b2, b3, b4, b5, b6, b7, b8, b9, b10, b11, b12, b13, b14, b15, rfl⟩ := list16 h2
  obtain ⟨c0, c1, c2, c3, c4, c5, c6, c7, rfl⟩ := list8 h3
  kernel_rfl
set_option maxRecDepth 100000 in
theorem built_r (q : PR) : Try.prog.built 66 [(0, .int .i64 q.gen), (1, .bool q.live), (2, .int .i64 q.prog), (3, .agg q.frm.cells.toArray), (4, .int .i64 q.mode), (5, .int .i64 q.how), (6, .int .i64 q.turn), (7, .slice q.gA q.gn q.gc)] = some (prC q).toArray := by
  obtain ⟨gen, live, prog, ⟨pc, bad, regs, words, depth, stack⟩, ⟨h1, h2, h3⟩, mode, how, turn, gA, gn, gc, gs⟩ := q
  simp only at h1 h2 h3
  obtain ⟨a0, a1, a2, a3, a4, a5, a6, a7, rfl⟩ := list8 h1
  obtain ⟨b0, b1, b2, b3, b4, b5, b6, b7, b8, b9, b10, b11, b12, b13, b14, b15, rfl⟩ := list16 h2
  obtain ⟨c0, c1, c2, c3, c4, c5, c6, c7, rfl⟩ := list8 h3
  kernel_rfl
set_option maxRecDepth 100000 in
theorem built4_p (g prog : Int) (f : FR) (ok : f.Ok) : Try.prog.built 69 [(0, .int .i64 g), (1, .bool true), (2, .int .i64 prog), (3, .agg f.cells.toArray)] = some (prC ⟨g, true, prog, f, ok, 0, 0, 0, none, 0, 0, []⟩).toArray := by
  obtain ⟨pc, bad, regs, words, depth, stack⟩ := f
  obtain ⟨h1, h2, h3⟩ := ok
  simp only at h1 h2 h3
  obtain ⟨a0, a1, a2, a3, a4, a5, a6, a7, rfl⟩ := list8 h1
  obtain ⟨b0, b1, b2, b3, b4, b5, b6, b7, b8, b9, b10, b11, b12, b13, b14, b15, rfl⟩ := list16 h2
  obtain ⟨c0, c1, c2, c3, c4, c5, c6, c7, rfl⟩ := list8 h3
  kernel_rfl
set_option maxRecDepth 100000 in
theorem built4_r (g prog : Int) (f : FR) (ok : f.Ok) : Try.prog.built 66 [(0, .int .i64 g), (1, .bool true), (2, .int .i64 prog), (3, .agg f.cells.toArray)] = some (prC ⟨g, true, prog, f, ok, 0, 0, 0, none, 0, 0, []⟩).toArray := by
  obtain ⟨pc, bad, regs, words, depth, stack⟩ := f
  obtain ⟨h1, h2, h3⟩ := ok
  simp only at h1 h2 h3
  obtain ⟨a0, a1, a2, a3, a4, a5, a6, a7, rfl⟩ := list8 h1
  obtain ⟨b0, b1, b2, b3, b4, b5, b6, b7, b8, b9, b10, b11, b12, b13, b14, b15, rfl⟩ := list16 h2
  obtain ⟨c0, c1, c2, c3, c4, c5, c6, c7, rfl⟩ := list8 h3
  kernel_rfl
set_option maxRecDepth 100000 in
theorem built0_p (g : Int) : Try.prog.built 69 [(0, .int .i64 g)] = some (prC (PR.nil g)).toArray := by kernel_rfl
set_option maxRecDepth 100000 in
theorem built0_r (g : Int) : Try.prog.built 66 [(0, .int .i64 g)] = some (prC (PR.nil g)).toArray := by kernel_rfl
set_option maxRecDepth 100000 in
theorem built_fz : Try.prog.built 67 [] = some FR.zero.cells.toArray := by kernel_rfl
set_option maxRecDepth 100000 in
theorem zero_p : (Try.prog.info? 69).bind (·.zero) = some (.agg (prC (PR.nil 0)).toArray) := by kernel_rfl
set_option maxRecDepth 100000 in
theorem zero_r : (Try.prog.info? 66).bind (·.zero) = some (.agg (prC (PR.nil 0)).toArray) := by kernel_rfl
theorem info_p (q : PR) : (Try.prog.info? 69).map (·.size) = some (prC q).length := by rw [prC_len]; kernel_rfl
theorem info_r (q : PR) : (Try.prog.info? 66).map (·.size) = some (prC q).length := by rw [prC_len]; kernel_rfl
theorem info_fp {f : FR} (h : f.Ok) : (Try.prog.info? 67).map (·.size) = some f.cells.length := by rw [FR.cells_len h]; exact info_prog
theorem info_fr {f : FR} (h : f.Ok) : (Try.prog.info? 63).map (·.size) = some f.cells.length := by rw [FR.cells_len h]; exact info_ref
theorem ei_p : EI Try.prog 25 69 (.agg (prC (PR.nil 0)).toArray) 42 352 := ⟨Try.underlying25, by kernel_rfl, rfl, by omega, by omega⟩
theorem ei_r : EI Try.prog 22 66 (.agg (prC (PR.nil 0)).toArray) 42 352 := ⟨Try.underlying22, by kernel_rfl, rfl, by omega, by omega⟩
end Go.Proofs.Ytflpjpdgacjlcaa
