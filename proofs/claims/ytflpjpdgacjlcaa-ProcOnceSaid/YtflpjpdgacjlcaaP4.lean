/- A whole frame loaded and stored; the contract of package frame's fault. The contracts of package frame's Get and Load. The contracts of package frame's Set, Store and Go. The contract of package frame's New. Two frames with the same cells are equal, as the model has it. -/
import Derived.Test.YtflpjpdgacjlcaaP3
import Derived.Test.YtflpjpdgacjlcaaP1
import Derived.Laws.Rows
import Derived.Laws.CopyOwn
import Derived.Laws.StructEq
namespace Go.Proofs.Ytflpjpdgacjlcaa
open Go.RowKit

theorem info_prog : (Try.prog.info? 67).map (·.size) = some 35 := by kernel_rfl

theorem ld_prog {w : World} {b : Nat} {f : FR} {t : TypeId} {ops : Array Oper} {rest : List Oper} {o : Oper} {a : Act} {Q : Exit → Act → World → Prop} (hf : f.Ok) (h : Blk w b f.cells t) (hgd : o.guard = none) (x : Operand) (ho : o.op = .load 67 x)
    (hx : a.eval x = .pointer (some ⟨b, 0, none⟩)) (hk : wpList Try.prog ops Q rest (a.put o.dst (.agg f.cells.toArray)) w) : wpList Try.prog ops Q (o :: rest) a w :=
  wpList_load_row hgd _ x ho b hx t f.cells.toArray (0, 0) _ h Try.underlying67 rfl (by rw [List.size_toArray, FR.cells_len hf]; exact info_prog) hk
theorem st_prog {w : World} {b : Nat} {f g : FR} {t : TypeId} {ops : Array Oper} {rest : List Oper} {o : Oper} {a : Act} {Q : Exit → Act → World → Prop} (hf : f.Ok) (hg : g.Ok) (h : Blk w b g.cells t) (hgd : o.guard = none) (x y : Operand) (ho : o.op = .store 67 x y)
    (hx : a.eval x = .pointer (some ⟨b, 0, none⟩)) (hy : a.eval y = .agg f.cells.toArray) (hk : wpList Try.prog ops Q rest (a.put o.dst undef) (w.setRow b f.cells.toArray)) : wpList Try.prog ops Q (o :: rest) a w :=
  wpList_store_row hgd _ x y ho b _ hx hy t g.cells.toArray h (by rw [List.size_toArray, FR.cells_len hf]; exact info_prog) (by rw [List.size_toArray, List.size_toArray, FR.cells_len hf, FR.cells_len hg]) (by
    rw [Array.all_eq_true_iff_forall_mem]
    intro v hv
    exact FR.one v (by simpa using hv)) hk

def faultE (f : FR) (b : Bool) : Int := if fineF f = false then 1 else if b = true then 0 else 8
end Go.Proofs.Ytflpjpdgacjlcaa

namespace Go.Proofs.Ytflpjpdgacjlcaa
open Go.RowKit

theorem quiet_load {P : Program} {o : Oper} {a : Act} {C : World → Prop} {K : Act → Prop} (ty : TypeId) (x : Operand) (b : Nat) (v : Value) (ho : o.op = .load ty x) (hx : a.eval x = .pointer (some ⟨b, 0, none⟩))
    (hl : ∀ w, C w → (loadVar ty ⟨b, 0, none⟩).run P w = .ok v w) (hk : K (a.put o.dst v)) : o.quiet P a C K :=
  ⟨v, fun w hw => by
    unfold Oper.quietAt execOp
    simp only [ho, hx, Instr.loadAt, Instr.sureAddr, Sem.run_bind, Sem.run_pure, Result.andThen_ok, hl w hw]
    exact ⟨rfl, rfl⟩, hk⟩
/-- A frame's box, seen from all worlds that have grown out of the one in which it is new. -/
theorem load_grown {w : World} {f : FR} (hf : f.Ok) : ∀ W, (∃ p : Regrown, W = Sort.grow (redrawn (w.alloc (.cells f.cells.toArray 67)) p.d) p.os) → (loadVar 67 ⟨w.heap.size, 0, none⟩).run Try.prog W = .ok (.agg f.cells.toArray) W := by
  rintro W ⟨p, rfl⟩
  exact load_prog hf ((Blk.new w f.cells 67).up (below_regrown _ p.d p.os) (Blk.new w f.cells 67).lt)
theorem faultE_no {f : FR} (h : fineF f = false) (b : Bool) : faultE f b = 1 := if_pos h
theorem faultE_8 {f : FR} (h : fineF f = true) : faultE f false = 8 := by unfold faultE; rw [h]; rfl
theorem faultE_0 {f : FR} (h : fineF f = true) : faultE f true = 0 := by unfold faultE; rw [h]; rfl
theorem g_within (n many : Int) {b : Bool} (h : decide (0 ≤ n ∧ n < many) = b) (w : World) (d : Nat) (os : Array Obj) :
    Calls Try.prog 62 #[.int .i64 n, .int .i64 many] (Sort.grow (redrawn w d) os) fun en w' => en = .returned (.bool b) ∧ ∃ p : Regrown, w' = Sort.grow (redrawn w p.d) p.os :=
  grown_call (w := w) (fun W _ => h ▸ same_below (c_within n many W)) d os
theorem g_place (n : Int) {b : Bool} (h : placeB n = b) (w : World) (d : Nat) (os : Array Obj) :
    Calls Try.prog 59 #[.int .i64 n] (Sort.grow (redrawn w d) os) fun en w' => en = .returned (.bool b) ∧ ∃ p : Regrown, w' = Sort.grow (redrawn w p.d) p.os :=
  grown_call (w := w) (fun W _ => h ▸ same_below (c_isPlace n W)) d os
theorem g_wfine (n : Int) {b : Bool} (h : fineW n = b) (w : World) (d : Nat) (os : Array Obj) :
    Calls Try.prog 57 #[.int .i64 n] (Sort.grow (redrawn w d) os) fun en w' => en = .returned (.bool b) ∧ ∃ p : Regrown, w' = Sort.grow (redrawn w p.d) p.os :=
  grown_call (w := w) (fun W _ => h ▸ same_below (c_wfine n W)) d os
end Go.Proofs.Ytflpjpdgacjlcaa

namespace Go.Proofs.Ytflpjpdgacjlcaa
open Go.RowKit

/-- The world of a function that boxes its frame, and has a cell for the frame that it gives. -/
structure Box2 (w w2 : World) (f : FR) (t : TypeId) : Prop where
  up : Below w.heap.size w w2
  box : Blk w2 w.heap.size f.cells t
  res : Blk w2 (w.heap.size + 1) FR.zero.cells t
theorem box2 (w : World) (f : FR) (t : TypeId) : Box2 w ((w.alloc (.cells f.cells.toArray t)).alloc (.cells #[.int .i64 0, .bool false, .int .i64 0, .int .i64 0, .int .i64 0, .int .i64 0, .int .i64 0, .int .i64 0, .int .i64 0, .int .i64 0, .int .i64 0, .int .i64 0, .int .i64 0, .int .i64 0, .int .i64 0, .int .i64 0, .int .i64 0, .int .i64 0, .int .i64 0, .int .i64 0, .int .i64 0, .int .i64 0, .int .i64 0, .int .i64 0, .int .i64 0, .int .i64 0, .int .i64 0, .int .i64 0, .int .i64 0, .int .i64 0, .int .i64 0, .int .i64 0, .int .i64 0, .int .i64 0, .int .i64 0] t)) f t := by
  refine ⟨up_trans (up_alloc _ _) (up_alloc _ _), (Blk.new w f.cells t).alloc _, ?_⟩
  have := Blk.new (w.alloc (.cells f.cells.toArray t)) FR.zero.cells t
  rw [show (w.alloc (.cells f.cells.toArray t)).heap.size = w.heap.size + 1 by simp] at this
  exact this
theorem Blk.sreg {w : World} {b : Nat} {f : FR} {t : TypeId} (hf : f.Ok) (h : Blk w b f.cells t) (k : Nat) (hk : k < 8) (x : Int) : Blk (w.setCell ⟨b, 2 + k, none⟩ (.int .i64 x)) b ({ f with regs := f.regs.set k x } : FR).cells t := by
  rw [← FR.s_reg hf k hk]; exact h.set _ _
theorem Blk.sword {w : World} {b : Nat} {f : FR} {t : TypeId} (hf : f.Ok) (h : Blk w b f.cells t) (k : Nat) (hk : k < 16) (x : Int) : Blk (w.setCell ⟨b, 10 + k, none⟩ (.int .i64 x)) b ({ f with words := f.words.set k x } : FR).cells t := by
  rw [← FR.s_word hf k hk]; exact h.set _ _
theorem Blk.sstack {w : World} {b : Nat} {f : FR} {t : TypeId} (hf : f.Ok) (h : Blk w b f.cells t) (k : Nat) (x : Int) : Blk (w.setCell ⟨b, 27 + k, none⟩ (.int .i64 x)) b ({ f with stack := f.stack.set k x } : FR).cells t := by
  rw [← FR.s_stack hf k]; exact h.set _ _
theorem Blk.sdepth {w : World} {b : Nat} {f : FR} {t : TypeId} (hf : f.Ok) (h : Blk w b f.cells t) (x : Int) : Blk (w.setCell ⟨b, 26, none⟩ (.int .i64 x)) b ({ f with depth := x } : FR).cells t := by
  rw [← FR.s_depth hf]; exact h.set _ _
theorem Blk.spc {w : World} {b : Nat} {f : FR} {t : TypeId} (h : Blk w b f.cells t) (x : Int) : Blk (w.setCell ⟨b, 0, none⟩ (.int .i64 x)) b ({ f with pc := x } : FR).cells t := by
  rw [← FR.s_pc f]; exact h.set _ _
/-- A frame's box, seen from all worlds that have grown out of one in which it lies. -/
theorem load_grown2 {w2 : World} {b : Nat} {f : FR} (hf : f.Ok) (h : Blk w2 b f.cells 67) : ∀ W, (∃ p : Regrown, W = Sort.grow (redrawn w2 p.d) p.os) → (loadVar 67 ⟨b, 0, none⟩).run Try.prog W = .ok (.agg f.cells.toArray) W := by
  rintro W ⟨p, rfl⟩
  exact load_prog hf (h.up (below_regrown _ p.d p.os) h.lt)
/-- What a function with a frame and a number as its results gives back. -/
theorem results_fe {fn : Func} {p t : Tmp} (h : fn.results = #[.cell p 67, .tmp t]) (tmps : Array Value) (w : World) (b : Nat) {f : FR} (hf : f.Ok) {ty : TypeId}
    (hp : tmps.getD p undef = .pointer (some ⟨b, 0, none⟩)) (hg : Blk w b f.cells ty) :
    (results fn tmps).run Try.prog w = .ok (.tuple #[.agg f.cells.toArray, tmps.getD t undef]) w := by
  have hp' : tmps[p]?.getD undef = .pointer (some ⟨b, 0, none⟩) := by simpa using hp
  simp [results, h, hp', asAddr, load_prog hf hg]
end Go.Proofs.Ytflpjpdgacjlcaa

namespace Go.Proofs.Ytflpjpdgacjlcaa
open Go.RowKit

set_option maxRecDepth 100000 in
set_option maxHeartbeats 1000000 in
theorem c_fnew (arg : Int) (w : World) :
    Calls Try.prog 43 #[.int .i64 arg] w fun e w' => e = .returned (.tuple #[.agg (newF arg).1.cells.toArray, .int .i64 (newF arg).2]) ∧ Below w.heap.size w w' := by
  have hR : Blk (w.alloc (.cells #[.int .i64 0, .bool false, .int .i64 0, .int .i64 0, .int .i64 0, .int .i64 0, .int .i64 0, .int .i64 0, .int .i64 0, .int .i64 0, .int .i64 0, .int .i64 0, .int .i64 0, .int .i64 0, .int .i64 0, .int .i64 0, .int .i64 0, .int .i64 0, .int .i64 0, .int .i64 0, .int .i64 0, .int .i64 0, .int .i64 0, .int .i64 0, .int .i64 0, .int .i64 0, .int .i64 0, .int .i64 0, .int .i64 0, .int .i64 0, .int .i64 0, .int .i64 0, .int .i64 0, .int .i64 0, .int .i64 0] 67)) w.heap.size FR.zero.cells 67 := Blk.new w FR.zero.cells 67
  have HR := Lib.hid hR
  clear hR
  have C2 := fun W => c_wfine arg W
  cases hb : fineW arg
  · have HV : newF arg = (FR.zero, 8) := if_neg (by rw [hb]; decide)
    rw [HV]
    simp only [hb] at C2
    clear HV hb
    go_enter Try.func43, Try.ntmps43
    go_wp2_with (first | (go_at_call 57; refine (C2 _).mono ?_; rintro e w' ⟨rfl, rfl⟩) | (refine st_prog FR.zero_ok FR.zero_ok HR.out rfl (.tmp 2) (.tmp 7) rfl rfl rfl ?_))
    refine bodyPost_ret (v := .tuple #[.agg FR.zero.cells.toArray, .int .i64 8]) (results_fe (fn := Try.f43) (p := 2) (t := 3) rfl _ _ _ FR.zero_ok rfl (HR.out.row _)) rfl ?_
    exact ⟨rfl, below_setRow (up_alloc _ _) (Nat.le_refl _) _⟩
  · have HV : newF arg = ({ FR.zero with regs := [arg, 0, 0, 0, 0, 0, 0, 0] }, 0) := if_pos hb
    rw [HV]
    have HG : ({ FR.zero with regs := [arg, 0, 0, 0, 0, 0, 0, 0] } : FR).Ok := ⟨rfl, rfl, rfl⟩
    simp only [hb] at C2
    clear HV hb
    go_enter Try.func43, Try.ntmps43
    go_wp2_with (first | (go_at_call 57; refine (C2 _).mono ?_; rintro e w' ⟨rfl, rfl⟩) | (refine st_prog HG FR.zero_ok HR.out rfl (.tmp 2) (.tmp 10) rfl rfl rfl ?_))
    refine bodyPost_ret (v := .tuple #[.agg ({ FR.zero with regs := [arg, 0, 0, 0, 0, 0, 0, 0] } : FR).cells.toArray, .int .i64 0]) (results_fe (fn := Try.f43) (p := 2) (t := 3) rfl _ _ _ HG rfl (HR.out.row _)) rfl ?_
    exact ⟨rfl, below_setRow (up_alloc _ _) (Nat.le_refl _) _⟩
end Go.Proofs.Ytflpjpdgacjlcaa

namespace Go.Proofs.Ytflpjpdgacjlcaa
open Go.RowKit

section
variable {P : Program}
theorem part_cell {e : TypeId} {k : IntKind} (he : P.underlying e = some (.int k)) (cs : Array Value) (i : Nat) (v : Value) (hv : cs[i]? = some v) (w : World) : (part e cs i).run P w = .ok v w := by
  have hagg : (isAgg e).run P w = .ok false w := by
    unfold isAgg
    rw [Sem.run_bind, run_underlying he w]
    rfl
  simp [part, Sem.run_bind, hagg, hv]
theorem eq_arr {n : Nat} {T e : TypeId} {k : IntKind} (hT : P.underlying T = some (.array n e)) (he : P.underlying e = some (.int k)) (hs : ∀ w, (sizeOf e).run P w = .ok 1 w) (zs : List Int) (hl : zs.length = n) (d : Nat) (w : World) :
    (Op.equalIn (d + 2) T (.agg (zs.map (Value.int k)).toArray) (.agg (zs.map (Value.int k)).toArray)).run P w = .ok true w := by
  rw [show d + 2 = (d + 1) + 1 from rfl]
  unfold Op.equalIn
  simp only [Sem.run_bind, run_underlying hT, Result.andThen_ok, hs, Std.Legacy.Range.forIn_eq_forIn_range', Std.Legacy.Range.size]
  have hm : ∀ i ∈ List.range' 0 ((n - 0 + 1 - 1) / 1) 1, i < n := by
    intro i hi
    rw [List.mem_range'] at hi
    obtain ⟨j, hj, rfl⟩ := hi
    simp at hj ⊢
    omega
  generalize List.range' 0 ((n - 0 + 1 - 1) / 1) 1 = L at hm
  induction L with
  | nil => simp
  | cons i L ih =>
    have hi : i < zs.length := by rw [hl]; exact hm i (by simp)
    have hp : ∀ w, (part e (zs.map (Value.int k)).toArray i).run P w = .ok (.int k zs[i]) w := part_cell he _ i _ (by simp [hi])
    have hq : ∀ w, (Op.equalIn (d + 1) e (.int k zs[i]) (.int k zs[i])).run P w = .ok true w := fun w => by
      rw [run_equalIn_int w d e k k zs[i] zs[i] he]
      simp
    simp only [List.forIn_cons, Sem.run_bind, Nat.mul_one, hp, hq, Result.andThen_ok]
    simp only [Nat.mul_one] at ih
    simp only [Bool.not_true, Bool.false_eq_true, if_false, Sem.run_pure, Result.andThen_ok]
    exact ih fun j hj => hm j (by simp [hj])
theorem part_arr {T e : TypeId} {n : Nat} (hT : P.underlying T = some (.array n e)) (hs : ∀ w, (sizeOf T).run P w = .ok n w) (cs : Array Value) (i : Nat) (w : World) : (part T cs i).run P w = .ok (.agg (cs.extract i (i + n))) w := by
  have hagg : (isAgg T).run P w = .ok true w := by
    unfold isAgg
    rw [Sem.run_bind, run_underlying hT w]
    rfl
  simp [part, Sem.run_bind, hagg, hs]
end
theorem FR.x_regs {f : FR} (h : f.Ok) : f.cells.toArray.extract 2 (2 + 8) = (f.regs.map (Value.int .i64)).toArray := by
  apply Array.toList_inj.1
  simp only [FR.cells, List.extract_toArray, List.extract_eq_take_drop]
  simp [h.regs]
theorem FR.x_words {f : FR} (h : f.Ok) : f.cells.toArray.extract 10 (10 + 16) = (f.words.map (Value.int .i64)).toArray := by
  apply Array.toList_inj.1
  simp only [FR.cells, List.extract_toArray, List.extract_eq_take_drop]
  simp [h.regs, h.words]
theorem FR.x_stack {f : FR} (h : f.Ok) : f.cells.toArray.extract 27 (27 + 8) = (f.stack.map (Value.int .i64)).toArray := by
  apply Array.toList_inj.1
  simp only [FR.cells, List.extract_toArray, List.extract_eq_take_drop]
  simp [h.regs, h.words, List.drop_append]
  rw [List.drop_eq_nil_of_le (by simp [h.regs]), List.drop_eq_nil_of_le (by simp [h.words]), List.nil_append, List.nil_append, List.take_of_length_le (by simp [h.stack])]
set_option maxRecDepth 100000 in
theorem run_eqP {f : FR} (hf : f.Ok) (w : World) : (Op.equalIn 10000 67 (.agg f.cells.toArray) (.agg f.cells.toArray)).run Try.prog w = .ok true w := by
  have u3 := Try.underlying3
  have a3 := Try.isAgg3
  have z3 := Try.sizeOf3
  have hS : Try.prog.underlying 67 = some (.struct (Try.prog.fieldsOf 67)) := by kernel_rfl
  have hp : Try.prog.stoodInHeld 67 = false := by kernel_rfl
  have p0 : ∀ w, (part 3 f.cells.toArray 0).run Try.prog w = .ok (.int .i64 f.pc) w := part_cell Try.underlying3 _ 0 _ (by simpa using FR.c_pc f)
  have p1 : ∀ w, (part 4 f.cells.toArray 1).run Try.prog w = .ok (.bool f.bad) w := fun w => by
    have hagg : (isAgg 4).run Try.prog w = .ok false w := by
      unfold isAgg
      rw [Sem.run_bind, run_underlying Try.underlying4 w]
      rfl
    have := FR.c_bad f
    simp [part, Sem.run_bind, hagg, this]
  have p26 : ∀ w, (part 3 f.cells.toArray 26).run Try.prog w = .ok (.int .i64 f.depth) w := part_cell Try.underlying3 _ 26 _ (by simpa using FR.c_depth hf)
  have p2 : ∀ w, (part 60 f.cells.toArray 2).run Try.prog w = .ok (.agg (f.regs.map (Value.int .i64)).toArray) w := fun w => by
    rw [part_arr (n := 8) Try.underlying60 (fun w => by kernel_rfl), FR.x_regs hf]
  have p10 : ∀ w, (part 61 f.cells.toArray 10).run Try.prog w = .ok (.agg (f.words.map (Value.int .i64)).toArray) w := fun w => by
    rw [part_arr (n := 16) Try.underlying61 (fun w => by kernel_rfl), FR.x_words hf]
  have p27 : ∀ w, (part 60 f.cells.toArray 27).run Try.prog w = .ok (.agg (f.stack.map (Value.int .i64)).toArray) w := fun w => by
    rw [part_arr (n := 8) Try.underlying60 (fun w => by kernel_rfl), FR.x_stack hf]
  have q8 : ∀ (zs : List Int) w, zs.length = 8 → (Op.equalIn 9999 60 (.agg (zs.map (Value.int .i64)).toArray) (.agg (zs.map (Value.int .i64)).toArray)).run Try.prog w = .ok true w := fun zs w h => eq_arr Try.underlying60 Try.underlying3 (fun w => by kernel_rfl) zs h 9997 w
  have q16 : ∀ (zs : List Int) w, zs.length = 16 → (Op.equalIn 9999 61 (.agg (zs.map (Value.int .i64)).toArray) (.agg (zs.map (Value.int .i64)).toArray)).run Try.prog w = .ok true w := fun zs w h => eq_arr Try.underlying61 Try.underlying3 (fun w => by kernel_rfl) zs h 9997 w
  have qi : ∀ (z : Int) w, (Op.equalIn 9999 3 (.int .i64 z) (.int .i64 z)).run Try.prog w = .ok true w := fun z w => by
    rw [show (9999 : Nat) = 9998 + 1 from rfl, run_equalIn_int w 9998 3 .i64 .i64 z z Try.underlying3]
    simp
  have qb : ∀ (z : Bool) w, (Op.equalIn 9999 4 (.bool z) (.bool z)).run Try.prog w = .ok true w := fun z w => by
    rw [show (9999 : Nat) = 9998 + 1 from rfl, run_equalIn_bool' w 9998 4 z z Try.underlying4]
    simp
  rw [show (10000 : Nat) = 9999 + 1 from rfl, run_equalIn_agg w 9999 67 _ _ hS hp]
  simp only [Program.fieldsOf, Try.underlying67]
  simp [Op.eqFields, p0, p1, p2, p10, p26, p27, qi, qb, q8 _ _ hf.regs, q8 _ _ hf.stack, q16 _ _ hf.words]
end Go.Proofs.Ytflpjpdgacjlcaa
