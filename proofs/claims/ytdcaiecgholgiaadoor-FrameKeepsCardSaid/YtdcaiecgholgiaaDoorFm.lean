/- A process's frame as plain data: its cells in memory, what may be, and what each call makes of it. No model but the cells. -/
import Derived.Test.YtdcaiecgholgiaaDoorWm
import Derived.Lib.ItoaNum
import Derived.Lib.Join
namespace Go.Proofs.YtdcaiecgholgiaaDoor
open Go Go.RowKit

structure FR where
  pc : Int
  bad : Bool
  regs : List Int
  words : List Int
  depth : Int
  stack : List Int
structure FR.Ok (f : FR) : Prop where
  regs : f.regs.length = 8
  words : f.words.length = 16
  stack : f.stack.length = 8
def FR.cells (f : FR) : List Value := .int .i64 f.pc :: .bool f.bad :: (f.regs.map (Value.int .i64) ++ (f.words.map (Value.int .i64) ++ (.int .i64 f.depth :: f.stack.map (Value.int .i64))))
def FR.val (f : FR) : Value := .agg f.cells.toArray
def FR.zero : FR := ⟨0, false, List.replicate 8 0, List.replicate 16 0, 0, List.replicate 8 0⟩

theorem FR.cells_len {f : FR} (h : f.Ok) : f.cells.length = 35 := by
  simp [FR.cells, h.regs, h.words, h.stack]
theorem FR.c_pc (f : FR) : f.cells[0]? = some (.int .i64 f.pc) := rfl
theorem FR.c_bad (f : FR) : f.cells[1]? = some (.bool f.bad) := rfl
theorem FR.c_reg {f : FR} (h : f.Ok) (i : Nat) (x : Int) (hx : f.regs[i]? = some x) : f.cells[2 + i]? = some (.int .i64 x) := by
  have hi := (List.getElem?_eq_some_iff.1 hx).1
  have := h.regs
  rw [Nat.add_comm]
  simp only [FR.cells, List.getElem?_cons_succ]
  rw [List.getElem?_append_left (by simpa using hi), List.getElem?_map, hx]
  rfl
theorem FR.c_word {f : FR} (h : f.Ok) (i : Nat) (x : Int) (hx : f.words[i]? = some x) : f.cells[10 + i]? = some (.int .i64 x) := by
  have hi := (List.getElem?_eq_some_iff.1 hx).1
  have := h.regs
  rw [show 10 + i = (8 + i) + 2 by omega]
  simp only [FR.cells, List.getElem?_cons_succ]
  rw [List.getElem?_append_right (by simp [h.regs]), List.length_map, h.regs, show 8 + i - 8 = i by omega, List.getElem?_append_left (by simpa using hi), List.getElem?_map, hx]
  rfl
theorem FR.c_depth {f : FR} (h : f.Ok) : f.cells[26]? = some (.int .i64 f.depth) := by
  simp only [FR.cells, List.getElem?_cons_succ]
  rw [List.getElem?_append_right (by simp [h.regs]), List.length_map, h.regs, List.getElem?_append_right (by simp [h.words]), List.length_map, h.words]
  rfl
theorem FR.c_stack {f : FR} (h : f.Ok) (i : Nat) (x : Int) (hx : f.stack[i]? = some x) : f.cells[27 + i]? = some (.int .i64 x) := by
  rw [show 27 + i = (25 + i) + 2 by omega]
  simp only [FR.cells, List.getElem?_cons_succ]
  rw [List.getElem?_append_right (by simp [h.regs]; omega), List.length_map, h.regs, List.getElem?_append_right (by simp [h.words]; omega), List.length_map, h.words, show 25 + i - 8 - 16 = i + 1 by omega, List.getElem?_cons_succ, List.getElem?_map, hx]
  rfl
theorem FR.g_reg {f : FR} (h : f.Ok) (i : Nat) (hi : i < 8) : f.cells[2 + i]? = some (.int .i64 (f.regs.getD i 0)) := FR.c_reg h i _ (by
  have hl : i < f.regs.length := by rw [h.regs]; exact hi
  rw [List.getD_eq_getElem?_getD, List.getElem?_eq_getElem hl, Option.getD_some])
theorem FR.g_word {f : FR} (h : f.Ok) (i : Nat) (hi : i < 16) : f.cells[10 + i]? = some (.int .i64 (f.words.getD i 0)) := FR.c_word h i _ (by
  have hl : i < f.words.length := by rw [h.words]; exact hi
  rw [List.getD_eq_getElem?_getD, List.getElem?_eq_getElem hl, Option.getD_some])
theorem FR.g_stack {f : FR} (h : f.Ok) (i : Nat) (hi : i < 8) : f.cells[27 + i]? = some (.int .i64 (f.stack.getD i 0)) := FR.c_stack h i _ (by
  have hl : i < f.stack.length := by rw [h.stack]; exact hi
  rw [List.getD_eq_getElem?_getD, List.getElem?_eq_getElem hl, Option.getD_some])
theorem FR.s_pc (f : FR) (x : Int) : f.cells.set 0 (.int .i64 x) = ({ f with pc := x } : FR).cells := rfl
theorem FR.s_reg {f : FR} (h : f.Ok) (i : Nat) (hi : i < 8) (x : Int) : f.cells.set (2 + i) (.int .i64 x) = ({ f with regs := f.regs.set i x } : FR).cells := by
  rw [Nat.add_comm]
  simp only [FR.cells, List.set_cons_succ]
  rw [List.set_append_left _ _ (by simp [h.regs, hi]), List.map_set]
theorem FR.s_word {f : FR} (h : f.Ok) (i : Nat) (hi : i < 16) (x : Int) : f.cells.set (10 + i) (.int .i64 x) = ({ f with words := f.words.set i x } : FR).cells := by
  rw [show 10 + i = (8 + i) + 2 by omega]
  simp only [FR.cells, List.set_cons_succ]
  rw [List.set_append_right _ _ (by simp [h.regs]), List.length_map, h.regs, show 8 + i - 8 = i by omega, List.set_append_left _ _ (by simp [h.words, hi]), List.map_set]
theorem FR.s_depth {f : FR} (h : f.Ok) (x : Int) : f.cells.set 26 (.int .i64 x) = ({ f with depth := x } : FR).cells := by
  simp only [FR.cells, List.set_cons_succ]
  rw [List.set_append_right _ _ (by simp [h.regs]), List.length_map, h.regs, List.set_append_right _ _ (by simp [h.words]), List.length_map, h.words]
  rfl
theorem FR.s_stack {f : FR} (h : f.Ok) (i : Nat) (x : Int) : f.cells.set (27 + i) (.int .i64 x) = ({ f with stack := f.stack.set i x } : FR).cells := by
  rw [show 27 + i = (25 + i) + 2 by omega]
  simp only [FR.cells, List.set_cons_succ]
  rw [List.set_append_right _ _ (by simp [h.regs]; omega), List.length_map, h.regs, List.set_append_right _ _ (by simp [h.words]; omega), List.length_map, h.words, show 25 + i - 8 - 16 = i + 1 by omega, List.set_cons_succ, List.map_set]
theorem FR.one {f : FR} : ∀ v ∈ f.cells, v.oneCell' = true := by
  intro v hv
  simp only [FR.cells, List.mem_cons, List.mem_append, List.mem_map] at hv
  rcases hv with rfl | rfl | ⟨x, _, rfl⟩ | ⟨x, _, rfl⟩ | rfl | ⟨x, _, rfl⟩ <;> rfl
theorem FR.zero_ok : FR.zero.Ok := ⟨rfl, rfl, rfl⟩
theorem FR.Ok.pc {f : FR} (h : f.Ok) (x : Int) : ({ f with pc := x } : FR).Ok := ⟨h.regs, h.words, h.stack⟩
theorem FR.Ok.dep {f : FR} (h : f.Ok) (x : Int) : ({ f with depth := x } : FR).Ok := ⟨h.regs, h.words, h.stack⟩
theorem FR.Ok.reg {f : FR} (h : f.Ok) (i : Nat) (x : Int) : ({ f with regs := f.regs.set i x } : FR).Ok := ⟨by simpa using h.regs, h.words, h.stack⟩
theorem FR.Ok.word {f : FR} (h : f.Ok) (i : Nat) (x : Int) : ({ f with words := f.words.set i x } : FR).Ok := ⟨h.regs, by simpa using h.words, h.stack⟩
theorem FR.Ok.stk {f : FR} (h : f.Ok) (i : Nat) (x : Int) : ({ f with stack := f.stack.set i x } : FR).Ok := ⟨h.regs, h.words, by simpa using h.stack⟩

/- What may be. -/
def placeB (n : Int) : Bool := decide (0 ≤ n ∧ n ≤ 64)
theorem placeB_iff (n : Int) : placeB n = true ↔ 0 ≤ n ∧ n ≤ 64 := by unfold placeB; exact decide_eq_true_iff
theorem placeB_not (n : Int) (e : placeB n = false) : n < 0 ∨ 64 < n := by
  unfold placeB at e
  rw [decide_eq_false_iff_not] at e
  omega
def zeroB (n : Int) : Bool := n == 0
structure FineF (f : FR) : Prop where
  pc0 : 0 ≤ f.pc
  pc1 : f.pc ≤ 64
  d0 : 0 ≤ f.depth
  d1 : f.depth ≤ 8
  regs : ∀ x ∈ f.regs, fineW x = true
  words : ∀ x ∈ f.words, fineW x = true
  low : ∀ (i : Nat) x, f.stack[i]? = some x → (i : Int) < f.depth → placeB x = true
  high : ∀ (i : Nat) x, f.stack[i]? = some x → f.depth ≤ (i : Int) → x = 0
def fineF (f : FR) : Bool := placeB f.pc && (decide (0 ≤ f.depth) && (decide (f.depth ≤ 8) && (f.regs.all fineW && (f.words.all fineW && ((f.stack.take f.depth.toNat).all placeB && (f.stack.drop f.depth.toNat).all zeroB)))))
theorem all_iff {p : Int → Bool} (l : List Int) : l.all p = true ↔ ∀ (i : Nat) x, l[i]? = some x → p x = true := by
  rw [List.all_eq_true]
  exact ⟨fun h i x hx => h x (List.mem_of_getElem? hx), fun h x hx => by
    obtain ⟨i, hi⟩ := List.mem_iff_getElem?.1 hx
    exact h i x hi⟩
theorem fineF_iff (f : FR) : fineF f = true ↔ FineF f := by
  unfold fineF
  simp only [Bool.and_eq_true, decide_eq_true_eq, placeB_iff]
  constructor
  · rintro ⟨⟨h0, h1⟩, h2, h3, h4, h5, h6, h7⟩
    rw [all_iff] at h6 h7
    refine ⟨h0, h1, h2, h3, fun x hx => List.all_eq_true.1 h4 x hx, fun x hx => List.all_eq_true.1 h5 x hx, fun i x hx hi => h6 i x ?_, fun i x hx hi => ?_⟩
    · rw [List.getElem?_take, if_pos (by omega)]
      exact hx
    · have := h7 (i - f.depth.toNat) x (by rw [List.getElem?_drop, show f.depth.toNat + (i - f.depth.toNat) = i by omega]; exact hx)
      simpa [zeroB] using this
  · intro h
    refine ⟨⟨h.pc0, h.pc1⟩, h.d0, h.d1, List.all_eq_true.2 h.regs, List.all_eq_true.2 h.words, (all_iff _).2 fun i x hx => ?_, (all_iff _).2 fun i x hx => ?_⟩
    · rw [List.getElem?_take] at hx
      split at hx
      · exact h.low i x hx (by omega)
      · cases hx
    · rw [List.getElem?_drop] at hx
      have := h.high _ x hx (by omega)
      simp [zeroB, this]
theorem fineF_not {f : FR} (h : ¬ FineF f) : fineF f = false := by
  rw [Bool.eq_false_iff]
  exact fun e => h ((fineF_iff f).1 e)
theorem fineF_of {f : FR} (h : FineF f) : fineF f = true := (fineF_iff f).2 h

/- What each call makes of a frame. -/
def getF (f : FR) (r : Int) : Int × Int := if fineF f = false then (0, 1) else if 0 ≤ r ∧ r < 8 then (f.regs.getD r.toNat 0, 0) else (0, 8)
def loadF (f : FR) (r : Int) : Int × Int := if fineF f = false then (0, 1) else if 0 ≤ r ∧ r < 16 then (f.words.getD r.toNat 0, 0) else (0, 8)
def setF (f : FR) (r x : Int) : FR × Int := if fineF f = false then (f, 1) else if 0 ≤ r ∧ r < 8 ∧ fineW x = true then ({ f with regs := f.regs.set r.toNat x }, 0) else (f, 8)
def storeF (f : FR) (r x : Int) : FR × Int := if fineF f = false then (f, 1) else if 0 ≤ r ∧ r < 16 ∧ fineW x = true then ({ f with words := f.words.set r.toNat x }, 0) else (f, 8)
def goF (f : FR) (pc : Int) : FR × Int := if fineF f = false then (f, 1) else if placeB pc = true then ({ f with pc := pc }, 0) else (f, 8)
def callF (f : FR) (pc : Int) : FR × Int := if fineF f = false then (f, 1) else if f.depth = 8 then (f, 19) else if placeB pc = true ∧ f.pc ≠ 64 then ({ f with pc := pc, stack := f.stack.set f.depth.toNat (f.pc + 1), depth := f.depth + 1 }, 0) else (f, 8)
def retF (f : FR) : FR × Int := if fineF f = false then (f, 1) else if f.depth = 0 then (f, 19) else ({ f with pc := f.stack.getD (f.depth - 1).toNat 0, stack := f.stack.set (f.depth - 1).toNat 0, depth := f.depth - 1 }, 0)
def newF (arg : Int) : FR × Int := if fineW arg = true then ({ FR.zero with regs := [arg, 0, 0, 0, 0, 0, 0, 0] }, 0) else (FR.zero, 8)
theorem newF_ok (arg : Int) : (newF arg).1.Ok := by unfold newF; split <;> exact ⟨rfl, rfl, rfl⟩
theorem setF_ok {f : FR} (h : f.Ok) (r x : Int) : (setF f r x).1.Ok := by
  unfold setF
  repeat' split
  all_goals first | exact h | exact h.reg _ _
theorem storeF_ok {f : FR} (h : f.Ok) (r x : Int) : (storeF f r x).1.Ok := by
  unfold storeF
  repeat' split
  all_goals first | exact h | exact h.word _ _
theorem goF_ok {f : FR} (h : f.Ok) (r : Int) : (goF f r).1.Ok := by
  unfold goF
  repeat' split
  all_goals first | exact h | exact h.pc _
theorem callF_ok {f : FR} (h : f.Ok) (r : Int) : (callF f r).1.Ok := by
  unfold callF
  repeat' split
  all_goals first | exact h | exact ((h.stk _ _).pc _).dep _
theorem retF_ok {f : FR} (h : f.Ok) : (retF f).1.Ok := by
  unfold retF
  repeat' split
  all_goals first | exact h | exact ((h.stk _ _).pc _).dep _

/- Its text. -/
def numsT (xs : List Int) : List UInt8 := xs.flatMap fun n => 32 :: Lib.itoa n
def textF (f : FR) : List UInt8 :=
  if fineF f = false then [] else [112, 99] ++ numsT [f.pc] ++ (if f.bad = true then [32, 98, 97, 100] else []) ++ [32, 114] ++ numsT f.regs ++ [32, 109] ++ numsT f.words ++ [32, 115] ++ numsT (f.stack.take f.depth.toNat)
end Go.Proofs.YtdcaiecgholgiaaDoor
