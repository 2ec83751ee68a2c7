/- A process's frame as plain data: its cells in memory, what may be, and what each call makes of it. No model but the cells. A frame's box in memory; contracts of package frame's small functions and of each. The contracts of package frame's Fine and fault. -/
import Derived.Test.YtflpjpdgacjlcaaP2
import Derived.Lib.ItoaNum
import Derived.Lib.Join
import Derived.Test.YtflpjpdgacjlcaaP1
import Derived.WalkLawsBesides
import Derived.BigQuiet
import Derived.Deep.QuietTactic
import Derived.Deep.MidRow
namespace Go.Proofs.Ytflpjpdgacjlcaa
open Go Go.RowKit

structure FR where
  pc : Int
  bad : Bool
  regs : List Int
  words : List Int
  depth : Int
  stack : List Int
structure FR.Ok (f : FR) : Prop where
  regs : f.regs.length = 8
  words : f.words.length = 16
  stack : f.stack.length = 8
def FR.cells (f : FR) : List Value := .int .i64 f.pc :: .bool f.bad :: (f.regs.map (Value.int .i64) ++ (f.words.map (Value.int .i64) ++ (.int .i64 f.depth :: f.stack.map (Value.int .i64))))
def FR.val (f : FR) : Value := .agg f.cells.toArray
def FR.zero : FR := ⟨0, false, List.replicate 8 0, List.replicate 16 0, 0, List.replicate 8 0⟩

theorem FR.cells_len {f : FR} (h : f.Ok) : f.cells.length = 35 := by
  simp [FR.cells, h.regs, h.words, h.stack]
theorem FR.c_pc (f : FR) : f.cells[0]? = some (.int .i64 f.pc) := rfl
theorem FR.c_bad (f : FR) : f.cells[1]? = some (.bool f.bad) := rfl
theorem FR.c_reg {f : FR} (h : f.Ok) (i : Nat) (x : Int) (hx : f.regs[i]? = some x) : f.cells[2 + i]? = some (.int .i64 x) := by
  have hi := (List.getElem?_eq_some_iff.1 hx).1
  have := h.regs
  rw [Nat.add_comm]
  simp only [FR.cells, List.getElem?_cons_succ]
  rw [List.getElem?_append_left (by simpa using hi), List.getElem?_map, hx]
  rfl
theorem FR.c_word {f : FR} (h : f.Ok) (i : Nat) (x : Int) (hx : f.words[i]? = some x) : f.cells[10 + i]? = some (.int .i64 x) := by
  have hi := (List.getElem?_eq_some_iff.1 hx).1
  have := h.regs
  rw [show 10 + i = (8 + i) + 2 by omega]
  simp only [FR.cells, List.getElem?_cons_succ]
  rw [List.getElem?_append_right (by simp [h.regs]), List.length_map, h.regs, show 8 + i - 8 = i by omega, List.getElem?_append_left (by simpa using hi), List.getElem?_map, hx]
  rfl
theorem FR.c_depth {f : FR} (h : f.Ok) : f.cells[26]? = some (.int .i64 f.depth) := by
  simp only [FR.cells, List.getElem?_cons_succ]
  rw [List.getElem?_append_right (by simp [h.regs]), List.length_map, h.regs, List.getElem?_append_right (by simp [h.words]), List.length_map, h.words]
  rfl
theorem FR.c_stack {f : FR} (h : f.Ok) (i : Nat) (x : Int) (hx : f.stack[i]? = some x) : f.cells[27 + i]? = some (.int .i64 x) := by
  rw [show 27 + i = (25 + i) + 2 by omega]
  simp only [FR.cells, List.getElem?_cons_succ]
  rw [List.getElem?_append_right (by simp [h.regs]; omega), List.length_map, h.regs, List.getElem?_append_right (by simp [h.words]; omega), List.length_map, h.words, show 25 + i - 8 - 16 = i + 1 by omega, List.getElem?_cons_succ, List.getElem?_map, hx]
  rfl
theorem FR.g_reg {f : FR} (h : f.Ok) (i : Nat) (hi : i < 8) : f.cells[2 + i]? = some (.int .i64 (f.regs.getD i 0)) := FR.c_reg h i _ (by
  have hl : i < f.regs.length := by rw [h.regs]; exact hi
  rw [List.getD_eq_getElem?_getD, List.getElem?_eq_getElem hl, Option.getD_some])
theorem FR.g_word {f : FR} (h : f.Ok) (i : Nat) (hi : i < 16) : f.cells[10 + i]? = some (.int .i64 (f.words.getD i 0)) := FR.c_word h i _ (by
  have hl : i < f.words.length := by rw [h.words]; exact hi
  rw [List.getD_eq_getElem?_getD, List.getElem?_eq_getElem hl, Option.getD_some])
theorem FR.g_stack {f : FR} (h : f.Ok) (i : Nat) (hi : i < 8) : f.cells[27 + i]? = some (.int .i64 (f.stack.getD i 0)) := FR.c_stack h i _ (by
  have hl : i < f.stack.length := by rw [h.stack]; exact hi
  rw [List.getD_eq_getElem?_getD, List.getElem?_eq_getElem hl, Option.getD_some])
theorem FR.s_pc (f : FR) (x : Int) : f.cells.set 0 (.int .i64 x) = ({ f with pc := x } : FR).cells := rfl
theorem FR.s_reg {f : FR} (h : f.Ok) (i : Nat) (hi : i < 8) (x : Int) : f.cells.set (2 + i) (.int .i64 x) = ({ f with regs := f.regs.set i x } : FR).cells := by
  rw [Nat.add_comm]
  simp only [FR.cells, List.set_cons_succ]
  rw [List.set_append_left _ _ (by simp [h.regs, hi]), List.map_set]
theorem FR.s_word {f : FR} (h : f.Ok) (i : Nat) (hi : i < 16) (x : Int) : f.cells.set (10 + i) (.int .i64 x) = ({ f with words := f.words.set i x } : FR).cells := by
  rw [show 10 + i = (8 + i) + 2 by omega]
  simp only [FR.cells, List.set_cons_succ]
  rw [List.set_append_right _ _ (by simp [h.regs]), List.length_map, h.regs, show 8 + i - 8 = i by omega, List.set_append_left _ _ (by simp [h.words, hi]), List.map_set]
theorem FR.s_depth {f : FR} (h : f.Ok) (x : Int) : f.cells.set 26 (.int .i64 x) = ({ f with depth := x } : FR).cells := by
  simp only [FR.cells, List.set_cons_succ]
  rw [List.set_append_right _ _ (by simp [h.regs]), List.length_map, h.regs, List.set_append_right _ _ (by simp [h.words]), List.length_map, h.words]
  rfl
theorem FR.s_stack {f : FR} (h : f.Ok) (i : Nat) (x : Int) : f.cells.set (27 + i) (.int .i64 x) = ({ f with stack := f.stack.set i x } : FR).cells := by
  rw [show 27 + i = (25 + i) + 2 by omega]
  simp only [FR.cells, List.set_cons_succ]
  rw [List.set_append_right _ _ (by simp [h.regs]; omega), List.length_map, h.regs, List.set_append_right _ _ (by simp [h.words]; omega), List.length_map, h.words, show 25 + i - 8 - 16 = i + 1 by omega, List.set_cons_succ, List.map_set]
theorem FR.one {f : FR} : ∀ v ∈ f.cells, v.oneCell' = true := by
  intro v hv
  simp only [FR.cells, List.mem_cons, List.mem_append, List.mem_map] at hv
  rcases hv with rfl | rfl | ⟨x, _, rfl⟩ | ⟨x, _, rfl⟩ | rfl | ⟨x, _, rfl⟩ <;> rfl
theorem FR.zero_ok : FR.zero.Ok := ⟨rfl, rfl, rfl⟩
theorem FR.Ok.pc {f : FR} (h : f.Ok) (x : Int) : ({ f with pc := x } : FR).Ok := ⟨h.regs, h.words, h.stack⟩
theorem FR.Ok.dep {f : FR} (h : f.Ok) (x : Int) : ({ f with depth := x } : FR).Ok := ⟨h.regs, h.words, h.stack⟩
theorem FR.Ok.reg {f : FR} (h : f.Ok) (i : Nat) (x : Int) : ({ f with regs := f.regs.set i x } : FR).Ok := ⟨by simpa using h.regs, h.words, h.stack⟩
theorem FR.Ok.word {f : FR} (h : f.Ok) (i : Nat) (x : Int) : ({ f with words := f.words.set i x } : FR).Ok := ⟨h.regs, by simpa using h.words, h.stack⟩
theorem FR.Ok.stk {f : FR} (h : f.Ok) (i : Nat) (x : Int) : ({ f with stack := f.stack.set i x } : FR).Ok := ⟨h.regs, h.words, by simpa using h.stack⟩

/- What may be. -/
def placeB (n : Int) : Bool := decide (0 ≤ n ∧ n ≤ 64)
theorem placeB_iff (n : Int) : placeB n = true ↔ 0 ≤ n ∧ n ≤ 64 := by unfold placeB; exact decide_eq_true_iff
theorem placeB_not (n : Int) (e : placeB n = false) : n < 0 ∨ 64 < n := by
  unfold placeB at e
  rw [decide_eq_false_iff_not] at e
  omega
def zeroB (n : Int) : Bool := n == 0
structure FineF (f : FR) : Prop where
  pc0 : 0 ≤ f.pc
  pc1 : f.pc ≤ 64
  d0 : 0 ≤ f.depth
  d1 : f.depth ≤ 8
  regs : ∀ x ∈ f.regs, fineW x = true
  words : ∀ x ∈ f.words, fineW x = true
  low : ∀ (i : Nat) x, f.stack[i]? = some x → (i : Int) < f.depth → placeB x = true
  high : ∀ (i : Nat) x, f.stack[i]? = some x → f.depth ≤ (i : Int) → x = 0
def fineF (f : FR) : Bool := placeB f.pc && (decide (0 ≤ f.depth) && (decide (f.depth ≤ 8) && (f.regs.all fineW && (f.words.all fineW && ((f.stack.take f.depth.toNat).all placeB && (f.stack.drop f.depth.toNat).all zeroB)))))
theorem all_iff {p : Int → Bool} (l : List Int) : l.all p = true ↔ ∀ (i : Nat) x, l[i]? = some x → p x = true := by
  rw [List.all_eq_true]
  exact ⟨fun h i x hx => h x (List.mem_of_getElem? hx), fun h x hx => by
    obtain ⟨i, hi⟩ := List.mem_iff_getElem?.1 hx
    exact h i x hi⟩
theorem fineF_iff (f : FR) : fineF f = true ↔ FineF f := by
  unfold fineF
  simp only [Bool.and_eq_true, decide_eq_true_eq, placeB_iff]
  constructor
  · rintro ⟨⟨h0, h1⟩, h2, h3, h4, h5, h6, h7⟩
    rw [all_iff] at h6 h7
    refine ⟨h0, h1, h2, h3, fun x hx => List.all_eq_true.1 h4 x hx, fun x hx => List.all_eq_true.1 h5 x hx, fun i x hx hi => h6 i x ?_, fun i x hx hi => ?_⟩
    · rw [List.getElem?_take, if_pos (by omega)]
      exact hx
    · have := h7 (i - f.depth.toNat) x (by rw [List.getElem?_drop, show f.depth.toNat + (i - f.depth.toNat) = i by omega]; exact hx)
      simpa [zeroB] using this
  · intro h
    refine ⟨⟨h.pc0, h.pc1⟩, h.d0, h.d1, List.all_eq_true.2 h.regs, List.all_eq_true.2 h.words, (all_iff _).2 fun i x hx => ?_, (all_iff _).2 fun i x hx => ?_⟩
    · rw [List.getElem?_take] at hx
      split at hx
      · exact h.low i x hx (by omega)
      · cases hx
    · rw [List.getElem?_drop] at hx
      have := h.high _ x hx (by omega)
      simp [zeroB, this]
theorem fineF_not {f : FR} (h : ¬ FineF f) : fineF f = false := by
  rw [Bool.eq_false_iff]
  exact fun e => h ((fineF_iff f).1 e)
theorem fineF_of {f : FR} (h : FineF f) : fineF f = true := (fineF_iff f).2 h

/- What each call makes of a frame. -/
def getF (f : FR) (r : Int) : Int × Int := if fineF f = false then (0, 1) else if 0 ≤ r ∧ r < 8 then (f.regs.getD r.toNat 0, 0) else (0, 8)
def loadF (f : FR) (r : Int) : Int × Int := if fineF f = false then (0, 1) else if 0 ≤ r ∧ r < 16 then (f.words.getD r.toNat 0, 0) else (0, 8)
def setF (f : FR) (r x : Int) : FR × Int := if fineF f = false then (f, 1) else if 0 ≤ r ∧ r < 8 ∧ fineW x = true then ({ f with regs := f.regs.set r.toNat x }, 0) else (f, 8)
def storeF (f : FR) (r x : Int) : FR × Int := if fineF f = false then (f, 1) else if 0 ≤ r ∧ r < 16 ∧ fineW x = true then ({ f with words := f.words.set r.toNat x }, 0) else (f, 8)
def goF (f : FR) (pc : Int) : FR × Int := if fineF f = false then (f, 1) else if placeB pc = true then ({ f with pc := pc }, 0) else (f, 8)
def callF (f : FR) (pc : Int) : FR × Int := if fineF f = false then (f, 1) else if f.depth = 8 then (f, 19) else if placeB pc = true ∧ f.pc ≠ 64 then ({ f with pc := pc, stack := f.stack.set f.depth.toNat (f.pc + 1), depth := f.depth + 1 }, 0) else (f, 8)
def retF (f : FR) : FR × Int := if fineF f = false then (f, 1) else if f.depth = 0 then (f, 19) else ({ f with pc := f.stack.getD (f.depth - 1).toNat 0, stack := f.stack.set (f.depth - 1).toNat 0, depth := f.depth - 1 }, 0)
def newF (arg : Int) : FR × Int := if fineW arg = true then ({ FR.zero with regs := [arg, 0, 0, 0, 0, 0, 0, 0] }, 0) else (FR.zero, 8)
theorem newF_ok (arg : Int) : (newF arg).1.Ok := by unfold newF; split <;> exact ⟨rfl, rfl, rfl⟩
theorem setF_ok {f : FR} (h : f.Ok) (r x : Int) : (setF f r x).1.Ok := by
  unfold setF
  repeat' split
  all_goals first | exact h | exact h.reg _ _
theorem storeF_ok {f : FR} (h : f.Ok) (r x : Int) : (storeF f r x).1.Ok := by
  unfold storeF
  repeat' split
  all_goals first | exact h | exact h.word _ _
theorem goF_ok {f : FR} (h : f.Ok) (r : Int) : (goF f r).1.Ok := by
  unfold goF
  repeat' split
  all_goals first | exact h | exact h.pc _
theorem callF_ok {f : FR} (h : f.Ok) (r : Int) : (callF f r).1.Ok := by
  unfold callF
  repeat' split
  all_goals first | exact h | exact ((h.stk _ _).pc _).dep _
theorem retF_ok {f : FR} (h : f.Ok) : (retF f).1.Ok := by
  unfold retF
  repeat' split
  all_goals first | exact h | exact ((h.stk _ _).pc _).dep _

/- Its text. -/
def numsT (xs : List Int) : List UInt8 := xs.flatMap fun n => 32 :: Lib.itoa n
def textF (f : FR) : List UInt8 :=
  if fineF f = false then [] else [112, 99] ++ numsT [f.pc] ++ (if f.bad = true then [32, 98, 97, 100] else []) ++ [32, 114] ++ numsT f.regs ++ [32, 109] ++ numsT f.words ++ [32, 115] ++ numsT (f.stack.take f.depth.toNat)
end Go.Proofs.Ytflpjpdgacjlcaa

namespace Go.Proofs.Ytflpjpdgacjlcaa
open Go.RowKit

set_option maxHeartbeats 400000 in
theorem c_within (n many : Int) (w : World) :
    Calls Try.prog 62 #[.int .i64 n, .int .i64 many] w fun e w' => e = .returned (.bool (decide (0 ≤ n ∧ n < many))) ∧ w = w' := by
  by_cases h : 0 ≤ n
  · go_enter Try.func62, Try.ntmps62
    go_wp2
    go_ret
    exact ⟨ret_bool (by simp [h]), rfl⟩
  · go_enter Try.func62, Try.ntmps62
    go_wp2
    go_ret
    exact ⟨ret_bool (by simp; omega), rfl⟩
theorem place_lt (n : Int) : (decide (0 ≤ n) && decide (n < 65)) = placeB n := by
  unfold placeB
  by_cases h : 0 ≤ n <;> by_cases h1 : n ≤ 64 <;> simp [h, h1] <;> omega
set_option maxHeartbeats 400000 in
theorem c_isPlace (n : Int) (w : World) :
    Calls Try.prog 59 #[.int .i64 n] w fun e w' => e = .returned (.bool (placeB n)) ∧ w = w' := by
  have HP := Lib.hid (place_lt n)
  go_enter Try.func59, Try.ntmps59
  go_wp2_with (go_at_call 62; refine (c_within _ _ _).mono ?_; rintro e w' ⟨rfl, rfl⟩)
  go_ret
  exact ⟨ret_bool (by rw [← HP.out]), rfl⟩
set_option maxHeartbeats 400000 in
theorem c_isNought (n : Int) (w : World) :
    Calls Try.prog 61 #[.int .i64 n] w fun e w' => e = .returned (.bool (zeroB n)) ∧ w = w' := by
  go_enter Try.func61, Try.ntmps61
  go_wp2
  go_ret
  exact ⟨ret_bool (by simp [zeroB]), rfl⟩

/-- The closure of each says of a number that it is not such. -/
def One (p : Int → Bool) (w : World) (B : Nat) : Prop := ∀ n : Int, Calls Try.prog 64 #[.int .i64 n, .pointer (some ⟨B, 0, none⟩)] w fun e w' => e = .returned (.bool (!p n)) ∧ w = w'
set_option maxHeartbeats 400000 in
theorem one_fine {w : World} {B : Nat} (hc : w.cell? ⟨B, 0, none⟩ = some (.func (.func 57) #[] #[])) : One fineW w B := fun n => by
  go_enter Try.func64, Try.ntmps64
  go_wp2_with (go_at_call 57; refine (c_wfine _ _).mono ?_; rintro e w' ⟨rfl, rfl⟩)
  go_ret
  exact ⟨rfl, rfl⟩
set_option maxHeartbeats 400000 in
theorem one_place {w : World} {B : Nat} (hc : w.cell? ⟨B, 0, none⟩ = some (.func (.func 59) #[] #[])) : One placeB w B := fun n => by
  go_enter Try.func64, Try.ntmps64
  go_wp2_with (go_at_call 59; refine (c_isPlace _ _).mono ?_; rintro e w' ⟨rfl, rfl⟩)
  go_ret
  exact ⟨rfl, rfl⟩
set_option maxHeartbeats 400000 in
theorem one_nought {w : World} {B : Nat} (hc : w.cell? ⟨B, 0, none⟩ = some (.func (.func 61) #[] #[])) : One zeroB w B := fun n => by
  go_enter Try.func64, Try.ntmps64
  go_wp2_with (go_at_call 61; refine (c_isNought _ _).mono ?_; rintro e w' ⟨rfl, rfl⟩)
  go_ret
  exact ⟨rfl, rfl⟩

/-- A slice reads as these numbers. -/
def RI (w : World) (A : Option Addr) (xs : List Int) : Prop := ∀ (j : Nat) (x : Int), xs[j]? = some x → ∃ b o, A = some ⟨b, o, none⟩ ∧ b < w.heap.size ∧ w.cell? ⟨b, o + j, none⟩ = some (.int .i64 x)
theorem RI.below {w w' : World} {A : Option Addr} {xs : List Int} (h : RI w A xs) (hb : Below w.heap.size w w') : RI w' A xs := fun j x hx => by
  obtain ⟨b, o, e, h1, h2⟩ := h j x hx
  exact ⟨b, o, e, Nat.lt_of_lt_of_le h1 hb.size, (hb.cell (p := ⟨b, o + j, none⟩) h1).trans h2⟩

set_option maxHeartbeats 1000000 in
theorem c_ixf {p : Int → Bool} {w : World} {A : Option Addr} {xs : List Int} {c B : Nat} (h : RI w A xs) (hf : xs.length ≤ 2000)
    (hc : One p w B) :
    Calls Try.prog 65 #[.slice A xs.length c, .func (.func 64) #[] #[.pointer (some ⟨B, 0, none⟩)]] w fun e w' => (∃ j : Int, e = .returned (.int .i64 j) ∧ decide (0 ≤ j) = !xs.all p) ∧ w = w' := by
  have H := Lib.hid h
  have HE := Lib.hid hc
  obtain ⟨n, hn⟩ : ∃ n, n = xs.length := ⟨_, rfl⟩
  have HN := Lib.hid hn
  rw [← hn]
  have hfn : n ≤ 2000 := by omega
  clear h hc hn hf
  go_enter Try.func65, Try.ntmps65
  go_wp2
  go_loopw [8] (fun i wr => ∃ k : Nat, k ≤ n ∧ i = .int .i64 k ∧ (xs.take k).all p = true ∧ w = wr) (fun i _ => n - (intOf i).toNat)
  case atStart => exact ⟨0, by omega, rfl, rfl, rfl⟩
  case round =>
    obtain ⟨k, hk, rfl, hp, rfl⟩ := hrel
    have HP := Lib.hid hp
    clear hp
    by_cases hlt : k < n
    · obtain ⟨x, hx⟩ : ∃ x, xs[k]? = some x := ⟨xs[k]'(by rw [← HN.out]; exact hlt), List.getElem?_eq_getElem _⟩
      obtain ⟨b, o, rfl, _, i0⟩ := H.out k x hx
      have HX := Lib.hid hx
      clear hx
      have hT : (xs.take (k + 1)).all p = p x := by
        rw [List.take_add_one, HX.out, List.all_append, HP.out]; simp
      have HT := Lib.hid hT
      clear hT
      cases hno : p x
      · have CI := Lib.hid (HE.out x)
        rw [hno] at CI
        have HNO := Lib.hid hno
        clear hno
        go_wp2_with (go_at_call 64; refine CI.out.mono ?_; rintro e w2 ⟨rfl, rfl⟩)
        go_ret
        refine ⟨⟨_, rfl, ?_⟩, by first | rfl | trivial⟩
        have : xs.all p = false := by
          rw [List.all_eq_false]
          exact ⟨x, List.mem_of_getElem? HX.out, by rw [HNO.out]; decide⟩
        rw [this]
        simp
      · have CI := Lib.hid (HE.out x)
        rw [hno] at CI
        have HNO := Lib.hid hno
        clear hno
        go_wp2_with (go_at_call 64; refine CI.out.mono ?_; rintro e w2 ⟨rfl, rfl⟩)
        go_roundw
        case rel => exact ⟨k + 1, by omega, by go_num, by rw [HT.out, HNO.out], by first | rfl | trivial⟩
        case measure => simp [intOf]; omega
    · have hk' : n ≤ k := by omega
      go_wp2
      go_ret
      refine ⟨⟨_, rfl, ?_⟩, by first | rfl | trivial⟩
      have := HP.out
      rw [List.take_of_length_le (by rw [← HN.out]; exact hk')] at this
      rw [this]
      rfl

set_option maxHeartbeats 400000 in
theorem c_cont {p : Int → Bool} {w : World} {A : Option Addr} {xs : List Int} {c B : Nat} (h : RI w A xs) (hf : xs.length ≤ 2000)
    (hc : One p w B) :
    Calls Try.prog 63 #[.slice A xs.length c, .func (.func 64) #[] #[.pointer (some ⟨B, 0, none⟩)]] w fun e w' => e = .returned (.bool (!xs.all p)) ∧ w = w' := by
  have H := Lib.hid (c_ixf (c := c) h hf hc)
  clear h hf hc
  go_enter Try.func63, Try.ntmps63
  go_wp2_with fail
  refine H.out.mono ?_
  rintro e w' ⟨⟨j, rfl, hj⟩, rfl⟩
  have HJ := Lib.hid hj
  clear hj
  go_wp2
  go_ret
  exact ⟨ret_bool HJ.out, rfl⟩

set_option maxHeartbeats 400000 in
theorem e_fine {w : World} {A : Option Addr} {xs : List Int} {c : Nat} (h : RI w A xs) (hf : xs.length ≤ 2000) :
    Calls Try.prog 60 #[.slice A xs.length c, .func (.func 57) #[] #[]] w fun e w' => e = .returned (.bool (xs.all fineW)) ∧ Below w.heap.size w w' := by
  have hb := up_alloc w (.cells #[.func (.func 57) #[] #[]] 82)
  have H := Lib.hid (c_cont (c := c) (h.below hb) hf (one_fine ((Blk.new w [.func (.func 57) #[] #[]] 82).cell 0 _ rfl)))
  clear h hf
  go_enter Try.func60, Try.ntmps60
  go_wp2_with fail
  refine H.out.mono ?_
  rintro e w' ⟨rfl, rfl⟩
  go_wp2
  go_ret
  exact ⟨ret_bool (by simp), hb⟩
set_option maxHeartbeats 400000 in
theorem e_place {w : World} {A : Option Addr} {xs : List Int} {c : Nat} (h : RI w A xs) (hf : xs.length ≤ 2000) :
    Calls Try.prog 60 #[.slice A xs.length c, .func (.func 59) #[] #[]] w fun e w' => e = .returned (.bool (xs.all placeB)) ∧ Below w.heap.size w w' := by
  have hb := up_alloc w (.cells #[.func (.func 59) #[] #[]] 82)
  have H := Lib.hid (c_cont (c := c) (h.below hb) hf (one_place ((Blk.new w [.func (.func 59) #[] #[]] 82).cell 0 _ rfl)))
  clear h hf
  go_enter Try.func60, Try.ntmps60
  go_wp2_with fail
  refine H.out.mono ?_
  rintro e w' ⟨rfl, rfl⟩
  go_wp2
  go_ret
  exact ⟨ret_bool (by simp), hb⟩
set_option maxHeartbeats 400000 in
theorem e_nought {w : World} {A : Option Addr} {xs : List Int} {c : Nat} (h : RI w A xs) (hf : xs.length ≤ 2000) :
    Calls Try.prog 60 #[.slice A xs.length c, .func (.func 61) #[] #[]] w fun e w' => e = .returned (.bool (xs.all zeroB)) ∧ Below w.heap.size w w' := by
  have hb := up_alloc w (.cells #[.func (.func 61) #[] #[]] 82)
  have H := Lib.hid (c_cont (c := c) (h.below hb) hf (one_nought ((Blk.new w [.func (.func 61) #[] #[]] 82).cell 0 _ rfl)))
  clear h hf
  go_enter Try.func60, Try.ntmps60
  go_wp2_with fail
  refine H.out.mono ?_
  rintro e w' ⟨rfl, rfl⟩
  go_wp2
  go_ret
  exact ⟨ret_bool (by simp), hb⟩
end Go.Proofs.Ytflpjpdgacjlcaa

namespace Go.Proofs.Ytflpjpdgacjlcaa
open Go.RowKit

/-- The box of a frame. -/
structure Boxed (w w1 : World) (f : FR) (t : TypeId) : Prop where
  up : Below w.heap.size w w1
  box : Blk w1 w.heap.size f.cells t
theorem boxed (w : World) (f : FR) (t : TypeId) : Boxed w (w.alloc (.cells f.cells.toArray t)) f t := ⟨up_alloc _ _, Blk.new _ _ _⟩

theorem RI.of_blk {w : World} {b o : Nat} {cs : List Value} {t : TypeId} {xs : List Int} (h : Blk w b cs t) (hx : ∀ (j : Nat) x, xs[j]? = some x → cs[o + j]? = some (.int .i64 x)) : RI w (some ⟨b, o, none⟩) xs :=
  fun j x hj => ⟨b, o, rfl, h.lt, h.cell _ _ (hx j x hj)⟩

/-- A whole frame is loaded from its block. -/
theorem load_frame {w : World} {b : Nat} {f : FR} (hf : f.Ok) {t : TypeId} (h : Blk w b f.cells t) (ty : TypeId) (d : TypeDesc) (hu : Try.prog.underlying ty = some d) (hd : d.isRow = true) (hi : (Try.prog.info? ty).map (·.size) = some 35) :
    (loadVar ty ⟨b, 0, none⟩).run Try.prog w = .ok (.agg f.cells.toArray) w :=
  run_loadVar_mid w b 0 ty f.cells d (fun j v hv => by rw [Nat.zero_add]; exact h.cell j v hv) hu hd (by rw [FR.cells_len hf]; exact hi)
theorem load_prog {w : World} {b : Nat} {f : FR} (hf : f.Ok) {t : TypeId} (h : Blk w b f.cells t) :
    (loadVar 67 ⟨b, 0, none⟩).run Try.prog w = .ok (.agg f.cells.toArray) w :=
  load_frame hf h _ _ Try.underlying67 rfl (by kernel_rfl)

theorem fine_regs (f : FR) : f.regs.all fineW = false → ¬ FineF f := fun h k => by
  rw [List.all_eq_true.2 k.regs] at h
  cases h
theorem fine_words (f : FR) : f.words.all fineW = false → ¬ FineF f := fun h k => by
  rw [List.all_eq_true.2 k.words] at h
  cases h

theorem RI.low {w : World} {b : Nat} {f : FR} (hf : f.Ok) {t : TypeId} (h : Blk w b f.cells t) (k : Nat) : RI w (some ⟨b, 27, none⟩) (f.stack.take k) :=
  RI.of_blk h fun j x hj => FR.c_stack hf j x (by
    rw [List.getElem?_take] at hj
    split at hj
    · exact hj
    · cases hj)
theorem RI.high {w : World} {b : Nat} {f : FR} (hf : f.Ok) {t : TypeId} (h : Blk w b f.cells t) (k : Nat) : RI w (some ⟨b, 27 + k, none⟩) (f.stack.drop k) :=
  RI.of_blk h fun j x hj => by
    rw [Nat.add_assoc]
    exact FR.c_stack hf (k + j) x (by rwa [List.getElem?_drop] at hj)

theorem len8 : Try.prog.arrayLen 60 = 8 := by kernel_rfl
theorem arr8 : Try.prog.underlying 60 = some (.array (Try.prog.arrayLen 60) (Try.prog.elem 60)) := by kernel_rfl
theorem one8 (W : World) : (sizeOf (Try.prog.elem 60)).run Try.prog W = .ok 1 W := by kernel_rfl
/-- The calls that count. -/
theorem cut_low (W : World) (b k : Nat) (hk : k ≤ 8) : (Instr.sliceAt 60 (.pointer (some ⟨b, 27, none⟩)) none (some (.int .i64 k)) none).run Try.prog W = .ok (.slice (some ⟨b, 27, none⟩) k 8) W := by
  rw [run_sliceAt_array_h W _ _ arr8 .i64 k (by omega) (by rw [len8]; omega), one8, len8]
  simp [slicedAt, Result.andThen, Addr.add]
/-- The others. -/
theorem cut_high (b k : Nat) (hk : k ≤ 8) : ∃ A : Option Addr, (∀ W, (Instr.sliceAt 60 (.pointer (some ⟨b, 27, none⟩)) (some (.int .i64 k)) none none).run Try.prog W = .ok (.slice A (8 - k) (8 - k)) W) ∧ (k < 8 → A = some ⟨b, 27 + k, none⟩) := by
  refine ⟨some (if 8 = k then ⟨b, 27, none⟩ else (⟨b, 27, none⟩ : Addr).add (k * 1)), fun W => ?_, fun h => ?_⟩
  · rw [run_sliceAt_array_l W _ _ arr8 .i64 k (by omega) (by rw [len8]; omega), one8, len8]
    simp [slicedAt, Result.andThen]
  · rw [if_neg (by omega), Nat.mul_one]
    unfold Addr.add
    split <;> simp_all
theorem RI.rest {w : World} {b : Nat} {f : FR} (hf : f.Ok) {t : TypeId} (h : Blk w b f.cells t) (k : Nat) (hk : k ≤ 8) {A : Option Addr} (hA : k < 8 → A = some ⟨b, 27 + k, none⟩) : RI w A (f.stack.drop k) := by
  by_cases h8 : k < 8
  · rw [hA h8]
    exact RI.high hf h k
  · intro j x hj
    rw [List.drop_eq_nil_of_le (by rw [hf.stack]; omega)] at hj
    simp at hj

/-- What Fine asks, one behind the other, and what it comes to. -/
theorem fine_pc (f : FR) (h : placeB f.pc = false) : fineF f = false := by unfold fineF; rw [h]; rfl
theorem fine_neg (f : FR) (h : f.depth < 0) : fineF f = false := fineF_not fun k => by have := k.d0; omega
theorem fine_big (f : FR) (h : 8 < f.depth) : fineF f = false := fineF_not fun k => by have := k.d1; omega
theorem fine_low (f : FR) (k : Nat) (hk : f.depth = k) (h : (f.stack.take k).all placeB = false) : fineF f = false := by
  unfold fineF
  rw [hk, Int.toNat_natCast, h]
  simp
theorem fine_high (f : FR) (k : Nat) (hk : f.depth = k) (h1 : placeB f.pc = true) (h2 : k ≤ 8) (h3 : f.regs.all fineW = true) (h4 : f.words.all fineW = true) (h5 : (f.stack.take k).all placeB = true) : (f.stack.drop k).all zeroB = fineF f := by
  unfold fineF
  rw [hk, Int.toNat_natCast, h1, h3, h4, h5, show decide ((0 : Int) ≤ (k : Int)) = true by simp, show decide ((k : Int) ≤ 8) = true by simp; omega]
  simp

set_option maxRecDepth 100000 in
set_option maxHeartbeats 4000000 in
theorem c_ffine {f : FR} (hf : f.Ok) (w : World) :
    Calls Try.prog 53 #[.agg f.cells.toArray] w fun e w' => e = .returned (.bool (fineF f)) ∧ Below w.heap.size w w' := by
  have hX := boxed w f 67
  generalize hw1 : w.alloc (.cells f.cells.toArray 67) = w1 at hX
  have HW := Lib.hid hw1
  have hz := hX.box.lt
  have c0 := hX.box.cell 0 _ (FR.c_pc f)
  have c26 := hX.box.cell 26 _ (FR.c_depth hf)
  have e0 := FR.c_pc f
  have HU := Lib.hid hX.up
  clear hw1
  have P1 := fun W => c_isPlace f.pc W
  cases hp : placeB f.pc
  · rw [fine_pc f hp]
    simp only [hp] at P1
    clear hX hp
    go_enter Try.func53, Try.ntmps53
    go_wp2_with fail
    rw [HW.out]
    go_wp2_with (go_at_call 59; refine (P1 _).mono ?_; rintro e w' ⟨rfl, rfl⟩)
    go_ret
    exact ⟨rfl, HU.out⟩
  simp only [hp] at P1
  have HP := Lib.hid hp
  clear hp
  by_cases hd0 : f.depth < 0
  · rw [fine_neg f hd0]
    have hd1 : decide (0 ≤ f.depth) = false := decide_eq_false (by omega)
    clear hX
    go_enter Try.func53, Try.ntmps53
    go_wp2_with fail
    rw [HW.out]
    go_wp2_with (go_at_call 59; refine (P1 _).mono ?_; rintro e w' ⟨rfl, rfl⟩)
    go_ret
    exact ⟨rfl, HU.out⟩
  by_cases hd8 : 8 < f.depth
  · rw [fine_big f hd8]
    have hd1 : decide (0 ≤ f.depth) = true := decide_eq_true (by omega)
    have hd2 : decide (f.depth ≤ 8) = false := decide_eq_false (by omega)
    clear hX
    go_enter Try.func53, Try.ntmps53
    go_wp2_with fail
    rw [HW.out]
    go_wp2_with (go_at_call 59; refine (P1 _).mono ?_; rintro e w' ⟨rfl, rfl⟩)
    go_ret
    exact ⟨rfl, HU.out⟩
  obtain ⟨k, hk⟩ : ∃ k : Nat, f.depth = k := ⟨f.depth.toNat, by omega⟩
  have hk8 : k ≤ 8 := by omega
  rw [hk] at c26
  have HK := Lib.hid hk
  clear hd0 hd8 hk
  have E2 : ∀ W, Below w1.heap.size w1 W → _ := fun W hW => e_fine (c := 8) (RI.of_blk (o := 2) (hX.box.up hW hz) fun j x => FR.c_reg hf j x) (by rw [hf.regs]; omega)
  simp only [hf.regs] at E2
  have hd1 : decide ((0 : Int) ≤ (k : Int)) = true := decide_eq_true (by omega)
  have hd2 : decide ((k : Int) ≤ 8) = true := decide_eq_true (by omega)
  cases hr : f.regs.all fineW
  · rw [fineF_not (fine_regs f hr)]
    simp only [hr] at E2
    have E := Lib.hid (E2 _ (Below.refl _ _))
    clear hX hr E2
    go_enter Try.func53, Try.ntmps53
    go_wp2_with fail
    rw [HW.out]
    go_wp2_with (first | (go_at_call 59; refine (P1 _).mono ?_; rintro e w' ⟨rfl, rfl⟩) | (go_at_call 60; refine E.out.mono ?_; rintro e w2 ⟨rfl, hb2⟩))
    go_ret
    exact ⟨rfl, up_trans HU.out hb2⟩
  simp only [hr] at E2
  have HR := Lib.hid hr
  clear hr
  have E := Lib.hid (E2 _ (Below.refl _ _))
  clear E2
  have E10 : ∀ W, Below w1.heap.size w1 W → _ := fun W hW => e_fine (c := 16) (RI.of_blk (o := 10) (hX.box.up hW hz) fun j x => FR.c_word hf j x) (by rw [hf.words]; omega)
  simp only [hf.words] at E10
  cases hr : f.words.all fineW
  · rw [fineF_not (fine_words f hr)]
    simp only [hr] at E10
    have E10 := Lib.hid E10
    clear hX hr
    go_enter Try.func53, Try.ntmps53
    go_wp2_with fail
    rw [HW.out]
    go_wp2_with (first | (go_at_call 59; refine (P1 _).mono ?_; rintro e w' ⟨rfl, rfl⟩) | (go_at_call 60; first | (refine E.out.mono ?_; rintro e w2 ⟨rfl, hb2⟩; have HB2 := Lib.hid hb2; have d2 := (hb2.cell (p := ⟨w.heap.size, 26, none⟩) hz).trans c26; clear hb2) | (refine (E10.out _ HB2.out).mono ?_; rintro e w3 ⟨rfl, hb3⟩; have HB3 := Lib.hid (up_trans HB2.out hb3); have d3 := (HB3.out.cell (p := ⟨w.heap.size, 26, none⟩) hz).trans c26; clear hb3)))
    go_ret
    exact ⟨rfl, up_trans HU.out HB3.out⟩
  simp only [hr] at E10
  have E10 := Lib.hid E10
  have HR2 := Lib.hid hr
  clear hr
  have hcl := fun W => cut_low W w.heap.size k hk8
  have hlk : (f.stack.take k).length = k := by rw [List.length_take, hf.stack]; omega
  have hlh : (f.stack.drop k).length = 8 - k := by rw [List.length_drop, hf.stack]
  have EL : ∀ W, Below w1.heap.size w1 W → _ := fun W hW => e_place (c := 8) (RI.low hf (hX.box.up hW hz) k) (by rw [hlk]; omega)
  simp only [hlk] at EL
  cases hr : (f.stack.take k).all placeB
  · rw [fine_low f k HK.out hr]
    simp only [hr] at EL
    have EL := Lib.hid EL
    clear hX hr hlk hlh
    go_enter Try.func53, Try.ntmps53
    go_wp2_with fail
    rw [HW.out]
    go_wp2_with (first | (go_at_call 59; refine (P1 _).mono ?_; rintro e w' ⟨rfl, rfl⟩) | (go_at_call 60; first | (refine E.out.mono ?_; rintro e w2 ⟨rfl, hb2⟩; have HB2 := Lib.hid hb2; have d2 := (hb2.cell (p := ⟨w.heap.size, 26, none⟩) hz).trans c26; clear hb2) | (refine (E10.out _ HB2.out).mono ?_; rintro e w3 ⟨rfl, hb3⟩; have HB3 := Lib.hid (up_trans HB2.out hb3); have d3 := (HB3.out.cell (p := ⟨w.heap.size, 26, none⟩) hz).trans c26; clear hb3) | (refine (EL.out _ HB3.out).mono ?_; rintro e w4 ⟨rfl, hb4⟩; have HB4 := Lib.hid (up_trans HB3.out hb4); have d4 := (HB4.out.cell (p := ⟨w.heap.size, 26, none⟩) hz).trans c26; clear hb4)))
    go_ret
    exact ⟨rfl, up_trans HU.out HB4.out⟩
  simp only [hr] at EL
  have EL := Lib.hid EL
  have HR3 := Lib.hid hr
  clear hr
  rw [← fine_high f k HK.out HP.out hk8 HR.out HR2.out HR3.out]
  obtain ⟨A, hA, hA8⟩ := cut_high w.heap.size k hk8
  have EH : ∀ W, Below w1.heap.size w1 W → _ := fun W hW => e_nought (c := 8 - k) (RI.rest hf (hX.box.up hW hz) k hk8 hA8) (by rw [hlh]; omega)
  simp only [hlh] at EH
  have EH := Lib.hid EH
  clear hX hlk hlh hA8
  go_enter Try.func53, Try.ntmps53
  go_wp2_with fail
  rw [HW.out]
  go_wp2_with (first | (go_at_call 59; refine (P1 _).mono ?_; rintro e w' ⟨rfl, rfl⟩) | (go_at_call 60; first | (refine E.out.mono ?_; rintro e w2 ⟨rfl, hb2⟩; have HB2 := Lib.hid hb2; have d2 := (hb2.cell (p := ⟨w.heap.size, 26, none⟩) hz).trans c26; clear hb2) | (refine (E10.out _ HB2.out).mono ?_; rintro e w3 ⟨rfl, hb3⟩; have HB3 := Lib.hid (up_trans HB2.out hb3); have d3 := (HB3.out.cell (p := ⟨w.heap.size, 26, none⟩) hz).trans c26; clear hb3) | (refine (EL.out _ HB3.out).mono ?_; rintro e w4 ⟨rfl, hb4⟩; have HB4 := Lib.hid (up_trans HB3.out hb4); have d4 := (HB4.out.cell (p := ⟨w.heap.size, 26, none⟩) hz).trans c26; clear hb4) | (refine (EH.out _ HB4.out).mono ?_; rintro e w5 ⟨rfl, hb5⟩; have HB5 := Lib.hid (up_trans HB4.out hb5); clear hb5)))
  go_ret
  exact ⟨rfl, up_trans HU.out HB5.out⟩

end Go.Proofs.Ytflpjpdgacjlcaa
