/- A process, and a table of processes, as plain data: their cells, and what each call makes of them. -/
import Derived.Test.YtflpjpdgacjlcaaP3
import Derived.Test.YtflpjpdgacjlcaaP2
import Derived.Test.YtflpjpdgacjlcaaP1
namespace Go.Proofs.Ytflpjpdgacjlcaa
open Go Go.RowKit

/-- A process; gA, gn, gc tell where its guards lie. -/
structure PR where
  gen : Int
  live : Bool
  prog : Int
  frm : FR
  ok : frm.Ok
  mode : Int
  how : Int
  turn : Int
  gA : Option Addr
  gn : Nat
  gc : Nat
  gs : List GD
def prC (q : PR) : List Value := .int .i64 q.gen :: .bool q.live :: .int .i64 q.prog :: (q.frm.cells ++ [.int .i64 q.mode, .int .i64 q.how, .int .i64 q.turn, .slice q.gA q.gn q.gc])
theorem FR.cells_one (f : FR) : ∀ v ∈ f.cells, v.oneCell' = true := by
  intro v hv
  simp only [FR.cells, List.mem_cons, List.mem_append, List.mem_map] at hv
  rcases hv with rfl | rfl | ⟨x, _, rfl⟩ | ⟨x, _, rfl⟩ | rfl | ⟨x, _, rfl⟩ <;> rfl
theorem prC_len (q : PR) : (prC q).length = 42 := by simp [prC, FR.cells_len q.ok]
theorem prC_one (q : PR) : ∀ v ∈ prC q, v.oneCell' = true := by
  intro v hv
  simp only [prC, List.mem_cons, List.mem_append, List.not_mem_nil, or_false] at hv
  rcases hv with rfl | rfl | rfl | hv | rfl | rfl | rfl | rfl
  · rfl
  · rfl
  · rfl
  · exact FR.cells_one _ v hv
  all_goals rfl
theorem prC_0 (q : PR) : (prC q)[0]? = some (.int .i64 q.gen) := rfl
theorem prC_1 (q : PR) : (prC q)[1]? = some (.bool q.live) := rfl
theorem prC_2 (q : PR) : (prC q)[2]? = some (.int .i64 q.prog) := rfl
theorem prC_x (q : PR) (j : Nat) : (prC q)[38 + j]? = ([.int .i64 q.mode, .int .i64 q.how, .int .i64 q.turn, .slice q.gA q.gn q.gc] : List Value)[j]? := by
  rw [show 38 + j = (35 + j) + 1 + 1 + 1 by omega]
  simp only [prC, List.getElem?_cons_succ]
  rw [List.getElem?_append_right (by rw [FR.cells_len q.ok]; omega), FR.cells_len q.ok, Nat.add_sub_cancel_left]
theorem prC_38 (q : PR) : (prC q)[38]? = some (.int .i64 q.mode) := prC_x q 0
theorem prC_39 (q : PR) : (prC q)[39]? = some (.int .i64 q.how) := prC_x q 1
theorem prC_40 (q : PR) : (prC q)[40]? = some (.int .i64 q.turn) := prC_x q 2
theorem prC_41 (q : PR) : (prC q)[41]? = some (.slice q.gA q.gn q.gc) := prC_x q 3
theorem prC_frm (q : PR) : ((prC q).drop 3).take 35 = q.frm.cells := by
  show (q.frm.cells ++ _).take 35 = _
  rw [List.take_append_of_le_length (Nat.le_of_eq (FR.cells_len q.ok).symm), List.take_of_length_le (Nat.le_of_eq (FR.cells_len q.ok))]
theorem prC_s38 (q : PR) (x : Int) : (prC q).set 38 (.int .i64 x) = prC { q with mode := x } := by
  rw [show 38 = 35 + 1 + 1 + 1 by omega]
  simp only [prC, List.set_cons_succ]
  rw [List.set_append_right _ _ (by rw [FR.cells_len q.ok]; omega), FR.cells_len q.ok]
  rfl
theorem prC_s39 (q : PR) (x : Int) : (prC q).set 39 (.int .i64 x) = prC { q with how := x } := by
  rw [show 39 = 36 + 1 + 1 + 1 by omega]
  simp only [prC, List.set_cons_succ]
  rw [List.set_append_right _ _ (by rw [FR.cells_len q.ok]; omega), FR.cells_len q.ok]
  rfl
theorem prC_s41 (q : PR) (A : Option Addr) (n c : Nat) (gs : List GD) : (prC q).set 41 (.slice A n c) = prC { q with gA := A, gn := n, gc := c, gs := gs } := by
  rw [show 41 = 38 + 1 + 1 + 1 by omega]
  simp only [prC, List.set_cons_succ]
  rw [List.set_append_right _ _ (by rw [FR.cells_len q.ok]; omega), FR.cells_len q.ok]
  rfl

/-- Processes, as elements of a slice. -/
def prK : Mk PR where
  f := prC
  m := 42
  len := prC_len
  pos := by omega
  one := prC_one
  E := fun pl q w => q.gs.length = q.gn ∧ RD w pl 5 q.gA q.gn (q.gs.flatMap gdC)
  only := fun h o hs => ⟨h.1, h.2.only o hs⟩
  lo := fun h hl => ⟨h.1, h.2.lo hl⟩
  lt := fun h => ⟨h.1, h.2.lt⟩

/-- Two frames: the same. -/
def frEq (f g : FR) : Bool := f.pc == g.pc && (f.bad == g.bad && (f.regs == g.regs && (f.words == g.words && (f.depth == g.depth && f.stack == g.stack))))
theorem frEq_refl (f : FR) : frEq f f = true := by simp [frEq]
def PR.nil (g : Int) : PR := ⟨g, false, 0, FR.zero, FR.zero_ok, 0, 0, 0, none, 0, 0, []⟩
def PR.new (g prog arg : Int) : PR := ⟨g, true, prog, (newF arg).1, newF_ok arg, 0, 0, 0, none, 0, 0, []⟩
/-- What ends, by the program and by the document (which leaves the guards that are none as they are). -/
def prEnd (how : Int) (q : PR) : PR := { q with mode := 3, how := how, gA := none, gn := 0, gc := 0, gs := [] }
def prEndR (how : Int) (q : PR) : PR := { q with mode := 3, how := how }

def emptyP (q : PR) : Bool := (q.prog == 0) && (frEq q.frm FR.zero && ((q.mode == 0) && ((q.how == 0) && ((q.turn == 0) && ((q.gn : Int) == 0)))))
def liveP (q : PR) : Bool := decide (0 < q.gen) && (decide (0 ≤ q.mode) && (decide (q.mode ≤ 3) && (fineF q.frm && ((q.mode == 1) == decide ((0 : Int) < (q.gn : Int))))))
def mayP (q : PR) : Bool := (!decide (q.gen < 0)) && ((!decide (65535 < q.gen)) && (if q.live = true then liveP q else emptyP q))
def fineT (L : List PR) : Bool := decide (L.length = 16) && L.all mayP
def getP (L : List PR) (p : Int) : PR := L.getD p.toNat (PR.nil 0)
def thereT (L : List PR) (p : Int) : Bool := decide (0 ≤ p) && (decide (p < (L.length : Int)) && (getP L p).live)
def handleT (L : List PR) (p : Int) : Int := if fineT L = true ∧ thereT L p = true then makeH p (getP L p).gen else 0
def findT (L : List PR) (h : Int) : Int × Int :=
  if fineT L = false then (0, 1) else if slotF h < 0 ∨ 16 ≤ slotF h then (0, 8) else if (getP L (slotF h)).live = true ∧ (getP L (slotF h)).gen = genF h then (slotF h, 0) else (0, 9)
def prIdx (p : PR → Bool) (l : List PR) : Int := if l.any p = true then (l.findIdx p : Int) else -1
def isFree (q : PR) : Bool := !q.live && decide (q.gen < 65535)
def spawnT (L : List PR) (prog arg : Int) : List PR × Int × Int :=
  if fineT L = false then (L, 0, 1) else if fineW arg = false then (L, 0, 8) else if prIdx isFree L < 0 then (L, 0, 10)
  else (L.set (prIdx isFree L).toNat (PR.new ((getP L (prIdx isFree L)).gen + 1) prog arg), makeH (prIdx isFree L) ((getP L (prIdx isFree L)).gen + 1), 0)
def endT (f : PR → PR) (L : List PR) (p : Int) : List PR × Int :=
  if fineT L = false then (L, 1) else if thereT L p = false then (L, 8) else if (getP L p).mode = 0 then (L.set p.toNat (f (getP L p)), 0) else (L, 13)
def reapT (L : List PR) (h : Int) : List PR × Int × Int :=
  if (findT L h).2 = 0 then (if (getP L (findT L h).1).mode = 3 then (L.set (findT L h).1.toNat (PR.nil (getP L (findT L h).1).gen), (getP L (findT L h).1).how, 0) else (L, 0, 13)) else (L, 0, (findT L h).2)
/-- The places of processes that are such. -/
def plsT (p : PR → Bool) (L : List PR) (k : Nat) : List Int := ((List.range k).filter fun i => (getP L (i : Nat)).live && p (getP L (i : Nat))).map Int.ofNat
def inT (L : List PR) (m : Int) : List Int := if fineT L = true then plsT (fun q => q.mode == m) L 16 else []
def handlesT (L : List PR) : List Int := if fineT L = true then (plsT (fun q => q.mode != 3) L 16).map fun p => makeH p (getP L p).gen else []

theorem getP_of {L : List PR} {k : Nat} {q : PR} (h : L[k]? = some q) : getP L (k : Nat) = q := by
  unfold getP
  rw [Int.toNat_natCast, List.getD_eq_getElem?_getD, h]
  rfl
theorem getP_le {L : List PR} {k : Nat} (h : L.length ≤ k) : getP L (k : Nat) = PR.nil 0 := by
  unfold getP
  rw [Int.toNat_natCast, List.getD_eq_getElem?_getD, List.getElem?_eq_none h]
  rfl
theorem fineT_len {L : List PR} (h : fineT L = true) : L.length = 16 := by
  unfold fineT at h
  simp only [Bool.and_eq_true, decide_eq_true_eq] at h
  exact h.1
theorem fineT_all {L : List PR} (h : fineT L = true) : ∀ q ∈ L, mayP q = true := by
  unfold fineT at h
  simp only [Bool.and_eq_true] at h
  exact List.all_eq_true.1 h.2
theorem getP_mem {L : List PR} {p : Int} (h0 : 0 ≤ p) (h1 : p < L.length) : L[p.toNat]? = some (getP L p) ∧ getP L p ∈ L := by
  have hlt : p.toNat < L.length := by omega
  have h : L[p.toNat]? = some L[p.toNat] := List.getElem?_eq_getElem hlt
  have e : getP L p = L[p.toNat] := by
    unfold getP
    rw [List.getD_eq_getElem?_getD, h]
    rfl
  rw [e]
  exact ⟨h, List.getElem_mem hlt⟩
theorem may_gen {q : PR} (h : mayP q = true) : 0 ≤ q.gen ∧ q.gen ≤ 65535 := by
  unfold mayP at h
  simp only [Bool.and_eq_true, Bool.not_eq_true', decide_eq_false_iff_not] at h
  omega
theorem may_live {q : PR} (h : mayP q = true) (hl : q.live = true) : 0 < q.gen ∧ 0 ≤ q.mode ∧ q.mode ≤ 3 ∧ fineF q.frm = true ∧ ((q.mode == 1) = decide ((0 : Int) < (q.gn : Int))) := by
  unfold mayP at h
  rw [if_pos hl] at h
  unfold liveP at h
  simp only [Bool.and_eq_true, decide_eq_true_eq] at h
  refine ⟨h.2.2.1, h.2.2.2.1, h.2.2.2.2.1, h.2.2.2.2.2.1, ?_⟩
  simpa using h.2.2.2.2.2.2
theorem may_runs {q : PR} (h : mayP q = true) (hl : q.live = true) (hm : q.mode = 0) : q.gn = 0 := by
  have := (may_live h hl).2.2.2.2
  rw [hm] at this
  simp at this
  exact this
theorem there_of {L : List PR} {p : Int} (h : thereT L p = true) : 0 ≤ p ∧ p < L.length ∧ (getP L p).live = true := by
  unfold thereT at h
  simp only [Bool.and_eq_true, decide_eq_true_eq] at h
  exact ⟨h.1, h.2.1, h.2.2⟩
theorem find_of {L : List PR} {h : Int} (e : (findT L h).2 = 0) : fineT L = true ∧ (findT L h).1 = slotF h ∧ 0 ≤ slotF h ∧ slotF h < 16 ∧ (getP L (slotF h)).live = true ∧ (getP L (slotF h)).gen = genF h := by
  unfold findT at e ⊢
  split at e
  · cases e
  · next h0 =>
    split at e
    · cases e
    · next h1 =>
      split at e
      · next h2 =>
        rw [if_neg h0, if_neg h1, if_pos h2]
        exact ⟨by simpa using h0, rfl, by omega, by omega, h2.1, h2.2⟩
      · cases e
theorem any_next' {p : PR → Bool} {l : List PR} {k : Nat} {g : PR} (hg : l[k]? = some g) (h0 : (l.take k).any p = false) (h : p g = false) : (l.take (k + 1)).any p = false := by
  rw [List.take_add_one, hg]
  simp [List.any_append, h0, h]
theorem prIdx_no {p : PR → Bool} {l : List PR} (h : l.any p = false) : prIdx p l = -1 := if_neg (by rw [h]; decide)
theorem prIdx_at {p : PR → Bool} {l : List PR} {k : Nat} {g : PR} (hg : l[k]? = some g) (h0 : (l.take k).any p = false) (h : p g = true) : prIdx p l = k := by
  have hk := (List.getElem?_eq_some_iff.1 hg).1
  have hx : l[k] = g := (List.getElem?_eq_some_iff.1 hg).2
  have ha : l.any p = true := List.any_eq_true.2 ⟨g, List.mem_of_getElem? hg, h⟩
  unfold prIdx
  rw [if_pos ha]
  have e : l.findIdx p = k := by
    rw [List.findIdx_eq hk]
    refine ⟨by rw [hx]; exact h, fun j hj => ?_⟩
    have := List.any_eq_false.1 h0 (l[j]'(by omega)) (List.mem_iff_getElem?.2 ⟨j, by rw [List.getElem?_take, if_pos hj]; exact List.getElem?_eq_getElem (by omega)⟩)
    simpa using this
  rw [e]
theorem prIdx_geq (p : PR → Bool) (l : List PR) : decide (0 ≤ prIdx p l) = l.any p := by
  unfold prIdx
  cases h : l.any p
  · simp
  · simp
theorem prIdx_is {p : PR → Bool} {l : List PR} (h : 0 ≤ prIdx p l) : prIdx p l < l.length ∧ p (getP l (prIdx p l)) = true := by
  unfold prIdx at h ⊢
  split at h
  · next ha =>
    rw [if_pos ha]
    obtain ⟨x, hx, hp⟩ := List.any_eq_true.1 ha
    have hlt := List.findIdx_lt_length_of_exists ⟨x, hx, hp⟩
    refine ⟨by omega, ?_⟩
    rw [getP_of (List.getElem?_eq_getElem hlt)]
    exact List.findIdx_getElem
  · omega
theorem all_of_any {p : PR → Bool} (l : List PR) : (!(l.any fun q => !p q)) = l.all p := by
  rw [List.all_eq_not_any_not]
theorem plsT_next (p : PR → Bool) (L : List PR) (k : Nat) : plsT p L (k + 1) = plsT p L k ++ (if ((getP L (k : Nat)).live && p (getP L (k : Nat))) = true then [(k : Int)] else []) := by
  unfold plsT
  rw [List.range_succ, List.filter_append, List.map_append]
  congr 1
  cases h : ((getP L (k : Nat)).live && p (getP L (k : Nat)))
  · simp [h]
  · simp [h]
theorem plsT_zero (p : PR → Bool) (L : List PR) : plsT p L 0 = [] := rfl
theorem plsT_len (p : PR → Bool) (L : List PR) (k : Nat) : (plsT p L k).length ≤ k := by
  unfold plsT
  rw [List.length_map]
  have := List.length_filter_le (fun i => (getP L ((i : Nat) : Int)).live && p (getP L ((i : Nat) : Int))) (List.range k)
  simpa using this
theorem plsT_mem {p : PR → Bool} {L : List PR} {k : Nat} {x : Int} (h : x ∈ plsT p L k) : 0 ≤ x ∧ x < k ∧ (getP L x).live = true := by
  unfold plsT at h
  obtain ⟨i, hi, rfl⟩ := List.mem_map.1 h
  obtain ⟨h1, h2⟩ := List.mem_filter.1 hi
  simp only [Bool.and_eq_true] at h2
  have := List.mem_range.1 h1
  exact ⟨by simp, by simpa using this, h2.1⟩
/-- A handle is that of a place's process just if it is told so. -/
theorem told_iff' {L : List PR} (hf : fineT L = true) {h : Int} (h0 : 0 ≤ slotF h) (h1 : slotF h < 16) : (handleT L (slotF h) = h) ↔ ((getP L (slotF h)).live = true ∧ (getP L (slotF h)).gen = genF h) := by
  have hb : fineB h = true := by
    cases e : fineB h
    · rw [slotF_no h e] at h0
      omega
    · rfl
  have hr := (fine_iff h).1 hb
  have hl := fineT_len hf
  have hs := slotF_of h hb
  have hg := genF_of h hb
  generalize slotF h = s at *
  generalize genF h = g at *
  unfold handleT
  cases ht : thereT L s
  · rw [if_neg (by simp)]
    have : ¬ (getP L s).live = true := fun e => by
      unfold thereT at ht
      rw [e] at ht
      simp at ht
      omega
    constructor
    · intro e
      omega
    · intro e
      exact absurd e.1 this
  · obtain ⟨t0, t1, t2⟩ := there_of ht
    rw [if_pos ⟨hf, rfl⟩]
    have hm := fineT_all hf _ (getP_mem t0 t1).2
    have h3 := may_gen hm
    have h4 := (may_live hm t2).1
    rw [makeH_of _ _ (by omega)]
    constructor
    · intro e
      exact ⟨t2, by omega⟩
    · intro e
      omega
end Go.Proofs.Ytflpjpdgacjlcaa
