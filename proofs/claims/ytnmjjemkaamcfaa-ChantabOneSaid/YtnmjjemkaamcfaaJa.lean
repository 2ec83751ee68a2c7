/- Plain maths of a channel: what it is to be, whether it may be, what may happen, what it is behind that. -/
import Derived.Test.YtnmjjemkaamcfaaLa
import Derived.Test.YtnmjjemkaamcfaaVa
import Derived.Test.YtnmjjemkaamcfaaWm
namespace Go.Proofs.Ytnmjjemkaamcfaa

/-- A channel, as plain data: kind, room, what its ends bear (i: those that receive, o: those that send), level, values, who sends with what, who receives. -/
structure CP where
  (k r i o lv : Int)
  V : List Int
  os : Bool
  W : List Int
  S : List Int
  is : Bool
  G : List Int
/-- What Check tells. -/
def ccE (k r i o : Int) : Int := if k < 0 ∨ 3 < k then 12 else if r < 0 ∨ 8 < r ∨ pzFine i = false ∨ pzFine o = false then 8 else 0
def chOs (k : Int) : Bool := k == 1 || k == 3
def chIs (k : Int) : Bool := k == 2 || k == 3
def wordsL (L : List Int) : Bool := L.all fineW
def chZero : CP := ⟨0, 0, 0, 0, 0, [], false, [], [], false, []⟩
/-- What New gives. -/
def chNew (k r i o : Int) : CP := bif ccE k r i o == 0 then ⟨k, r, i, o, 0, [], chOs k, [], [], chIs k, []⟩ else chZero
/-- It may be. -/
def chFine (C : CP) : Bool :=
  (ccE C.k C.r C.i C.o == 0) && (pzFine C.lv && (decide ((C.V.length : Int) ≤ C.r) && (wordsL C.V && (((C.S.length : Int) == (C.W.length : Int)) && (wordsL C.S && ((C.os == chOs C.k) && (lnFine C.os C.W && ((C.is == chIs C.k) && lnFine C.is C.G))))))))
def chOut (C : CP) : Bool := pzHit C.lv C.o
def chIn (C : CP) : Bool := pzHit C.lv C.i
def chHit (C : CP) (p : Int) : Bool := chFine C && ((decide (p ∈ C.W) && chOut C) || (decide (p ∈ C.G) && chIn C))
def chSends (C : CP) : Bool := decide (0 < (C.W.length : Int)) && !chOut C
def chGets (C : CP) : Bool := decide (0 < (C.G.length : Int)) && !chIn C
/-- The move may happen in one that may be. -/
def chMay (C : CP) (m : Int) : Bool :=
  if m = 1 then (C.r == 0) && (chSends C && chGets C) else if m = 2 then decide ((C.V.length : Int) < C.r) && chSends C else if m = 3 then decide (0 < (C.V.length : Int)) && chGets C else false
def chWhat (C : CP) : List Int := if chFine C = true then (if chMay C 1 then [1] else []) ++ ((if chMay C 2 then [2] else []) ++ (if chMay C 3 then [3] else [])) else []
/-- Without p. -/
def cutL (L : List Int) (n : Nat) : List Int := L.take n ++ L.drop (n + 1)
def chLeave (C : CP) (p : Int) : CP :=
  if chFine C = true then { C with S := if p ∈ C.W then cutL C.S (ixN C.W p) else C.S, W := lnLeaveL C.os C.W p, G := lnLeaveL C.is C.G p } else C
def chSendE (C : CP) (p v : Int) : Int := if chFine C = false then 1 else if fineW v = false then 8 else lnJoinE C.os C.W p
def chSend (C : CP) (p v : Int) : CP := if chSendE C p v = 0 then { C with W := C.W ++ [p], S := C.S ++ [v] } else C
def chRecvE (C : CP) (p : Int) : Int := if chFine C = false then 1 else lnJoinE C.is C.G p
def chRecv (C : CP) (p : Int) : CP := if chRecvE C p = 0 then { C with G := C.G ++ [p] } else C
def chPoisE (C : CP) (b : Int) : Int := if chFine C = false then 1 else pzErr C.lv b
def chPois (C : CP) (b : Int) : CP := if chPoisE C b = 0 then { C with lv := pzRaise C.lv b } else C

theorem ccE_ok {k r i o : Int} (h : ccE k r i o = 0) : (0 ≤ k ∧ k ≤ 3) ∧ (0 ≤ r ∧ r ≤ 8) ∧ pzFine i = true ∧ pzFine o = true := by
  unfold ccE at h
  split at h
  · omega
  · split at h
    · omega
    · next h1 h2 =>
      refine ⟨by omega, by omega, ?_, ?_⟩
      · cases e : pzFine i
        · exact absurd (.inr (.inr (.inl e))) h2
        · rfl
      · cases e : pzFine o
        · exact absurd (.inr (.inr (.inr e))) h2
        · rfl
theorem chIs_le {k r i o : Int} (h : ccE k r i o = 0) : decide (2 ≤ k) = chIs k := by
  have := ccE_ok h
  have h1 : k = 0 ∨ k = 1 ∨ k = 2 ∨ k = 3 := by omega
  rcases h1 with rfl | rfl | rfl | rfl <;> rfl
/-- What one that may be has. -/
structure ChOk (C : CP) : Prop where
  e : ccE C.k C.r C.i C.o = 0
  lv : pzFine C.lv = true
  room : (C.V.length : Int) ≤ C.r
  wv : wordsL C.V = true
  len : C.S.length = C.W.length
  ws : wordsL C.S = true
  os : C.os = chOs C.k
  lw : lnFine C.os C.W = true
  is : C.is = chIs C.k
  lg : lnFine C.is C.G = true
theorem chOk {C : CP} (h : chFine C = true) : ChOk C := by
  unfold chFine at h
  simp only [Bool.and_eq_true, beq_iff_eq, decide_eq_true_eq] at h
  obtain ⟨h1, h2, h3, h4, h5, h6, h7, h8, h9, h10⟩ := h
  exact ⟨h1, h2, h3, h4, by omega, h6, h7, h8, h9, h10⟩
theorem ChOk.fine {C : CP} (h : ChOk C) : chFine C = true := by
  unfold chFine
  simp only [Bool.and_eq_true, beq_iff_eq, decide_eq_true_eq]
  exact ⟨h.e, h.lv, h.room, h.wv, by rw [h.len], h.ws, h.os, h.lw, h.is, h.lg⟩
theorem chWhat_len (C : CP) : (chWhat C).length ≤ 3 := by
  unfold chWhat
  split
  · cases chMay C 1 <;> cases chMay C 2 <;> cases chMay C 3 <;> simp
  · simp
theorem chLeave_few (C : CP) (p : Int) : (chLeave C p).V = C.V ∧ (chLeave C p).W.length ≤ C.W.length ∧ (chLeave C p).S.length ≤ C.S.length ∧ (chLeave C p).G.length ≤ C.G.length := by
  unfold chLeave
  split
  · refine ⟨rfl, lnLeaveL_len _ _ _, ?_, lnLeaveL_len _ _ _⟩
    show (if p ∈ C.W then cutL C.S (ixN C.W p) else C.S).length ≤ C.S.length
    split
    · unfold cutL; simp; omega
    · exact Nat.le_refl _
  · exact ⟨rfl, Nat.le_refl _, Nat.le_refl _, Nat.le_refl _⟩
end Go.Proofs.Ytnmjjemkaamcfaa
