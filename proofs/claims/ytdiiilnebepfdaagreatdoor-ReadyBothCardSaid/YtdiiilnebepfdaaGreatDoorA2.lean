/- Plain maths of lines: where a number stands in a list; whether a line may be; the line with a process, and without it. Plain maths of poison: levels and strengths, what Raise, Hit, All and Least come to. Digits as plain functions on lists of bytes: what a text of digits is, its number, and a number's own text. No model. Words as plain functions on numbers: what is a word, what a number is wrapped, what two words come to, and the laws between them. No model. Plain maths of instants: what is nearest to a number within the limits, and what the five functions come to. Plain maths of a channel: what it is to be, whether it may be, what may happen, what it is behind that. -/
import Derived.Test.YtdiiilnebepfdaaGreatDoorA1
import Derived.Lib.ItoaNum
import Derived.IntWalk
import Derived.Laws.Entries
import Derived.RowKit
namespace Go.Proofs.YtdiiilnebepfdaaGreatDoor

/-- Where p stands first; the length, if it stands nowhere. -/
def ixN : List Int → Int → Nat
  | [], _ => 0
  | x :: L, p => if x = p then 0 else ixN L p + 1
theorem ixN_mem {L : List Int} {p : Int} : ixN L p < L.length ↔ p ∈ L := by
  induction L with
  | nil => simp [ixN]
  | cons x L ih =>
    unfold ixN
    by_cases h : x = p
    · simp [h]
    · rw [if_neg h, List.mem_cons, List.length_cons]
      constructor
      · intro k; exact .inr (ih.1 (by omega))
      · rintro (k | k)
        · exact absurd k.symm h
        · have := ih.2 k; omega
theorem ixN_of {L : List Int} {p : Int} : ∀ (k : Nat) (hk : k < L.length), L[k] = p → (∀ i (hi : i < k), L[i]'(by omega) ≠ p) → ixN L p = k := by
  induction L with
  | nil => intro k hk; simp at hk
  | cons x L ih =>
    intro k hk h hb
    unfold ixN
    rcases k with _ | k
    · rw [if_pos (by simpa using h)]
    · rw [if_neg (by simpa using hb 0 (by omega)), ih k (by simpa using hk) (by simpa using h) (fun i hi => by simpa using hb (i + 1) (by omega))]
/-- Where p stands, as the functions tell it. -/
def ixL (L : List Int) (p : Int) : Int := if ixN L p < L.length then (ixN L p : Int) else -1
theorem ixL_no {L : List Int} {p : Int} (h : p ∉ L) : ixL L p = -1 := by
  unfold ixL
  rw [if_neg (fun k => h (ixN_mem.1 k))]
theorem ixL_yes {L : List Int} {p : Int} (h : p ∈ L) : ixL L p = ixN L p := by
  unfold ixL
  rw [if_pos (ixN_mem.2 h)]
theorem ixL_geq {L : List Int} {p : Int} : decide (0 ≤ ixL L p) = decide (p ∈ L) := by
  by_cases h : p ∈ L
  · rw [ixL_yes h]; simp [h]
  · rw [ixL_no h]; simp [h]

/-- A process's number. -/
def lnP (p : Int) : Bool := decide (0 ≤ p) && decide (p < 16)
theorem lnP_iff (p : Int) : lnP p = true ↔ 0 ≤ p ∧ p < 16 := by simp [lnP]
theorem lnP_no (p : Int) (h : lnP p = false) : p < 0 ∨ 16 ≤ p := by
  by_cases h0 : 0 ≤ p
  · by_cases h1 : p < 16
    · simp [lnP, h0, h1] at h
    · exact .inr (by omega)
  · exact .inl (by omega)
/-- All are processes, none twice. -/
def lnGood (L : List Int) : Bool := L.all lnP && decide L.Nodup
theorem lnGood_iff (L : List Int) : lnGood L = true ↔ (∀ z ∈ L, 0 ≤ z ∧ z < 16) ∧ L.Nodup := by
  unfold lnGood
  rw [Bool.and_eq_true, List.all_eq_true, decide_eq_true_iff]
  constructor
  · rintro ⟨h, k⟩; exact ⟨fun z hz => (lnP_iff z).1 (h z hz), k⟩
  · rintro ⟨h, k⟩; exact ⟨fun z hz => (lnP_iff z).2 (h z hz), k⟩
theorem lnGood_snoc (L : List Int) (z : Int) : lnGood (L ++ [z]) = (lnGood L && (lnP z && !decide (z ∈ L))) := by
  apply Bool.eq_iff_iff.2
  simp only [Bool.and_eq_true, lnGood_iff, lnP_iff, Bool.not_eq_true', decide_eq_false_iff_not, List.nodup_append, List.mem_append, List.mem_singleton]
  constructor
  · rintro ⟨h1, h2, h3, h4⟩
    exact ⟨⟨fun z hz => h1 z (.inl hz), h2⟩, h1 z (.inr rfl), fun hz => h4 z hz z (by simp) rfl⟩
  · rintro ⟨⟨h1, h2⟩, h3, h4⟩
    refine ⟨?_, h2, by simp, ?_⟩
    · rintro y (hy | rfl)
      · exact h1 y hy
      · exact h3
    · intro a ha b hb e
      obtain rfl : b = z := by simpa using hb
      exact h4 (e ▸ ha)
theorem lnGood_pre {L M : List Int} (h : lnGood (L ++ M) = true) : lnGood L = true := by
  rw [lnGood_iff] at h ⊢
  exact ⟨fun z hz => h.1 z (List.mem_append_left _ hz), (List.nodup_append.1 h.2).1⟩
theorem lnGood_take {L : List Int} (k : Nat) (h : lnGood (L.take k) = false) : lnGood L = false := by
  cases hL : lnGood L
  · rfl
  · rw [← List.take_append_drop k L] at hL
    rw [lnGood_pre hL] at h
    cases h
theorem ln_snoc (L : List Int) (k : Nat) (h : k < L.length) : L.take (k + 1) = L.take k ++ [L[k]] := by
  rw [List.take_add_one, List.getElem?_eq_getElem h]
  rfl
theorem lnGood_step (L : List Int) (k : Nat) (h : k < L.length) : lnGood (L.take (k + 1)) = (lnGood (L.take k) && (lnP L[k] && !decide (L[k] ∈ L.take k))) := by
  rw [ln_snoc L k h, lnGood_snoc]
/-- Of one that stands at place k: is it the first place? -/
theorem ixL_first (L : List Int) (k : Nat) (h : k < L.length) : (ixL L L[k] != (k : Int)) = decide (L[k] ∈ L.take k) := by
  have hm : L[k] ∈ L := List.getElem_mem h
  have hi := ixN_mem.2 hm
  rw [ixL_yes hm]
  by_cases hk : L[k] ∈ L.take k
  · obtain ⟨i, hi1, hi2⟩ := List.getElem_of_mem hk
    have hik : i < k := by simp at hi1; omega
    rw [List.getElem_take] at hi2
    have hne : ixN L L[k] ≠ k := by
      intro e
      have hlt : ¬ (ixN L L[k] ≤ i) ∨ ixN L L[k] ≤ i := by omega
      have key : ∀ (M : List Int) (p : Int) (i : Nat) (hi : i < M.length), M[i] = p → ixN M p ≤ i := by
        intro M
        induction M with
        | nil => intro p i hi; simp at hi
        | cons x M ih =>
          intro p i hi hp
          unfold ixN
          split
          · omega
          · next hx =>
            rcases i with _ | i
            · exact absurd (by simpa using hp) hx
            · have := ih p i (by simpa using hi) (by simpa using hp)
              omega
      have := key L L[k] i (by omega) hi2
      omega
    simp [hk, bne_iff_ne]
    omega
  · have e : ixN L L[k] = k := ixN_of k h rfl fun i hi e => hk (by
      rw [← e]
      exact List.mem_iff_getElem.2 ⟨i, by simp; omega, by rw [List.getElem_take]⟩)
    rw [e]
    simp [hk]

/-- A line may be. -/
def lnFine (sh : Bool) (L : List Int) : Bool := (sh || decide (L.length < 2)) && lnGood L

/-- What Join tells of a line and a process. -/
def lnJoinE (sh : Bool) (L : List Int) (p : Int) : Int :=
  if lnFine sh L = false then 1 else if lnP p = false then 8 else if p ∈ L then 7 else if sh = false ∧ 0 < L.length then 15 else 0
/-- The line behind it. -/
def lnJoinL (sh : Bool) (L : List Int) (p : Int) : List Int := if lnJoinE sh L p = 0 then L ++ [p] else L
/-- One waits. -/
def lnSome (sh : Bool) (L : List Int) : Bool := lnFine sh L && decide (0 < L.length)
/-- Who came first. -/
def lnHead (sh : Bool) (L : List Int) : Int := if lnSome sh L = true then L.headD 0 else 0
end Go.Proofs.YtdiiilnebepfdaaGreatDoor

namespace Go.Proofs.YtdiiilnebepfdaaGreatDoor
def pzFine (n : Int) : Bool := decide (0 ≤ n ∧ n ≤ 255)
def pzStr (n : Int) : Bool := decide (1 ≤ n ∧ n ≤ 255)
def pzOk (l b : Int) : Bool := pzFine l && pzStr b
def pzRaise (l b : Int) : Int := bif pzOk l b then max l b else 0
def pzErr (l b : Int) : Int := bif pzOk l b then 0 else 8
def pzHit (l b : Int) : Bool := pzFine l && (pzFine b && decide (b < l))
theorem pzFine_iff (n : Int) : pzFine n = true ↔ 0 ≤ n ∧ n ≤ 255 := by unfold pzFine; simp
theorem pzStr_iff (n : Int) : pzStr n = true ↔ 1 ≤ n ∧ n ≤ 255 := by unfold pzStr; simp
theorem pzFine_no (n : Int) (h : pzFine n = false) : n < 0 ∨ 255 < n := by
  have : ¬ (0 ≤ n ∧ n ≤ 255) := fun k => by rw [(pzFine_iff n).2 k] at h; cases h
  omega
theorem pzStr_no (n : Int) (h : pzStr n = false) : n < 1 ∨ 255 < n := by
  have : ¬ (1 ≤ n ∧ n ≤ 255) := fun k => by rw [(pzStr_iff n).2 k] at h; cases h
  omega
theorem pzRaise_ok (l b : Int) (h : pzFine l = true) (k : pzStr b = true) : pzRaise l b = max l b := by unfold pzRaise pzOk; rw [h, k]; rfl
theorem pzErr_ok (l b : Int) (h : pzFine l = true) (k : pzStr b = true) : pzErr l b = 0 := by unfold pzErr pzOk; rw [h, k]; rfl
theorem pzOk_no (l b : Int) (h : pzFine l = false ∨ pzStr b = false) : pzOk l b = false := by unfold pzOk; rcases h with h | h <;> simp [h]
theorem pzRaise_no (l b : Int) (h : pzFine l = false ∨ pzStr b = false) : pzRaise l b = 0 := by unfold pzRaise; rw [pzOk_no l b h]; rfl
theorem pzErr_no (l b : Int) (h : pzFine l = false ∨ pzStr b = false) : pzErr l b = 8 := by unfold pzErr; rw [pzOk_no l b h]; rfl

end Go.Proofs.YtdiiilnebepfdaaGreatDoor

namespace Go.Proofs.YtdiiilnebepfdaaGreatDoor

/- A number's text. -/
end Go.Proofs.YtdiiilnebepfdaaGreatDoor

namespace Go.Proofs.YtdiiilnebepfdaaGreatDoor
open Go

def fineW (n : Int) : Bool := decide (-2147483648 ≤ n ∧ n ≤ 2147483647)
theorem fineW_iff (n : Int) : fineW n = true ↔ -2147483648 ≤ n ∧ n ≤ 2147483647 := by unfold fineW; exact decide_eq_true_iff
theorem fineW_of (n : Int) (a : -2147483648 ≤ n) (b : n ≤ 2147483647) : fineW n = true := (fineW_iff n).2 ⟨a, b⟩
theorem fineW_not (n : Int) (e : fineW n = false) : n < -2147483648 ∨ 2147483647 < n := by
  rcases Int.lt_or_le n (-2147483648) with a | a
  · exact .inl a
  · rcases Int.lt_or_le 2147483647 n with b | b
    · exact .inr b
    · rw [fineW_of n a b] at e; cases e

/- Bit by bit. -/

/- Bits moved, one at a time. -/

/- What two words come to, ahead of wrapping, and behind it. -/
end Go.Proofs.YtdiiilnebepfdaaGreatDoor

namespace Go.Proofs.YtdiiilnebepfdaaGreatDoor
def clampC (t : Int) : Int := max 0 (min t 1099511627776)
def fineC (t : Int) : Bool := decide (0 ≤ t ∧ t ≤ 1099511627776)
def dueB (n t : Int) : Bool := fineC n && (fineC t && decide (t ≤ n))
theorem fineC_iff (t : Int) : fineC t = true ↔ 0 ≤ t ∧ t ≤ 1099511627776 := by unfold fineC; simp
theorem fineC_no (t : Int) (h : fineC t = false) : t < 0 ∨ 1099511627776 < t := by
  have : ¬ (0 ≤ t ∧ t ≤ 1099511627776) := fun k => by rw [(fineC_iff t).2 k] at h; cases h
  omega
theorem clampC_eq (t : Int) : (clampC t == t) = fineC t := by
  rw [Bool.eq_iff_iff, beq_iff_eq, fineC_iff]; unfold clampC; omega
end Go.Proofs.YtdiiilnebepfdaaGreatDoor

namespace Go.Proofs.YtdiiilnebepfdaaGreatDoor

/-- A channel, as plain data: kind, room, what its ends bear (i: those that receive, o: those that send), level, values, who sends with what, who receives. -/
structure CP where
  (k r i o lv : Int)
  V : List Int
  os : Bool
  W : List Int
  S : List Int
  is : Bool
  G : List Int
/-- What Check tells. -/
def ccE (k r i o : Int) : Int := if k < 0 ∨ 3 < k then 12 else if r < 0 ∨ 8 < r ∨ pzFine i = false ∨ pzFine o = false then 8 else 0
def chOs (k : Int) : Bool := k == 1 || k == 3
def chIs (k : Int) : Bool := k == 2 || k == 3
def wordsL (L : List Int) : Bool := L.all fineW
def chZero : CP := ⟨0, 0, 0, 0, 0, [], false, [], [], false, []⟩
/-- What New gives. -/
def chNew (k r i o : Int) : CP := bif ccE k r i o == 0 then ⟨k, r, i, o, 0, [], chOs k, [], [], chIs k, []⟩ else chZero
/-- It may be. -/
def chFine (C : CP) : Bool :=
  (ccE C.k C.r C.i C.o == 0) && (pzFine C.lv && (decide ((C.V.length : Int) ≤ C.r) && (wordsL C.V && (((C.S.length : Int) == (C.W.length : Int)) && (wordsL C.S && ((C.os == chOs C.k) && (lnFine C.os C.W && ((C.is == chIs C.k) && lnFine C.is C.G))))))))
def chOut (C : CP) : Bool := pzHit C.lv C.o
def chIn (C : CP) : Bool := pzHit C.lv C.i
def chSends (C : CP) : Bool := decide (0 < (C.W.length : Int)) && !chOut C
def chGets (C : CP) : Bool := decide (0 < (C.G.length : Int)) && !chIn C
/-- The move may happen in one that may be. -/
def chMay (C : CP) (m : Int) : Bool :=
  if m = 1 then (C.r == 0) && (chSends C && chGets C) else if m = 2 then decide ((C.V.length : Int) < C.r) && chSends C else if m = 3 then decide (0 < (C.V.length : Int)) && chGets C else false
def chWhat (C : CP) : List Int := if chFine C = true then (if chMay C 1 then [1] else []) ++ ((if chMay C 2 then [2] else []) ++ (if chMay C 3 then [3] else [])) else []
def chSendE (C : CP) (p v : Int) : Int := if chFine C = false then 1 else if fineW v = false then 8 else lnJoinE C.os C.W p
def chSend (C : CP) (p v : Int) : CP := if chSendE C p v = 0 then { C with W := C.W ++ [p], S := C.S ++ [v] } else C
def chRecvE (C : CP) (p : Int) : Int := if chFine C = false then 1 else lnJoinE C.is C.G p
def chRecv (C : CP) (p : Int) : CP := if chRecvE C p = 0 then { C with G := C.G ++ [p] } else C
def chPoisE (C : CP) (b : Int) : Int := if chFine C = false then 1 else pzErr C.lv b
def chPois (C : CP) (b : Int) : CP := if chPoisE C b = 0 then { C with lv := pzRaise C.lv b } else C

theorem ccE_ok {k r i o : Int} (h : ccE k r i o = 0) : (0 ≤ k ∧ k ≤ 3) ∧ (0 ≤ r ∧ r ≤ 8) ∧ pzFine i = true ∧ pzFine o = true := by
  unfold ccE at h
  split at h
  · omega
  · split at h
    · omega
    · next h1 h2 =>
      refine ⟨by omega, by omega, ?_, ?_⟩
      · cases e : pzFine i
        · exact absurd (.inr (.inr (.inl e))) h2
        · rfl
      · cases e : pzFine o
        · exact absurd (.inr (.inr (.inr e))) h2
        · rfl
theorem chIs_le {k r i o : Int} (h : ccE k r i o = 0) : decide (2 ≤ k) = chIs k := by
  have := ccE_ok h
  have h1 : k = 0 ∨ k = 1 ∨ k = 2 ∨ k = 3 := by omega
  rcases h1 with rfl | rfl | rfl | rfl <;> rfl
/-- What one that may be has. -/
structure ChOk (C : CP) : Prop where
  e : ccE C.k C.r C.i C.o = 0
  lv : pzFine C.lv = true
  room : (C.V.length : Int) ≤ C.r
  wv : wordsL C.V = true
  len : C.S.length = C.W.length
  ws : wordsL C.S = true
  os : C.os = chOs C.k
  lw : lnFine C.os C.W = true
  is : C.is = chIs C.k
  lg : lnFine C.is C.G = true
theorem chOk {C : CP} (h : chFine C = true) : ChOk C := by
  unfold chFine at h
  simp only [Bool.and_eq_true, beq_iff_eq, decide_eq_true_eq] at h
  obtain ⟨h1, h2, h3, h4, h5, h6, h7, h8, h9, h10⟩ := h
  exact ⟨h1, h2, h3, h4, by omega, h6, h7, h8, h9, h10⟩
theorem chWhat_len (C : CP) : (chWhat C).length ≤ 3 := by
  unfold chWhat
  split
  · cases chMay C 1 <;> cases chMay C 2 <;> cases chMay C 3 <;> simp
  · simp
end Go.Proofs.YtdiiilnebepfdaaGreatDoor
