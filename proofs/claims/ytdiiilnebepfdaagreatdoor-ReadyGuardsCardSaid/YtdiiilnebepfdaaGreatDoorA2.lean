/- Plain maths of lines: where a number stands in a list; whether a line may be; the line with a process, and without it. Plain maths of poison: levels and strengths, what Raise, Hit, All and Least come to. Digits as plain functions on lists of bytes: what a text of digits is, its number, and a number's own text. No model. Words as plain functions on numbers: what is a word, what a number is wrapped, what two words come to, and the laws between them. No model. Plain maths of instants: what is nearest to a number within the limits, and what the five functions come to. Plain maths of a channel: what it is to be, whether it may be, what may happen, what it is behind that. -/
import Derived.Test.YtdiiilnebepfdaaGreatDoorA1
import Derived.Lib.ItoaNum
import Derived.IntWalk
import Derived.Laws.Entries
import Derived.RowKit
namespace Go.Proofs.YtdiiilnebepfdaaGreatDoor

/-- Where p stands first; the length, if it stands nowhere. -/
def ixN : List Int → Int → Nat
  | [], _ => 0
  | x :: L, p => if x = p then 0 else ixN L p + 1
theorem ixN_le (L : List Int) (p : Int) : ixN L p ≤ L.length := by
  induction L with
  | nil => simp [ixN]
  | cons x L ih =>
    unfold ixN
    split
    · omega
    · simp only [List.length_cons]; omega
theorem ixN_mem {L : List Int} {p : Int} : ixN L p < L.length ↔ p ∈ L := by
  induction L with
  | nil => simp [ixN]
  | cons x L ih =>
    unfold ixN
    by_cases h : x = p
    · simp [h]
    · rw [if_neg h, List.mem_cons, List.length_cons]
      constructor
      · intro k; exact .inr (ih.1 (by omega))
      · rintro (k | k)
        · exact absurd k.symm h
        · have := ih.2 k; omega
theorem ixN_no {L : List Int} {p : Int} (h : p ∉ L) : ixN L p = L.length := by
  have h1 := ixN_le L p
  have h2 : ¬ ixN L p < L.length := fun k => h (ixN_mem.1 k)
  omega
theorem ixN_get {L : List Int} {p : Int} (h : ixN L p < L.length) : L[ixN L p] = p := by
  induction L with
  | nil => simp at h
  | cons x L ih =>
    by_cases hx : x = p
    · simp [ixN, hx]
    · have e : ixN (x :: L) p = ixN L p + 1 := by rw [ixN, if_neg hx]
      simp only [e, List.getElem_cons_succ]
      exact ih (by rw [e] at h; simpa using h)
theorem ixN_of {L : List Int} {p : Int} : ∀ (k : Nat) (hk : k < L.length), L[k] = p → (∀ i (hi : i < k), L[i]'(by omega) ≠ p) → ixN L p = k := by
  induction L with
  | nil => intro k hk; simp at hk
  | cons x L ih =>
    intro k hk h hb
    unfold ixN
    rcases k with _ | k
    · rw [if_pos (by simpa using h)]
    · rw [if_neg (by simpa using hb 0 (by omega)), ih k (by simpa using hk) (by simpa using h) (fun i hi => by simpa using hb (i + 1) (by omega))]
/-- Where p stands, as the functions tell it. -/
def ixL (L : List Int) (p : Int) : Int := if ixN L p < L.length then (ixN L p : Int) else -1
theorem ixL_no {L : List Int} {p : Int} (h : p ∉ L) : ixL L p = -1 := by
  unfold ixL
  rw [if_neg (fun k => h (ixN_mem.1 k))]
theorem ixL_yes {L : List Int} {p : Int} (h : p ∈ L) : ixL L p = ixN L p := by
  unfold ixL
  rw [if_pos (ixN_mem.2 h)]
theorem ixL_neg {L : List Int} {p : Int} : decide (ixL L p < 0) = !decide (p ∈ L) := by
  by_cases h : p ∈ L
  · rw [ixL_yes h]; simp [h]
  · rw [ixL_no h]; simp [h]
theorem ixL_geq {L : List Int} {p : Int} : decide (0 ≤ ixL L p) = decide (p ∈ L) := by
  by_cases h : p ∈ L
  · rw [ixL_yes h]; simp [h]
  · rw [ixL_no h]; simp [h]

/-- A process's number. -/
def lnP (p : Int) : Bool := decide (0 ≤ p) && decide (p < 16)
theorem lnP_iff (p : Int) : lnP p = true ↔ 0 ≤ p ∧ p < 16 := by simp [lnP]
theorem lnP_no (p : Int) (h : lnP p = false) : p < 0 ∨ 16 ≤ p := by
  by_cases h0 : 0 ≤ p
  · by_cases h1 : p < 16
    · simp [lnP, h0, h1] at h
    · exact .inr (by omega)
  · exact .inl (by omega)
/-- All are processes, none twice. -/
def lnGood (L : List Int) : Bool := L.all lnP && decide L.Nodup
theorem lnGood_iff (L : List Int) : lnGood L = true ↔ (∀ z ∈ L, 0 ≤ z ∧ z < 16) ∧ L.Nodup := by
  unfold lnGood
  rw [Bool.and_eq_true, List.all_eq_true, decide_eq_true_iff]
  constructor
  · rintro ⟨h, k⟩; exact ⟨fun z hz => (lnP_iff z).1 (h z hz), k⟩
  · rintro ⟨h, k⟩; exact ⟨fun z hz => (lnP_iff z).2 (h z hz), k⟩
theorem lnGood_snoc (L : List Int) (z : Int) : lnGood (L ++ [z]) = (lnGood L && (lnP z && !decide (z ∈ L))) := by
  apply Bool.eq_iff_iff.2
  simp only [Bool.and_eq_true, lnGood_iff, lnP_iff, Bool.not_eq_true', decide_eq_false_iff_not, List.nodup_append, List.mem_append, List.mem_singleton]
  constructor
  · rintro ⟨h1, h2, h3, h4⟩
    exact ⟨⟨fun z hz => h1 z (.inl hz), h2⟩, h1 z (.inr rfl), fun hz => h4 z hz z (by simp) rfl⟩
  · rintro ⟨⟨h1, h2⟩, h3, h4⟩
    refine ⟨?_, h2, by simp, ?_⟩
    · rintro y (hy | rfl)
      · exact h1 y hy
      · exact h3
    · intro a ha b hb e
      obtain rfl : b = z := by simpa using hb
      exact h4 (e ▸ ha)
theorem lnGood_pre {L M : List Int} (h : lnGood (L ++ M) = true) : lnGood L = true := by
  rw [lnGood_iff] at h ⊢
  exact ⟨fun z hz => h.1 z (List.mem_append_left _ hz), (List.nodup_append.1 h.2).1⟩
theorem lnGood_take {L : List Int} (k : Nat) (h : lnGood (L.take k) = false) : lnGood L = false := by
  cases hL : lnGood L
  · rfl
  · rw [← List.take_append_drop k L] at hL
    rw [lnGood_pre hL] at h
    cases h
theorem ln_snoc (L : List Int) (k : Nat) (h : k < L.length) : L.take (k + 1) = L.take k ++ [L[k]] := by
  rw [List.take_add_one, List.getElem?_eq_getElem h]
  rfl
theorem lnGood_step (L : List Int) (k : Nat) (h : k < L.length) : lnGood (L.take (k + 1)) = (lnGood (L.take k) && (lnP L[k] && !decide (L[k] ∈ L.take k))) := by
  rw [ln_snoc L k h, lnGood_snoc]
/-- Of one that stands at place k: is it the first place? -/
theorem ixL_first (L : List Int) (k : Nat) (h : k < L.length) : (ixL L L[k] != (k : Int)) = decide (L[k] ∈ L.take k) := by
  have hm : L[k] ∈ L := List.getElem_mem h
  have hi := ixN_mem.2 hm
  rw [ixL_yes hm]
  by_cases hk : L[k] ∈ L.take k
  · obtain ⟨i, hi1, hi2⟩ := List.getElem_of_mem hk
    have hik : i < k := by simp at hi1; omega
    rw [List.getElem_take] at hi2
    have hne : ixN L L[k] ≠ k := by
      intro e
      have hlt : ¬ (ixN L L[k] ≤ i) ∨ ixN L L[k] ≤ i := by omega
      have key : ∀ (M : List Int) (p : Int) (i : Nat) (hi : i < M.length), M[i] = p → ixN M p ≤ i := by
        intro M
        induction M with
        | nil => intro p i hi; simp at hi
        | cons x M ih =>
          intro p i hi hp
          unfold ixN
          split
          · omega
          · next hx =>
            rcases i with _ | i
            · exact absurd (by simpa using hp) hx
            · have := ih p i (by simpa using hi) (by simpa using hp)
              omega
      have := key L L[k] i (by omega) hi2
      omega
    simp [hk, bne_iff_ne]
    omega
  · have e : ixN L L[k] = k := ixN_of k h rfl fun i hi e => hk (by
      rw [← e]
      exact List.mem_iff_getElem.2 ⟨i, by simp; omega, by rw [List.getElem_take]⟩)
    rw [e]
    simp [hk]

/-- A line may be. -/
def lnFine (sh : Bool) (L : List Int) : Bool := (sh || decide (L.length < 2)) && lnGood L
theorem lnFine_few {sh : Bool} {L : List Int} (h : lnFine sh L = true) : L.length ≤ 16 := by
  unfold lnFine at h
  rw [Bool.and_eq_true, lnGood_iff] at h
  have key : ∀ (n : Nat) (L : List Int), (∀ z ∈ L, 0 ≤ z ∧ z < (n : Int)) → L.Nodup → L.length ≤ n := by
    intro n
    induction n with
    | zero =>
      intro L h _
      cases L with
      | nil => simp
      | cons x L => have := h x (by simp); omega
    | succ n ih =>
      intro L h hd
      have h1 := ih (L.filter (· ≠ (n : Int))) (fun z hz => by
        have hz' := List.mem_filter.1 hz
        have := h z hz'.1
        have hn : z ≠ n := by simpa using hz'.2
        omega) (List.Pairwise.filter _ hd)
      have h2 : ∀ M : List Int, M.Nodup → M.length ≤ (M.filter (· ≠ (n : Int))).length + 1 := by
        intro M
        induction M with
        | nil => simp
        | cons x M ihM =>
          intro hM
          rw [List.nodup_cons] at hM
          by_cases hx : x = (n : Int)
          · have : M.filter (· ≠ (n : Int)) = M := List.filter_eq_self.2 fun z hz => by
              have : z ≠ (n : Int) := fun e => hM.1 (by rw [hx, ← e]; exact hz)
              simpa using this
            rw [List.filter_cons_of_neg (by simp [hx]), this, List.length_cons]
            exact Nat.le_refl _
          · have := ihM hM.2
            rw [List.filter_cons_of_pos (by simpa using hx), List.length_cons, List.length_cons]
            omega
      have := h2 L hd
      omega
  exact key 16 L (fun z hz => by have := h.2.1 z hz; omega) h.2.2

/-- What Join tells of a line and a process. -/
def lnJoinE (sh : Bool) (L : List Int) (p : Int) : Int :=
  if lnFine sh L = false then 1 else if lnP p = false then 8 else if p ∈ L then 7 else if sh = false ∧ 0 < L.length then 15 else 0
/-- The line behind it. -/
def lnJoinL (sh : Bool) (L : List Int) (p : Int) : List Int := if lnJoinE sh L p = 0 then L ++ [p] else L
/-- p waits in a line that may be. -/
def lnThere (sh : Bool) (L : List Int) (p : Int) : Bool := lnFine sh L && decide (p ∈ L)
/-- The line without p. -/
def lnLeaveL (sh : Bool) (L : List Int) (p : Int) : List Int := if lnThere sh L p = true then L.take (ixN L p) ++ L.drop (ixN L p + 1) else L
/-- How many are ahead of p. -/
def lnAhead (sh : Bool) (L : List Int) (p : Int) : Int := if lnThere sh L p = true then ixN L p else 0
/-- One waits. -/
def lnSome (sh : Bool) (L : List Int) : Bool := lnFine sh L && decide (0 < L.length)
/-- Who came first. -/
def lnHead (sh : Bool) (L : List Int) : Int := if lnSome sh L = true then L.headD 0 else 0
theorem lnJoinL_len (sh : Bool) (L : List Int) (p : Int) : (lnJoinL sh L p).length ≤ L.length + 1 := by
  unfold lnJoinL
  split <;> simp
theorem lnLeaveL_len (sh : Bool) (L : List Int) (p : Int) : (lnLeaveL sh L p).length ≤ L.length := by
  unfold lnLeaveL
  split
  · simp; omega
  · exact Nat.le_refl _
theorem ret_lb {k : IntKind} {a b : Value} {c d : Int} (h : a = b) (h' : c = d) : Ending.returned (.tuple #[a, .int k c]) = .returned (.tuple #[b, .int k d]) := by rw [h, h']
end Go.Proofs.YtdiiilnebepfdaaGreatDoor

namespace Go.Proofs.YtdiiilnebepfdaaGreatDoor
def pzFine (n : Int) : Bool := decide (0 ≤ n ∧ n ≤ 255)
def pzStr (n : Int) : Bool := decide (1 ≤ n ∧ n ≤ 255)
def pzOk (l b : Int) : Bool := pzFine l && pzStr b
def pzRaise (l b : Int) : Int := bif pzOk l b then max l b else 0
def pzErr (l b : Int) : Int := bif pzOk l b then 0 else 8
def pzHit (l b : Int) : Bool := pzFine l && (pzFine b && decide (b < l))
theorem pzFine_iff (n : Int) : pzFine n = true ↔ 0 ≤ n ∧ n ≤ 255 := by unfold pzFine; simp
theorem pzStr_iff (n : Int) : pzStr n = true ↔ 1 ≤ n ∧ n ≤ 255 := by unfold pzStr; simp
theorem pzFine_no (n : Int) (h : pzFine n = false) : n < 0 ∨ 255 < n := by
  have : ¬ (0 ≤ n ∧ n ≤ 255) := fun k => by rw [(pzFine_iff n).2 k] at h; cases h
  omega
theorem pzStr_no (n : Int) (h : pzStr n = false) : n < 1 ∨ 255 < n := by
  have : ¬ (1 ≤ n ∧ n ≤ 255) := fun k => by rw [(pzStr_iff n).2 k] at h; cases h
  omega
theorem pzStr_eq (n : Int) : pzStr n = (pzFine n && (n != 0)) := by
  rw [Bool.eq_iff_iff, Bool.and_eq_true, pzStr_iff, pzFine_iff, bne_iff_ne]; omega
theorem pzRaise_ok (l b : Int) (h : pzFine l = true) (k : pzStr b = true) : pzRaise l b = max l b := by unfold pzRaise pzOk; rw [h, k]; rfl
theorem pzErr_ok (l b : Int) (h : pzFine l = true) (k : pzStr b = true) : pzErr l b = 0 := by unfold pzErr pzOk; rw [h, k]; rfl
theorem pzOk_no (l b : Int) (h : pzFine l = false ∨ pzStr b = false) : pzOk l b = false := by unfold pzOk; rcases h with h | h <;> simp [h]
theorem pzRaise_no (l b : Int) (h : pzFine l = false ∨ pzStr b = false) : pzRaise l b = 0 := by unfold pzRaise; rw [pzOk_no l b h]; rfl
theorem pzErr_no (l b : Int) (h : pzFine l = false ∨ pzStr b = false) : pzErr l b = 8 := by unfold pzErr; rw [pzOk_no l b h]; rfl
theorem pzHit_of (l b : Int) (h : 0 ≤ l ∧ l ≤ 255) (k : 0 ≤ b ∧ b ≤ 255) : pzHit l b = decide (b < l) := by
  unfold pzHit; rw [(pzFine_iff l).2 h, (pzFine_iff b).2 k]; simp

/-- Each of them is a level. -/
def pzAllFine (L : List Int) : Bool := L.all pzFine
/-- All raise without an error. -/
def pzGood (L : List Int) (by_ : Int) : Bool := pzStr by_ && pzAllFine L
def pzAll (L : List Int) (by_ : Int) : List Int := bif pzGood L by_ then L.map fun l => max l by_ else []
def pzAllE (L : List Int) (by_ : Int) : Int := bif pzGood L by_ then 0 else 8
/-- What the end bears that bears least; MaxLevel of none. -/
def pzMin (L : List Int) : Int := L.foldl min 255
def pzIs (L : List Int) : Bool := pzAllFine L && decide (pzMin L < 255)
def pzLeast (L : List Int) : Int := bif pzIs L then pzMin L + 1 else 0
theorem foldl_min_le (L : List Int) : ∀ a : Int, L.foldl min a ≤ a ∧ ∀ b ∈ L, L.foldl min a ≤ b := by
  induction L with
  | nil => intro a; simp
  | cons x L ih =>
    intro a
    have := ih (min a x)
    refine ⟨by rw [List.foldl_cons]; omega, fun b hb => ?_⟩
    rw [List.foldl_cons]
    rcases List.mem_cons.1 hb with rfl | hb
    · omega
    · exact this.2 b hb
theorem foldl_min_mem (L : List Int) : ∀ a : Int, L.foldl min a = a ∨ L.foldl min a ∈ L := by
  induction L with
  | nil => intro a; simp
  | cons x L ih =>
    intro a
    rw [List.foldl_cons]
    rcases ih (min a x) with h | h
    · rcases Int.le_total a x with k | k
      · rw [Int.min_eq_left k] at h ⊢; exact .inl h
      · rw [Int.min_eq_right k] at h ⊢; rw [h]; exact .inr (by simp)
    · exact .inr (List.mem_cons_of_mem _ h)
theorem pzMin_le (L : List Int) : pzMin L ≤ 255 := (foldl_min_le L 255).1
theorem pzMin_mem (L : List Int) {b : Int} (h : b ∈ L) : pzMin L ≤ b := (foldl_min_le L 255).2 b h
theorem pzMin_is (L : List Int) : pzMin L = 255 ∨ pzMin L ∈ L := foldl_min_mem L 255
theorem pzMin_snoc (L : List Int) (a : Int) : pzMin (L ++ [a]) = min (pzMin L) a := by unfold pzMin; rw [List.foldl_append]; rfl
theorem pzAllFine_iff (L : List Int) : pzAllFine L = true ↔ ∀ b ∈ L, pzFine b = true := by unfold pzAllFine; rw [List.all_eq_true]
theorem pzAllFine_no {L : List Int} {b : Int} (h : b ∈ L) (k : pzFine b = false) : pzAllFine L = false := by
  cases e : pzAllFine L
  · rfl
  · rw [(pzAllFine_iff L).1 e b h] at k; cases k
theorem pzGood_no {L : List Int} {b by_ : Int} (h : b ∈ L) (k : pzFine b = false) : pzGood L by_ = false := by unfold pzGood; rw [pzAllFine_no h k]; simp
theorem pzGood_by {L : List Int} {by_ : Int} (k : pzStr by_ = false) : pzGood L by_ = false := by unfold pzGood; rw [k]; rfl
theorem pzAll_ok {L : List Int} {by_ : Int} (h : pzGood L by_ = true) : pzAll L by_ = L.map fun l => max l by_ := by unfold pzAll; rw [h]; rfl
theorem pzAll_no {L : List Int} {by_ : Int} (h : pzGood L by_ = false) : pzAll L by_ = [] := by unfold pzAll; rw [h]; rfl
theorem pzAllE_ok {L : List Int} {by_ : Int} (h : pzGood L by_ = true) : pzAllE L by_ = 0 := by unfold pzAllE; rw [h]; rfl
theorem pzAllE_no {L : List Int} {by_ : Int} (h : pzGood L by_ = false) : pzAllE L by_ = 8 := by unfold pzAllE; rw [h]; rfl
theorem pzAll_len (L : List Int) (by_ : Int) : (pzAll L by_).length ≤ L.length := by
  cases h : pzGood L by_
  · rw [pzAll_no h]; simp
  · rw [pzAll_ok h]; simp
theorem pzIs_no {L : List Int} {b : Int} (h : b ∈ L) (k : pzFine b = false) : pzIs L = false := by unfold pzIs; rw [pzAllFine_no h k]; rfl
theorem pzIs_top {L : List Int} (h : pzMin L = 255) : pzIs L = false := by unfold pzIs; rw [h]; simp
theorem pzIs_ok {L : List Int} (h : pzAllFine L = true) (k : pzMin L < 255) : pzIs L = true := by unfold pzIs; rw [h]; simpa using k
theorem pzLeast_no {L : List Int} (h : pzIs L = false) : pzLeast L = 0 := by unfold pzLeast; rw [h]; rfl
theorem pzLeast_ok {L : List Int} (h : pzIs L = true) : pzLeast L = pzMin L + 1 := by unfold pzLeast; rw [h]; rfl
theorem pz_snoc {α : Type} (L : List α) (k : Nat) (h : k < L.length) : L.take (k + 1) = L.take k ++ [L[k]] := by
  rw [List.take_add_one, List.getElem?_eq_getElem h]; rfl
theorem pzFine_snoc {L : List Int} {a : Int} (h : pzAllFine L = true) (k : pzFine a = true) : pzAllFine (L ++ [a]) = true := by unfold pzAllFine at *; simp [h, k]
end Go.Proofs.YtdiiilnebepfdaaGreatDoor

namespace Go.Proofs.YtdiiilnebepfdaaGreatDoor

def isDig (c : UInt8) : Bool := decide (48 ≤ c.toNat ∧ c.toNat ≤ 57)
def plainB (l : List UInt8) : Bool := !l.isEmpty && (!(l.headD 0 == 48 && decide (1 < l.length)) && l.all isDig)
def numF (C : Int) (n : Int) (c : UInt8) : Int := min (10 * n + ((c.toNat : Int) - 48)) C
def numV (C : Int) (n : Int) (l : List UInt8) : Int := l.foldl (numF C) n
def plainV (l : List UInt8) : Int := if plainB l = true then numV 1000000000 0 l else 0
/-- The number of a list of digits behind those that come to n. -/
def numN (n : Nat) (l : List UInt8) : Nat := l.foldl (fun a c => 10 * a + (c.toNat - 48)) n

theorem isDig_iff (c : UInt8) : isDig c = true ↔ 48 ≤ c.toNat ∧ c.toNat ≤ 57 := by unfold isDig; exact decide_eq_true_iff
theorem numN_nil (n : Nat) : numN n [] = n := rfl
theorem numN_cons (n : Nat) (c : UInt8) (l : List UInt8) : numN n (c :: l) = numN (10 * n + (c.toNat - 48)) l := by unfold numN; rw [List.foldl_cons]
theorem numN_app (n : Nat) (a b : List UInt8) : numN n (a ++ b) = numN (numN n a) b := by unfold numN; rw [List.foldl_append]
theorem numN_le : ∀ (l : List UInt8) (n : Nat), n * 10 ^ l.length ≤ numN n l
  | [], n => by simp [numN]
  | c :: l, n => by
    rw [numN_cons]
    have h := numN_le l (10 * n + (c.toNat - 48))
    refine Nat.le_trans ?_ h
    rw [List.length_cons, Nat.pow_succ, Nat.mul_comm (10 ^ l.length), ← Nat.mul_assoc]
    exact Nat.mul_le_mul_right _ (by omega)
theorem numN_ge (l : List UInt8) (n : Nat) : n ≤ numN n l := Nat.le_trans (Nat.le_mul_of_pos_right n (Nat.pow_pos (by omega))) (numN_le l n)
theorem numN_lt : ∀ (l : List UInt8) (n : Nat), l.all isDig = true → numN n l < (n + 1) * 10 ^ l.length
  | [], n, _ => by simp [numN]
  | c :: l, n, h => by
    rw [List.all_cons, Bool.and_eq_true] at h
    have hc := (isDig_iff c).1 h.1
    rw [numN_cons]
    have h2 := numN_lt l (10 * n + (c.toNat - 48)) h.2
    refine Nat.lt_of_lt_of_le h2 ?_
    rw [List.length_cons, Nat.pow_succ, Nat.mul_comm (10 ^ l.length), ← Nat.mul_assoc]
    exact Nat.mul_le_mul_right _ (by omega)

theorem plain_all (l : List UInt8) (h : plainB l = true) : l.all isDig = true := by
  unfold plainB at h
  rw [Bool.and_eq_true, Bool.and_eq_true] at h
  exact h.2.2
theorem plain_ne (l : List UInt8) (h : plainB l = true) : l.isEmpty = false := by
  unfold plainB at h
  rw [Bool.and_eq_true] at h
  simpa using h.1
theorem plainV_of (l : List UInt8) (h : plainB l = true) : plainV l = numV 1000000000 0 l := if_pos h
theorem plainV_no (l : List UInt8) (h : plainB l = false) : plainV l = 0 := if_neg (by rw [h]; decide)
theorem plain_nil : plainB [] = false := rfl
theorem plain_zero (l : List UInt8) (h : (l.headD 0 == 48) = true) (h1 : 1 < l.length) : plainB l = false := by
  unfold plainB
  rw [h, decide_eq_true h1]
  simp
theorem plain_else (l : List UInt8) (h0 : l ≠ []) (h : (l.headD 0 == 48) = false ∨ l.length = 1) : plainB l = l.all isDig := by
  unfold plainB
  have e : l.isEmpty = false := by
    cases l with
    | nil => exact absurd rfl h0
    | cons c l => rfl
  rw [e]
  rcases h with h | h
  · rw [h]; simp
  · rw [h]; simp
theorem numV_app (C n : Int) (a b : List UInt8) : numV C n (a ++ b) = numV C (numV C n a) b := by unfold numV; rw [List.foldl_append]
theorem numV_bd : ∀ (l : List UInt8) (n : Int), 0 ≤ n → n ≤ 1000000000 → l.all isDig = true → 0 ≤ numV 1000000000 n l ∧ numV 1000000000 n l ≤ 1000000000
  | [], n, h, h', _ => ⟨h, h'⟩
  | c :: l, n, h, h', ha => by
    rw [List.all_cons, Bool.and_eq_true] at ha
    have hc := (isDig_iff c).1 ha.1
    exact numV_bd l (numF 1000000000 n c) (by unfold numF; omega) (by unfold numF; omega) ha.2
theorem take_snoc (s : ByteArray) (k : Nat) (h : k < s.size) : s.data.toList.take (k + 1) = s.data.toList.take k ++ [s[k]] := by
  rw [List.take_succ_eq_append_getElem (by simpa using h)]; rfl
theorem drop_cons (s : ByteArray) (k : Nat) (h : k < s.size) : s.data.toList.drop k = s[k] :: s.data.toList.drop (k + 1) := by
  rw [List.drop_eq_getElem_cons (by simpa using h)]; rfl

/- A number's text. -/
theorem dg_len : ∀ (k n : Nat), n < 10 ^ (k + 1) → (Lib.decDigits n).length ≤ k + 1
  | 0, n, h => by
    rw [Lib.decDigits, dif_pos (by simpa using h)]
    simp
  | k + 1, n, h => by
    rw [Lib.decDigits]
    split
    · simp
    · rw [List.length_append]
      have := dg_len k (n / 10) (by rw [Nat.pow_succ] at h; omega)
      simp
      omega
theorem dg_len10 (n : Nat) (h : n ≤ 4294967295) : (Lib.decDigits n).length ≤ 10 := dg_len 9 n (by omega)
theorem dg_step (m : Nat) (h : 9 < m) (acc : List UInt8) : Lib.decDigits (m / 10) ++ (UInt8.ofNat (48 + m % 10) :: acc) = Lib.decDigits m ++ acc := by
  conv => rhs; rw [Lib.decDigits, dif_neg (by omega)]
  simp
theorem dg_last (m : Nat) (h : ¬ 9 < m) (acc : List UInt8) : UInt8.ofNat (48 + m) :: acc = Lib.decDigits m ++ acc := by
  rw [Lib.decDigits, dif_pos (by omega)]
  simp
theorem dg_byte (d : Nat) (h : d < 10) : (UInt8.ofNat (48 + d)).toNat = 48 + d := by
  rw [UInt8.toNat_ofNat']
  omega
theorem dg_all (n : Nat) : (Lib.decDigits n).all isDig = true := by
  induction n using Nat.strongRecOn with
  | _ n ih =>
    rw [Lib.decDigits]
    split
    · have := dg_byte n (by omega)
      simp only [List.all_cons, List.all_nil, Bool.and_true]
      rw [isDig_iff]
      omega
    · rw [List.all_append, ih (n / 10) (by omega)]
      have := dg_byte (n % 10) (by omega)
      simp only [List.all_cons, List.all_nil, Bool.and_true, Bool.true_and]
      rw [isDig_iff]
      omega
theorem dg_num (n : Nat) : numN 0 (Lib.decDigits n) = n := by
  induction n using Nat.strongRecOn with
  | _ n ih =>
    rw [Lib.decDigits]
    split
    · have := dg_byte n (by omega)
      rw [numN_cons, numN_nil]
      omega
    · rw [numN_app, ih (n / 10) (by omega)]
      have := dg_byte (n % 10) (by omega)
      rw [numN_cons, numN_nil]
      omega
theorem dg_ne (n : Nat) : Lib.decDigits n ≠ [] := by
  rw [Lib.decDigits]
  split <;> simp
theorem dg_head (n : Nat) (h : 1 ≤ n) : (Lib.decDigits n).headD 0 ≠ 48 := by
  induction n using Nat.strongRecOn with
  | _ n ih =>
    rw [Lib.decDigits]
    split
    · have := dg_byte n (by omega)
      intro e
      rw [List.headD_cons] at e
      rw [e] at this
      have e48 : (48 : UInt8).toNat = 48 := rfl
      omega
    · have e := ih (n / 10) (by omega) (by omega)
      have hne := dg_ne (n / 10)
      cases hl : Lib.decDigits (n / 10) with
      | nil => exact absurd hl hne
      | cons c l => rw [hl] at e; simpa using e
theorem dg_one (n : Nat) (h : n < 10) : (Lib.decDigits n).length = 1 := by
  rw [Lib.decDigits, dif_pos (by omega)]
  rfl
theorem dg_plain (n : Nat) : plainB (Lib.decDigits n) = true := by
  rw [plain_else _ (dg_ne n)]
  · exact dg_all n
  · by_cases h : 1 ≤ n
    · exact .inl (by simpa using dg_head n h)
    · exact .inr (dg_one n (by omega))
end Go.Proofs.YtdiiilnebepfdaaGreatDoor

namespace Go.Proofs.YtdiiilnebepfdaaGreatDoor
open Go

def fineW (n : Int) : Bool := decide (-2147483648 ≤ n ∧ n ≤ 2147483647)
def wrapW (n : Int) : Int := (n + 2147483648) % 4294967296 - 2147483648
theorem fineW_iff (n : Int) : fineW n = true ↔ -2147483648 ≤ n ∧ n ≤ 2147483647 := by unfold fineW; exact decide_eq_true_iff
theorem fineW_of (n : Int) (a : -2147483648 ≤ n) (b : n ≤ 2147483647) : fineW n = true := (fineW_iff n).2 ⟨a, b⟩
theorem fineW_no (n : Int) (a : n < -2147483648 ∨ 2147483647 < n) : fineW n = false := by
  cases e : fineW n
  · rfl
  · rw [fineW_iff] at e; omega
theorem fineW_not (n : Int) (e : fineW n = false) : n < -2147483648 ∨ 2147483647 < n := by
  rcases Int.lt_or_le n (-2147483648) with a | a
  · exact .inl a
  · rcases Int.lt_or_le 2147483647 n with b | b
    · exact .inr b
    · rw [fineW_of n a b] at e; cases e
theorem wrapW_fine (n : Int) : -2147483648 ≤ wrapW n ∧ wrapW n ≤ 2147483647 := by unfold wrapW; omega
theorem wrapW_id (n : Int) (a : -2147483648 ≤ n) (b : n ≤ 2147483647) : wrapW n = n := by unfold wrapW; omega
theorem wrapW_add (n k : Int) : wrapW (n + 4294967296 * k) = wrapW n := by unfold wrapW; omega
theorem wrapW_off (n : Int) : ∃ k : Int, wrapW n = n + 4294967296 * k := ⟨-((n + 2147483648) / 4294967296), by unfold wrapW; omega⟩
theorem wrapW_64 (n : Int) : wrapW (RowKit.wrap64 n) = wrapW n := by unfold wrapW RowKit.wrap64; omega
/-- Two numbers that leave the same are wrapped alike. -/
theorem wrapW_eq (a b : Int) (h : a % 4294967296 = b % 4294967296) : wrapW a = wrapW b := by unfold wrapW; omega
/-- The document's way to wrap. -/
theorem wrapW_rem (n m : Int) (h : m = n.tmod 4294967296) : wrapW n = if 2147483647 < (if m < 0 then m + 4294967296 else m) then (if m < 0 then m + 4294967296 else m) - 4294967296 else (if m < 0 then m + 4294967296 else m) := by
  subst h
  unfold wrapW
  rcases Int.lt_or_le n 0 with a | a
  · have e : (-n).tmod 4294967296 = -(n.tmod 4294967296) := Int.neg_tmod n 4294967296
    have p : (-n).tmod 4294967296 = (-n) % 4294967296 := Int.tmod_eq_emod_of_nonneg (by omega)
    have q : n.tmod 4294967296 = -((-n) % 4294967296) := by omega
    rw [q]
    split <;> split <;> omega
  · have p : n.tmod 4294967296 = n % 4294967296 := Int.tmod_eq_emod_of_nonneg a
    rw [p]
    split <;> split <;> omega

/- Bit by bit. -/
def bitP (kind : Int) (x y : Nat) : Bool := if kind = 7 then decide (0 < x % 2 + y % 2) else if kind = 8 then decide (x % 2 + y % 2 = 1) else decide (x % 2 + y % 2 = 2)
theorem bitP6 (x y : Nat) : bitP 6 x y = decide (x % 2 + y % 2 = 2) := by unfold bitP; rw [if_neg (by decide), if_neg (by decide)]
theorem bitP7 (x y : Nat) : bitP 7 x y = decide (0 < x % 2 + y % 2) := by unfold bitP; rw [if_pos rfl]
theorem bitP8 (x y : Nat) : bitP 8 x y = decide (x % 2 + y % 2 = 1) := by unfold bitP; rw [if_neg (by decide), if_pos rfl]
def bitsN (kind : Int) : Nat → Nat → Nat → Nat
  | 0, _, _ => 0
  | k + 1, x, y => (if bitP kind x y = true then 1 else 0) + 2 * bitsN kind k (x / 2) (y / 2)
theorem bitsN_succ (kind : Int) (k x y : Nat) : bitsN kind (k + 1) x y = (if bitP kind x y = true then 1 else 0) + 2 * bitsN kind k (x / 2) (y / 2) := rfl
theorem mod_two_pow (z k : Nat) : z % 2 ^ (k + 1) = z % 2 + 2 * ((z / 2) % 2 ^ k) := by
  rw [Nat.pow_succ, Nat.mul_comm, Nat.mod_mul]
theorem bitsN_lt (kind : Int) : ∀ (k x y : Nat), bitsN kind k x y < 2 ^ k
  | 0, _, _ => by simp [bitsN]
  | k + 1, x, y => by
    rw [bitsN_succ, Nat.pow_succ]
    have := bitsN_lt kind k (x / 2) (y / 2)
    split <;> omega
theorem bitsN_and : ∀ (k x y : Nat), bitsN 6 k x y = (x &&& y) % 2 ^ k
  | 0, x, y => by simp [bitsN, Nat.mod_one]
  | k + 1, x, y => by
    rw [bitsN_succ, mod_two_pow, bitsN_and k (x / 2) (y / 2), ← Nat.and_div_two]
    congr 1
    have := @Nat.and_mod_two_eq_one x y
    rw [bitP6]
    simp only [decide_eq_true_eq]
    split <;> omega
theorem bitsN_or : ∀ (k x y : Nat), bitsN 7 k x y = (x ||| y) % 2 ^ k
  | 0, x, y => by simp [bitsN, Nat.mod_one]
  | k + 1, x, y => by
    rw [bitsN_succ, mod_two_pow, bitsN_or k (x / 2) (y / 2), ← Nat.or_div_two]
    congr 1
    have := @Nat.or_mod_two_eq_one x y
    rw [bitP7]
    simp only [decide_eq_true_eq]
    split <;> omega
theorem bitsN_xor : ∀ (k x y : Nat), bitsN 8 k x y = (x ^^^ y) % 2 ^ k
  | 0, x, y => by simp [bitsN, Nat.mod_one]
  | k + 1, x, y => by
    rw [bitsN_succ, mod_two_pow, bitsN_xor k (x / 2) (y / 2), ← Nat.xor_div_two]
    congr 1
    have := @Nat.xor_mod_two_eq_one x y
    rw [bitP8]
    simp only [decide_eq_true_eq]
    split <;> omega
/-- A word from 0 on. -/
def upW (a : Int) : Nat := (a % 4294967296).toNat
theorem upW_of (a : Int) (h : -2147483648 ≤ a) (h' : a ≤ 2147483647) : (upW a : Int) = if a < 0 then a + 4294967296 else a := by unfold upW; split <;> omega
theorem upW_lt (a : Int) : upW a < 4294967296 := by unfold upW; omega

theorem ofInt64 (a : Int) : (BitVec.ofInt 64 a).toNat % 4294967296 = upW a := by
  rw [BitVec.toNat_ofInt]
  unfold upW
  have : ((2 ^ 64 : Nat) : Int) = 18446744073709551616 := by decide
  rw [this]
  omega
theorem wrap_nat (z u : Nat) (h : z % 4294967296 = u) : wrapW (IntKind.i64.wrap (z : Int)) = wrapW (u : Int) := by
  rw [IntKind.wrap_i64]
  subst h
  unfold wrapW
  omega
theorem w_and (a b : Int) : wrapW (bits .and .i64 a b) = wrapW (bitsN 6 32 (upW a) (upW b)) := by
  show wrapW (IntKind.i64.wrap (((BitVec.ofInt 64 a &&& BitVec.ofInt 64 b).toNat : Nat) : Int)) = _
  refine wrap_nat _ _ ?_
  rw [BitVec.toNat_and, bitsN_and, show (4294967296 : Nat) = 2 ^ 32 by decide, Nat.and_mod_two_pow, ← ofInt64 a, ← ofInt64 b, show (4294967296 : Nat) = 2 ^ 32 by decide, ← Nat.and_mod_two_pow, Nat.mod_mod]
theorem w_or (a b : Int) : wrapW (bits .or .i64 a b) = wrapW (bitsN 7 32 (upW a) (upW b)) := by
  show wrapW (IntKind.i64.wrap (((BitVec.ofInt 64 a ||| BitVec.ofInt 64 b).toNat : Nat) : Int)) = _
  refine wrap_nat _ _ ?_
  rw [BitVec.toNat_or, bitsN_or, show (4294967296 : Nat) = 2 ^ 32 by decide, Nat.or_mod_two_pow, ← ofInt64 a, ← ofInt64 b, show (4294967296 : Nat) = 2 ^ 32 by decide, ← Nat.or_mod_two_pow, Nat.mod_mod]
theorem w_xor (a b : Int) : wrapW (bits .xor .i64 a b) = wrapW (bitsN 8 32 (upW a) (upW b)) := by
  show wrapW (IntKind.i64.wrap (((BitVec.ofInt 64 a ^^^ BitVec.ofInt 64 b).toNat : Nat) : Int)) = _
  refine wrap_nat _ _ ?_
  rw [BitVec.toNat_xor, bitsN_xor, show (4294967296 : Nat) = 2 ^ 32 by decide, Nat.xor_mod_two_pow, ← ofInt64 a, ← ofInt64 b, show (4294967296 : Nat) = 2 ^ 32 by decide, ← Nat.xor_mod_two_pow, Nat.mod_mod]
theorem and31 (b : Int) : bits .and .i64 b 31 = b % 32 := by
  show IntKind.i64.wrap (((BitVec.ofInt 64 b &&& BitVec.ofInt 64 31).toNat : Nat) : Int) = _
  have e : (BitVec.ofInt 64 b &&& BitVec.ofInt 64 31).toNat = (b % 32).toNat := by
    rw [BitVec.toNat_and, show (BitVec.ofInt 64 31).toNat = 2 ^ 5 - 1 by decide, Nat.and_two_pow_sub_one_eq_mod, BitVec.toNat_ofInt]
    have : ((2 ^ 64 : Nat) : Int) = 18446744073709551616 := by decide
    rw [this]
    omega
  rw [e, IntKind.wrap_i64]
  omega
theorem up31 (b : Int) : ((upW b : Nat) : Int) % 32 = b % 32 := by unfold upW; omega
theorem xor_all (a : Int) (h : -2147483648 ≤ a) (h' : a ≤ 2147483647) : bits .xor .i64 (-1) a = -1 - a := by
  show IntKind.i64.wrap (((BitVec.ofInt 64 (-1) ^^^ BitVec.ofInt 64 a).toNat : Nat) : Int) = _
  have e : (BitVec.ofInt 64 (-1) ^^^ BitVec.ofInt 64 a) = ~~~(BitVec.ofInt 64 a) := by
    rw [show BitVec.ofInt 64 (-1) = BitVec.allOnes 64 by decide, BitVec.xor_comm, BitVec.xor_allOnes]
  rw [e, BitVec.toNat_not, BitVec.toNat_ofInt, IntKind.wrap_i64]
  have : ((2 ^ 64 : Nat) : Int) = 18446744073709551616 := by decide
  rw [this]
  omega

/- Bits moved, one at a time. -/
def stepM (down : Bool) (a : Int) : Int := if down = true then a / 2 else wrapW (2 * a)
def moveM (down : Bool) : Nat → Int → Int
  | 0, a => a
  | k + 1, a => moveM down k (stepM down a)
theorem moveM_succ (down : Bool) (k : Nat) (a : Int) : moveM down (k + 1) a = moveM down k (stepM down a) := rfl
theorem moveM_down : ∀ (k : Nat) (a : Int), moveM true k a = a / 2 ^ k
  | 0, a => by simp [moveM]
  | k + 1, a => by
    rw [moveM_succ, moveM_down k]
    show a / 2 / 2 ^ k = _
    rw [Int.ediv_ediv_of_nonneg (by omega), Int.pow_succ, Int.mul_comm]
theorem moveM_up : ∀ (k : Nat) (a : Int), -2147483648 ≤ a → a ≤ 2147483647 → moveM false k a = wrapW (a * 2 ^ k)
  | 0, a, h, h' => by
    show a = _
    rw [Int.pow_zero, Int.mul_one, wrapW_id a h h']
  | k + 1, a, h, h' => by
    rw [moveM_succ, show stepM false a = wrapW (2 * a) from rfl, moveM_up k _ (wrapW_fine _).1 (wrapW_fine _).2]
    show wrapW (wrapW (2 * a) * 2 ^ k) = _
    obtain ⟨j, hj⟩ := wrapW_off (2 * a)
    rw [hj, Int.add_mul, Int.mul_assoc 4294967296, wrapW_add, Int.pow_succ, Int.mul_comm 2 a, Int.mul_assoc, Int.mul_comm 2]
theorem moveM_fine (down : Bool) : ∀ (k : Nat) (a : Int), -2147483648 ≤ a → a ≤ 2147483647 → -2147483648 ≤ moveM down k a ∧ moveM down k a ≤ 2147483647
  | 0, a, h, h' => ⟨h, h'⟩
  | k + 1, a, h, h' => by
    rw [moveM_succ]
    have e : -2147483648 ≤ stepM down a ∧ stepM down a ≤ 2147483647 := by
      unfold stepM
      split
      · omega
      · exact wrapW_fine _
    exact moveM_fine down k _ e.1 e.2

/- What two words come to, ahead of wrapping, and behind it. -/
def rawV (op a b : Int) : Int :=
  if op = 1 then a + b else if op = 2 then a - b else if op = 3 then a * b else if op = 4 then a.tdiv b else if op = 5 then a.tmod b
  else if op = 6 then bits .and .i64 a b else if op = 7 then bits .or .i64 a b else if op = 8 then bits .xor .i64 a b
  else if op = 9 then a * 2 ^ (b % 32).toNat else if op = 10 then a / 2 ^ (b % 32).toNat
  else if op = 11 then (if a < b then 1 else 0) else (if a = b then 1 else 0)
def doV (op a b : Int) : Int := if 1 ≤ op ∧ op ≤ 12 then (if fineW a = true ∧ fineW b = true then (if b = 0 ∧ (op = 4 ∨ op = 5) then 0 else wrapW (rawV op a b)) else 0) else 0
def doE (op a b : Int) : Int := if 1 ≤ op ∧ op ≤ 12 then (if fineW a = true ∧ fineW b = true then (if b = 0 ∧ (op = 4 ∨ op = 5) then 16 else 0) else 8) else 1
def oneE (a : Int) : Int := if fineW a = true then 0 else 8
theorem oneE_of (a : Int) (h : fineW a = true) : oneE a = 0 := if_pos h
theorem oneE_no (a : Int) (h : fineW a = false) : oneE a = 8 := if_neg (by rw [h]; decide)
end Go.Proofs.YtdiiilnebepfdaaGreatDoor

namespace Go.Proofs.YtdiiilnebepfdaaGreatDoor
def clampC (t : Int) : Int := max 0 (min t 1099511627776)
def fineC (t : Int) : Bool := decide (0 ≤ t ∧ t ≤ 1099511627776)
def afterV (n d : Int) : Int := if fineC n = true then clampC (n + clampC d) else 0
def afterE (n : Int) : Int := if fineC n = true then 0 else 8
def tickV (n d : Int) : Int := if fineC n = true ∧ 0 ≤ d then clampC (n + clampC d) else 0
def tickE (n d : Int) : Int := if fineC n = true then (if d < 0 then 1 else 0) else 8
def dueB (n t : Int) : Bool := fineC n && (fineC t && decide (t ≤ n))
def leftV (n t : Int) : Int := if fineC n = true ∧ fineC t = true then clampC (t - n) else 0
theorem clampC_bd (t : Int) : 0 ≤ clampC t ∧ clampC t ≤ 1099511627776 := by unfold clampC; omega
theorem clampC_in (t : Int) (h : 0 ≤ t ∧ t ≤ 1099511627776) : clampC t = t := by unfold clampC; omega
theorem clampC_low (t : Int) (h : t ≤ 0) : clampC t = 0 := by unfold clampC; omega
theorem clampC_high (t : Int) (h : 1099511627776 ≤ t) : clampC t = 1099511627776 := by unfold clampC; omega
theorem fineC_iff (t : Int) : fineC t = true ↔ 0 ≤ t ∧ t ≤ 1099511627776 := by unfold fineC; simp
theorem fineC_no (t : Int) (h : fineC t = false) : t < 0 ∨ 1099511627776 < t := by
  have : ¬ (0 ≤ t ∧ t ≤ 1099511627776) := fun k => by rw [(fineC_iff t).2 k] at h; cases h
  omega
theorem clampC_eq (t : Int) : (clampC t == t) = fineC t := by
  rw [Bool.eq_iff_iff, beq_iff_eq, fineC_iff]; unfold clampC; omega
theorem afterV_of (n d : Int) (h : fineC n = true) : afterV n d = clampC (n + clampC d) := if_pos h
theorem afterV_no (n d : Int) (h : fineC n = false) : afterV n d = 0 := if_neg (by rw [h]; decide)
theorem afterE_of (n : Int) (h : fineC n = true) : afterE n = 0 := if_pos h
theorem afterE_no (n : Int) (h : fineC n = false) : afterE n = 8 := if_neg (by rw [h]; decide)
theorem tickV_of (n d : Int) (h : fineC n = true) (hd : 0 ≤ d) : tickV n d = clampC (n + clampC d) := if_pos ⟨h, hd⟩
theorem tickV_no (n d : Int) (h : fineC n = false) : tickV n d = 0 := if_neg (by rw [h]; simp)
theorem tickV_neg (n d : Int) (h : d < 0) : tickV n d = 0 := if_neg (by omega)
theorem tickE_of (n d : Int) (h : fineC n = true) (hd : 0 ≤ d) : tickE n d = 0 := by unfold tickE; rw [if_pos h, if_neg (by omega)]
theorem tickE_no (n d : Int) (h : fineC n = false) : tickE n d = 8 := if_neg (by rw [h]; decide)
theorem tickE_neg (n d : Int) (h : fineC n = true) (hd : d < 0) : tickE n d = 1 := by unfold tickE; rw [if_pos h, if_pos hd]
theorem leftV_of (n t : Int) (h : fineC n = true) (k : fineC t = true) : leftV n t = clampC (t - n) := if_pos ⟨h, k⟩
theorem leftV_no (n t : Int) (h : fineC n = false ∨ fineC t = false) : leftV n t = 0 := if_neg (by rcases h with h | h <;> rw [h] <;> simp)
theorem sum_high (n d : Int) (h : 0 ≤ n) (hd : 1099511627776 - n < d) : clampC (n + clampC d) = 1099511627776 := by unfold clampC; omega
theorem sum_in (n d : Int) (h : 0 ≤ n) (hd : 0 ≤ d) (hs : n + d ≤ 1099511627776) : clampC (n + clampC d) = n + d := by unfold clampC; omega
theorem sum_low (n d : Int) (h : 0 ≤ n) (hn : n ≤ 1099511627776) (hd : d < 0) : clampC (n + clampC d) = n := by unfold clampC; omega
end Go.Proofs.YtdiiilnebepfdaaGreatDoor

namespace Go.Proofs.YtdiiilnebepfdaaGreatDoor

/-- A channel, as plain data: kind, room, what its ends bear (i: those that receive, o: those that send), level, values, who sends with what, who receives. -/
structure CP where
  (k r i o lv : Int)
  V : List Int
  os : Bool
  W : List Int
  S : List Int
  is : Bool
  G : List Int
/-- What Check tells. -/
def ccE (k r i o : Int) : Int := if k < 0 ∨ 3 < k then 12 else if r < 0 ∨ 8 < r ∨ pzFine i = false ∨ pzFine o = false then 8 else 0
def chOs (k : Int) : Bool := k == 1 || k == 3
def chIs (k : Int) : Bool := k == 2 || k == 3
def wordsL (L : List Int) : Bool := L.all fineW
def chZero : CP := ⟨0, 0, 0, 0, 0, [], false, [], [], false, []⟩
/-- What New gives. -/
def chNew (k r i o : Int) : CP := bif ccE k r i o == 0 then ⟨k, r, i, o, 0, [], chOs k, [], [], chIs k, []⟩ else chZero
/-- It may be. -/
def chFine (C : CP) : Bool :=
  (ccE C.k C.r C.i C.o == 0) && (pzFine C.lv && (decide ((C.V.length : Int) ≤ C.r) && (wordsL C.V && (((C.S.length : Int) == (C.W.length : Int)) && (wordsL C.S && ((C.os == chOs C.k) && (lnFine C.os C.W && ((C.is == chIs C.k) && lnFine C.is C.G))))))))
def chOut (C : CP) : Bool := pzHit C.lv C.o
def chIn (C : CP) : Bool := pzHit C.lv C.i
def chHit (C : CP) (p : Int) : Bool := chFine C && ((decide (p ∈ C.W) && chOut C) || (decide (p ∈ C.G) && chIn C))
def chSends (C : CP) : Bool := decide (0 < (C.W.length : Int)) && !chOut C
def chGets (C : CP) : Bool := decide (0 < (C.G.length : Int)) && !chIn C
/-- The move may happen in one that may be. -/
def chMay (C : CP) (m : Int) : Bool :=
  if m = 1 then (C.r == 0) && (chSends C && chGets C) else if m = 2 then decide ((C.V.length : Int) < C.r) && chSends C else if m = 3 then decide (0 < (C.V.length : Int)) && chGets C else false
def chWhat (C : CP) : List Int := if chFine C = true then (if chMay C 1 then [1] else []) ++ ((if chMay C 2 then [2] else []) ++ (if chMay C 3 then [3] else [])) else []
/-- Without p. -/
def cutL (L : List Int) (n : Nat) : List Int := L.take n ++ L.drop (n + 1)
def chLeave (C : CP) (p : Int) : CP :=
  if chFine C = true then { C with S := if p ∈ C.W then cutL C.S (ixN C.W p) else C.S, W := lnLeaveL C.os C.W p, G := lnLeaveL C.is C.G p } else C
def chSendE (C : CP) (p v : Int) : Int := if chFine C = false then 1 else if fineW v = false then 8 else lnJoinE C.os C.W p
def chSend (C : CP) (p v : Int) : CP := if chSendE C p v = 0 then { C with W := C.W ++ [p], S := C.S ++ [v] } else C
def chRecvE (C : CP) (p : Int) : Int := if chFine C = false then 1 else lnJoinE C.is C.G p
def chRecv (C : CP) (p : Int) : CP := if chRecvE C p = 0 then { C with G := C.G ++ [p] } else C
def chPoisE (C : CP) (b : Int) : Int := if chFine C = false then 1 else pzErr C.lv b
def chPois (C : CP) (b : Int) : CP := if chPoisE C b = 0 then { C with lv := pzRaise C.lv b } else C

theorem ccE_ok {k r i o : Int} (h : ccE k r i o = 0) : (0 ≤ k ∧ k ≤ 3) ∧ (0 ≤ r ∧ r ≤ 8) ∧ pzFine i = true ∧ pzFine o = true := by
  unfold ccE at h
  split at h
  · omega
  · split at h
    · omega
    · next h1 h2 =>
      refine ⟨by omega, by omega, ?_, ?_⟩
      · cases e : pzFine i
        · exact absurd (.inr (.inr (.inl e))) h2
        · rfl
      · cases e : pzFine o
        · exact absurd (.inr (.inr (.inr e))) h2
        · rfl
theorem chIs_le {k r i o : Int} (h : ccE k r i o = 0) : decide (2 ≤ k) = chIs k := by
  have := ccE_ok h
  have h1 : k = 0 ∨ k = 1 ∨ k = 2 ∨ k = 3 := by omega
  rcases h1 with rfl | rfl | rfl | rfl <;> rfl
/-- What one that may be has. -/
structure ChOk (C : CP) : Prop where
  e : ccE C.k C.r C.i C.o = 0
  lv : pzFine C.lv = true
  room : (C.V.length : Int) ≤ C.r
  wv : wordsL C.V = true
  len : C.S.length = C.W.length
  ws : wordsL C.S = true
  os : C.os = chOs C.k
  lw : lnFine C.os C.W = true
  is : C.is = chIs C.k
  lg : lnFine C.is C.G = true
theorem chOk {C : CP} (h : chFine C = true) : ChOk C := by
  unfold chFine at h
  simp only [Bool.and_eq_true, beq_iff_eq, decide_eq_true_eq] at h
  obtain ⟨h1, h2, h3, h4, h5, h6, h7, h8, h9, h10⟩ := h
  exact ⟨h1, h2, h3, h4, by omega, h6, h7, h8, h9, h10⟩
theorem ChOk.fine {C : CP} (h : ChOk C) : chFine C = true := by
  unfold chFine
  simp only [Bool.and_eq_true, beq_iff_eq, decide_eq_true_eq]
  exact ⟨h.e, h.lv, h.room, h.wv, by rw [h.len], h.ws, h.os, h.lw, h.is, h.lg⟩
theorem chWhat_len (C : CP) : (chWhat C).length ≤ 3 := by
  unfold chWhat
  split
  · cases chMay C 1 <;> cases chMay C 2 <;> cases chMay C 3 <;> simp
  · simp
theorem chLeave_few (C : CP) (p : Int) : (chLeave C p).V = C.V ∧ (chLeave C p).W.length ≤ C.W.length ∧ (chLeave C p).S.length ≤ C.S.length ∧ (chLeave C p).G.length ≤ C.G.length := by
  unfold chLeave
  split
  · refine ⟨rfl, lnLeaveL_len _ _ _, ?_, lnLeaveL_len _ _ _⟩
    show (if p ∈ C.W then cutL C.S (ixN C.W p) else C.S).length ≤ C.S.length
    split
    · unfold cutL; simp; omega
    · exact Nat.le_refl _
  · exact ⟨rfl, Nat.le_refl _, Nat.le_refl _, Nat.le_refl _⟩
end Go.Proofs.YtdiiilnebepfdaaGreatDoor
