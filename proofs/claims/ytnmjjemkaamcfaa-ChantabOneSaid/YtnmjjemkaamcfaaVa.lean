/- Plain maths of poison: levels and strengths, what Raise, Hit, All and Least come to. -/
namespace Go.Proofs.Ytnmjjemkaamcfaa
def pzFine (n : Int) : Bool := decide (0 ≤ n ∧ n ≤ 255)
def pzStr (n : Int) : Bool := decide (1 ≤ n ∧ n ≤ 255)
def pzOk (l b : Int) : Bool := pzFine l && pzStr b
def pzRaise (l b : Int) : Int := bif pzOk l b then max l b else 0
def pzErr (l b : Int) : Int := bif pzOk l b then 0 else 8
def pzHit (l b : Int) : Bool := pzFine l && (pzFine b && decide (b < l))
theorem pzFine_iff (n : Int) : pzFine n = true ↔ 0 ≤ n ∧ n ≤ 255 := by unfold pzFine; simp
theorem pzStr_iff (n : Int) : pzStr n = true ↔ 1 ≤ n ∧ n ≤ 255 := by unfold pzStr; simp
theorem pzFine_no (n : Int) (h : pzFine n = false) : n < 0 ∨ 255 < n := by
  have : ¬ (0 ≤ n ∧ n ≤ 255) := fun k => by rw [(pzFine_iff n).2 k] at h; cases h
  omega
theorem pzStr_no (n : Int) (h : pzStr n = false) : n < 1 ∨ 255 < n := by
  have : ¬ (1 ≤ n ∧ n ≤ 255) := fun k => by rw [(pzStr_iff n).2 k] at h; cases h
  omega
theorem pzStr_eq (n : Int) : pzStr n = (pzFine n && (n != 0)) := by
  rw [Bool.eq_iff_iff, Bool.and_eq_true, pzStr_iff, pzFine_iff, bne_iff_ne]; omega
theorem pzRaise_ok (l b : Int) (h : pzFine l = true) (k : pzStr b = true) : pzRaise l b = max l b := by unfold pzRaise pzOk; rw [h, k]; rfl
theorem pzErr_ok (l b : Int) (h : pzFine l = true) (k : pzStr b = true) : pzErr l b = 0 := by unfold pzErr pzOk; rw [h, k]; rfl
theorem pzOk_no (l b : Int) (h : pzFine l = false ∨ pzStr b = false) : pzOk l b = false := by unfold pzOk; rcases h with h | h <;> simp [h]
theorem pzRaise_no (l b : Int) (h : pzFine l = false ∨ pzStr b = false) : pzRaise l b = 0 := by unfold pzRaise; rw [pzOk_no l b h]; rfl
theorem pzErr_no (l b : Int) (h : pzFine l = false ∨ pzStr b = false) : pzErr l b = 8 := by unfold pzErr; rw [pzOk_no l b h]; rfl
theorem pzHit_of (l b : Int) (h : 0 ≤ l ∧ l ≤ 255) (k : 0 ≤ b ∧ b ≤ 255) : pzHit l b = decide (b < l) := by
  unfold pzHit; rw [(pzFine_iff l).2 h, (pzFine_iff b).2 k]; simp

/-- Each of them is a level. -/
def pzAllFine (L : List Int) : Bool := L.all pzFine
/-- All raise without an error. -/
def pzGood (L : List Int) (by_ : Int) : Bool := pzStr by_ && pzAllFine L
def pzAll (L : List Int) (by_ : Int) : List Int := bif pzGood L by_ then L.map fun l => max l by_ else []
def pzAllE (L : List Int) (by_ : Int) : Int := bif pzGood L by_ then 0 else 8
/-- What the end bears that bears least; MaxLevel of none. -/
def pzMin (L : List Int) : Int := L.foldl min 255
def pzIs (L : List Int) : Bool := pzAllFine L && decide (pzMin L < 255)
def pzLeast (L : List Int) : Int := bif pzIs L then pzMin L + 1 else 0
theorem foldl_min_le (L : List Int) : ∀ a : Int, L.foldl min a ≤ a ∧ ∀ b ∈ L, L.foldl min a ≤ b := by
  induction L with
  | nil => intro a; simp
  | cons x L ih =>
    intro a
    have := ih (min a x)
    refine ⟨by rw [List.foldl_cons]; omega, fun b hb => ?_⟩
    rw [List.foldl_cons]
    rcases List.mem_cons.1 hb with rfl | hb
    · omega
    · exact this.2 b hb
theorem foldl_min_mem (L : List Int) : ∀ a : Int, L.foldl min a = a ∨ L.foldl min a ∈ L := by
  induction L with
  | nil => intro a; simp
  | cons x L ih =>
    intro a
    rw [List.foldl_cons]
    rcases ih (min a x) with h | h
    · rcases Int.le_total a x with k | k
      · rw [Int.min_eq_left k] at h ⊢; exact .inl h
      · rw [Int.min_eq_right k] at h ⊢; rw [h]; exact .inr (by simp)
    · exact .inr (List.mem_cons_of_mem _ h)
theorem pzMin_le (L : List Int) : pzMin L ≤ 255 := (foldl_min_le L 255).1
theorem pzMin_mem (L : List Int) {b : Int} (h : b ∈ L) : pzMin L ≤ b := (foldl_min_le L 255).2 b h
theorem pzMin_is (L : List Int) : pzMin L = 255 ∨ pzMin L ∈ L := foldl_min_mem L 255
theorem pzMin_snoc (L : List Int) (a : Int) : pzMin (L ++ [a]) = min (pzMin L) a := by unfold pzMin; rw [List.foldl_append]; rfl
theorem pzAllFine_iff (L : List Int) : pzAllFine L = true ↔ ∀ b ∈ L, pzFine b = true := by unfold pzAllFine; rw [List.all_eq_true]
theorem pzAllFine_no {L : List Int} {b : Int} (h : b ∈ L) (k : pzFine b = false) : pzAllFine L = false := by
  cases e : pzAllFine L
  · rfl
  · rw [(pzAllFine_iff L).1 e b h] at k; cases k
theorem pzGood_no {L : List Int} {b by_ : Int} (h : b ∈ L) (k : pzFine b = false) : pzGood L by_ = false := by unfold pzGood; rw [pzAllFine_no h k]; simp
theorem pzGood_by {L : List Int} {by_ : Int} (k : pzStr by_ = false) : pzGood L by_ = false := by unfold pzGood; rw [k]; rfl
theorem pzAll_ok {L : List Int} {by_ : Int} (h : pzGood L by_ = true) : pzAll L by_ = L.map fun l => max l by_ := by unfold pzAll; rw [h]; rfl
theorem pzAll_no {L : List Int} {by_ : Int} (h : pzGood L by_ = false) : pzAll L by_ = [] := by unfold pzAll; rw [h]; rfl
theorem pzAllE_ok {L : List Int} {by_ : Int} (h : pzGood L by_ = true) : pzAllE L by_ = 0 := by unfold pzAllE; rw [h]; rfl
theorem pzAllE_no {L : List Int} {by_ : Int} (h : pzGood L by_ = false) : pzAllE L by_ = 8 := by unfold pzAllE; rw [h]; rfl
theorem pzAll_len (L : List Int) (by_ : Int) : (pzAll L by_).length ≤ L.length := by
  cases h : pzGood L by_
  · rw [pzAll_no h]; simp
  · rw [pzAll_ok h]; simp
theorem pzIs_no {L : List Int} {b : Int} (h : b ∈ L) (k : pzFine b = false) : pzIs L = false := by unfold pzIs; rw [pzAllFine_no h k]; rfl
theorem pzIs_top {L : List Int} (h : pzMin L = 255) : pzIs L = false := by unfold pzIs; rw [h]; simp
theorem pzIs_ok {L : List Int} (h : pzAllFine L = true) (k : pzMin L < 255) : pzIs L = true := by unfold pzIs; rw [h]; simpa using k
theorem pzLeast_no {L : List Int} (h : pzIs L = false) : pzLeast L = 0 := by unfold pzLeast; rw [h]; rfl
theorem pzLeast_ok {L : List Int} (h : pzIs L = true) : pzLeast L = pzMin L + 1 := by unfold pzLeast; rw [h]; rfl
theorem pz_snoc {α : Type} (L : List α) (k : Nat) (h : k < L.length) : L.take (k + 1) = L.take k ++ [L[k]] := by
  rw [List.take_add_one, List.getElem?_eq_getElem h]; rfl
theorem pzFine_snoc {L : List Int} {a : Int} (h : pzAllFine L = true) (k : pzFine a = true) : pzAllFine (L ++ [a]) = true := by unfold pzAllFine at *; simp [h, k]
end Go.Proofs.Ytnmjjemkaamcfaa
