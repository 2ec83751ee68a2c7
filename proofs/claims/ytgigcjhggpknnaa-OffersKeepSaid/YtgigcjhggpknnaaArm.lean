/- Offers as plain data; an arena's slots as a list: a slot is its last generation, and the block and the offer in it, if there is one. -/
import Derived.Test.YtgigcjhggpknnaaHm
import Derived.Test.YtgigcjhggpknnaaGu
import Derived.Test.YtgigcjhggpknnaaI
namespace Go.Proofs.Ytgigcjhggpknnaa

/-- An offer, as plain data: who waits, and the guard. -/
structure OF where
  w : Int
  g : GD
def ofC (x : OF) : List Value := [.int .i64 x.w, .int .i64 x.g.k, .int .i64 x.g.o, .int .i64 x.g.v, .int .i64 x.g.r, .int .i64 x.g.n]
theorem ofC_len (x : OF) : (ofC x).length = 6 := rfl
theorem ofC_one (x : OF) : ∀ v ∈ ofC x, v.oneCell' = true := by
  intro v hv
  simp only [ofC, List.mem_cons, List.not_mem_nil, or_false] at hv
  rcases hv with rfl | rfl | rfl | rfl | rfl | rfl <;> rfl
instance : Inhabited OF := ⟨⟨0, 0, 0, 0, 0, 0⟩⟩

abbrev Slot := Int × Option (Nat × OF)
def isFree (last : Int) (s : Slot) : Bool := s.2.isNone && decide (s.1 < last)
def lenT (τ : List Slot) : Nat := τ.countP (·.2.isSome)
def freeT (last : Int) (τ : List Slot) : Nat := τ.countP (isFree last)
theorem lenT_le (τ : List Slot) : lenT τ ≤ τ.length := List.countP_le_length
theorem freeT_le (last : Int) (τ : List Slot) : freeT last τ ≤ τ.length := List.countP_le_length
theorem lenT_next (τ : List Slot) (k : Nat) (s : Slot) (h : τ[k]? = some s) : lenT (τ.take (k + 1)) = lenT (τ.take k) + (if s.2.isSome = true then 1 else 0) := by
  rw [take_next τ k s h]
  simp [lenT, List.countP_append, List.countP_cons]
theorem freeT_next (last : Int) (τ : List Slot) (k : Nat) (s : Slot) (h : τ[k]? = some s) : freeT last (τ.take (k + 1)) = freeT last (τ.take k) + (if isFree last s = true then 1 else 0) := by
  rw [take_next τ k s h]
  simp [freeT, List.countP_append, List.countP_cons]
theorem lenT_set : ∀ (τ : List Slot) (k : Nat) (s t : Slot), τ[k]? = some s → lenT (τ.set k t) + (if s.2.isSome = true then 1 else 0) = lenT τ + (if t.2.isSome = true then 1 else 0)
  | [], k, s, t, h => by simp at h
  | a :: τ, 0, s, t, h => by
    obtain rfl : a = s := by simpa using h
    simp only [lenT, List.set_cons_zero, List.countP_cons]
    omega
  | a :: τ, k + 1, s, t, h => by
    have := lenT_set τ k s t (by simpa using h)
    simp only [lenT, List.set_cons_succ, List.countP_cons] at this ⊢
    omega
/-- Where a slot is free, the first free one. -/
theorem first_free (last : Int) : ∀ (τ : List Slot), 0 < freeT last τ → ∃ k s, τ[k]? = some s ∧ isFree last s = true ∧ ∀ s ∈ τ.take k, isFree last s = false
  | [], h => by simp [freeT] at h
  | a :: τ, h => by
    cases hf : isFree last a
    · obtain ⟨k, s, h1, h2, h3⟩ := first_free last τ (by simpa [freeT, List.countP_cons, hf] using h)
      refine ⟨k + 1, s, by simpa using h1, h2, fun x hx => ?_⟩
      rw [List.take_succ_cons] at hx
      rcases List.mem_cons.1 hx with rfl | hx
      · exact hf
      · exact h3 x hx
    · exact ⟨0, a, rfl, hf, fun x hx => by simp at hx⟩
/-- While the generations are low, what has no thing is free. -/
theorem free_len (last : Int) : ∀ (τ : List Slot), (∀ s ∈ τ, s.1 < last) → freeT last τ + lenT τ = τ.length
  | [], _ => rfl
  | (g, o) :: τ, h => by
    have ih := free_len last τ fun s hs => h s (List.mem_cons_of_mem _ hs)
    have hg : g < last := h (g, o) List.mem_cons_self
    simp only [freeT, lenT, List.countP_cons, List.length_cons] at ih ⊢
    cases o with
    | none =>
      have h1 : isFree last (g, none) = true := by simp [isFree, hg]
      rw [h1]
      simp
      omega
    | some p =>
      have h1 : isFree last (g, some p) = false := rfl
      rw [h1]
      simp
      omega
end Go.Proofs.Ytgigcjhggpknnaa
