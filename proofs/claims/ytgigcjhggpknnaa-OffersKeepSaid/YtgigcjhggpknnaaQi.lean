/- Where a place stands in a line: plain maths. -/
import Derived.Test.YtgigcjhggpknnaaQd
namespace Go.Proofs.Ytgigcjhggpknnaa
open Go.RowKit

def ixOf : List Nat → Nat → Nat
  | [], _ => 0
  | a :: c, p => if a = p then 0 else ixOf c p + 1
theorem ixOf_at : ∀ (c : List Nat) (j : Nat), c.Nodup → (∀ p ∈ c, 1 ≤ p) → j ≤ c.length → ixOf c ((c.drop j).headD 0) = j
  | [], j, _, _, h => by
    obtain rfl : j = 0 := by simpa using h
    rfl
  | a :: c, 0, _, _, _ => by simp [ixOf]
  | a :: c, j + 1, hn, h0, h => by
    have ih := ixOf_at c j (List.nodup_cons.1 hn).2 (fun p hp => h0 p (by simp [hp])) (by simpa using h)
    have hne : ¬ a = (c.drop j).headD 0 := by
      intro e
      rcases hd : c.drop j with _ | ⟨p, r⟩
      · rw [hd] at e
        have := h0 a (by simp)
        simp at e
        omega
      · rw [hd] at e
        have hp : p ∈ c := List.mem_of_mem_drop (i := j) (by rw [hd]; simp)
        simp at e
        exact (List.nodup_cons.1 hn).1 (e ▸ hp)
    simp only [List.drop_succ_cons, ixOf]
    rw [if_neg hne, ih]
theorem drop_at {α : Type} (c : List α) (j : Nat) (h : j < c.length) : c.drop j = c[j] :: c.drop (j + 1) := List.drop_eq_getElem_cons h
theorem head_at (c : List Nat) (j : Nat) (h : j < c.length) : (c.drop j).headD 0 = c[j] := by rw [drop_at c j h]; rfl
theorem head_no (c : List Nat) (j : Nat) (h : c.length ≤ j) : (c.drop j).headD 0 = 0 := by rw [List.drop_of_length_le h]; rfl
theorem take_at (c : List Nat) (j : Nat) (h : j < c.length) : (c.take (j + 1)).getLastD 0 = c[j] := by
  rw [List.take_succ_eq_append_getElem h, List.getLastD_eq_getLast?, List.getLast?_concat]
  rfl
theorem parts2 {α : Type} (c : List α) (k : Nat) (h : k + 1 < c.length) : c = c.take k ++ c[k] :: c[k + 1] :: c.drop (k + 2) := by
  rw [← drop_at c (k + 1) h, ← drop_at c k (by omega), List.take_append_drop]
theorem parts3 {α : Type} (c : List α) (k : Nat) (h : k + 1 < c.length) : c.take k ++ c[k] :: c.drop (k + 2) = c.take (k + 1) ++ c.drop (k + 2) := by
  rw [List.take_succ_eq_append_getElem (by omega), List.append_assoc]
  rfl
end Go.Proofs.Ytgigcjhggpknnaa
