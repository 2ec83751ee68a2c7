/- Plain maths of the opcodes: the table as a list; what of a number, and what of a name. -/
import Derived.Test.YtnmcieilpomkaaaDoorK
namespace Go.Proofs.YtnmcieilpomkaaaDoor
open Go.RowKit

abbrev KRow := List UInt8 × List UInt8 × Int
/-- The table: name, form, class. -/
def tabL : List KRow := [
  ([110, 111, 112], [45, 45, 45], 0),
  ([104, 97, 108, 116], [45, 45, 45], 5),
  ([109, 111, 118], [114, 114, 45], 0),
  ([115, 101, 116], [114, 105, 106], 0),
  ([97, 100, 100], [114, 114, 114], 0),
  ([115, 117, 98], [114, 114, 114], 0),
  ([109, 117, 108], [114, 114, 114], 0),
  ([100, 105, 118], [114, 114, 114], 0),
  ([114, 101, 109], [114, 114, 114], 0),
  ([97, 110, 100], [114, 114, 114], 0),
  ([111, 114], [114, 114, 114], 0),
  ([120, 111, 114], [114, 114, 114], 0),
  ([115, 104, 108], [114, 114, 114], 0),
  ([115, 104, 114], [114, 114, 114], 0),
  ([110, 111, 116], [114, 114, 45], 0),
  ([110, 101, 103], [114, 114, 45], 0),
  ([108, 116], [114, 114, 114], 0),
  ([101, 113], [114, 114, 114], 0),
  ([106, 109, 112], [116, 45, 45], 1),
  ([106, 122], [114, 116, 45], 1),
  ([106, 110, 122], [114, 116, 45], 1),
  ([106, 98, 97, 100], [116, 45, 45], 1),
  ([99, 97, 108, 108], [116, 45, 45], 1),
  ([114, 101, 116], [45, 45, 45], 1),
  ([108, 111, 97, 100], [114, 114, 45], 0),
  ([115, 116, 111, 114, 101], [114, 114, 45], 0),
  ([102, 97, 105, 108], [115, 45, 45], 5),
  ([101, 109, 105, 116], [114, 45, 45], 4),
  ([110, 111, 119], [114, 45, 45], 4),
  ([109, 101], [114, 45, 45], 4),
  ([115, 112, 97, 119, 110], [114, 112, 114], 4),
  ([106, 111, 105, 110], [114, 45, 45], 2),
  ([115, 108, 101, 101, 112], [114, 45, 45], 2),
  ([115, 101, 110, 100], [99, 114, 45], 2),
  ([114, 101, 99, 118], [99, 114, 45], 2),
  ([112, 111, 105, 115, 111, 110], [99, 114, 45], 4),
  ([101, 110, 114, 111, 108], [98, 45, 45], 4),
  ([114, 101, 115, 105, 103, 110], [98, 45, 45], 4),
  ([115, 121, 110, 99], [98, 45, 45], 2),
  ([102, 97, 108, 108], [107, 45, 45], 2),
  ([102, 108, 117, 115, 104], [114, 107, 45], 4),
  ([97, 108, 116], [114, 109, 110], 2),
  ([103, 105, 110], [99, 114, 103], 3),
  ([103, 98, 97, 114], [98, 45, 103], 3),
  ([103, 116, 105, 109, 101], [114, 45, 103], 3),
  ([103, 115, 107, 105, 112], [45, 45, 103], 3),
  ([112, 104, 97, 115, 101], [114, 98, 45], 4),
  ([115, 105, 122, 101], [114, 98, 45], 4)]
theorem tabL_len : tabL.length = 48 := by decide
def noRow : KRow := ([], [], -1)
def rowN (k : Nat) : KRow := tabL.getD k noRow
def nmN (k : Nat) : List UInt8 := (rowN k).1
def fmN (k : Nat) : List UInt8 := (rowN k).2.1
def clN (k : Nat) : Int := (rowN k).2.2
def rowO (op : Int) : KRow := if 0 ≤ op then rowN op.toNat else noRow
def nmO (op : Int) : List UInt8 := (rowO op).1
def fmO (op : Int) : List UInt8 := (rowO op).2.1
def clO (op : Int) : Int := (rowO op).2.2
theorem rowO_nat (k : Nat) : rowO (k : Int) = rowN k := by simp [rowO]
theorem rowO_no (op : Int) (h : op < 0 ∨ 48 ≤ op) : rowO op = noRow := by
  unfold rowO
  split
  · unfold rowN
    rw [List.getD_eq_getElem?_getD, List.getElem?_eq_none (by rw [tabL_len]; omega)]
    rfl
  · rfl
/-- Where a name stands first. -/
def idxN (l : List UInt8) : Nat := (tabL.map (·.1)).findIdx (· == l)
theorem idxN_le (l : List UInt8) : idxN l ≤ 48 := by
  have := List.findIdx_le_length (xs := tabL.map (·.1)) (p := (· == l))
  rw [List.length_map, tabL_len] at this
  exact this
theorem nm_get (k : Nat) (h : k < 48) : (tabL.map (·.1))[k]'(by rw [List.length_map, tabL_len]; exact h) = nmN k := by
  rw [List.getElem_map]
  unfold nmN rowN
  rw [List.getD_eq_getElem?_getD, List.getElem?_eq_getElem (by rw [tabL_len]; exact h)]
  rfl
theorem idxN_at (l : List UInt8) (k : Nat) (hk : k < 48) (hle : k ≤ idxN l) (h : (nmN k == l) = true) : idxN l = k := by
  have hlen : k < (tabL.map (·.1)).length := by rw [List.length_map, tabL_len]; exact hk
  refine Nat.le_antisymm ?_ hle
  apply Nat.le_of_not_lt
  intro hlt
  have := List.not_of_lt_findIdx (xs := tabL.map (·.1)) (p := (· == l)) hlt
  rw [nm_get k hk] at this
  simp_all
theorem idxN_next (l : List UInt8) (k : Nat) (hk : k < 48) (hle : k ≤ idxN l) (h : (nmN k == l) = false) : k + 1 ≤ idxN l := by
  apply Nat.lt_of_le_of_ne hle
  intro e
  have hlen : idxN l < (tabL.map (·.1)).length := by rw [List.length_map, tabL_len]; omega
  have := List.findIdx_getElem (xs := tabL.map (fun x : KRow => x.1)) (p := (· == l)) (w := hlen)
  have e2 : (tabL.map (·.1))[idxN l]'hlen = nmN k := by
    have : ∀ j (hj : j < (tabL.map (·.1)).length), j = k → (tabL.map (·.1))[j]'hj = nmN k := by
      rintro j hj rfl
      exact nm_get j hk
    exact this _ _ e.symm
  have h3 : (nmN k == l) = true := by
    rw [← e2]
    exact this
  rw [h3] at h
  cases h
def fdV (l : List UInt8) : Int := if idxN l < 48 then (idxN l : Int) else 0
def fdB (l : List UInt8) : Bool := decide (idxN l < 48)
theorem fd_at (l : List UInt8) (k : Nat) (hk : k < 48) (h : idxN l = k) : fdV l = (k : Int) ∧ fdB l = true := by
  unfold fdV fdB
  rw [h, if_pos hk]
  exact ⟨rfl, decide_eq_true hk⟩
theorem fd_no (l : List UInt8) (h : 48 ≤ idxN l) : fdV l = 0 ∧ fdB l = false := by
  unfold fdV fdB
  rw [if_neg (by omega)]
  exact ⟨rfl, decide_eq_false (by omega)⟩
/-- A name is found at its own number, and no two are the same. -/
theorem fd_nm (k : Nat) (h : k < 48) : fdV (nmN k) = (k : Int) ∧ fdB (nmN k) = true := by
  have : ∀ j : Fin 48, idxN (nmN j.1) = j.1 := by decide
  exact fd_at _ k h (this ⟨k, h⟩)
theorem nm_same (j k : Nat) (hj : j < 48) (hk : k < 48) (h : nmN j = nmN k) : j = k := by
  have a := (fd_nm j hj).1
  have b := (fd_nm k hk).1
  rw [h, b] at a
  omega
theorem fm_three (k : Nat) (h : k < 48) : (fmN k).length = 3 := by
  have : ∀ j : Fin 48, (fmN j.1).length = 3 := by decide
  exact this ⟨k, h⟩
theorem nm_some (k : Nat) (h : k < 48) : nmN k ≠ [] := by
  have : ∀ j : Fin 48, nmN j.1 ≠ [] := by decide
  exact this ⟨k, h⟩
/-- The table's cells, one behind the other. -/
def rowC (r : KRow) : List Value := [.string ⟨r.1.toArray⟩, .string ⟨r.2.1.toArray⟩, .int .i64 r.2.2]
def tabC : List Value := tabL.flatMap rowC
theorem flat_row : ∀ (l : List KRow) (k j : Nat), j < 3 → k < l.length → (l.flatMap rowC)[k * 3 + j]? = (rowC (l.getD k noRow))[j]?
  | [], k, j, _, hk => by simp at hk
  | x :: t, 0, j, hj, _ => by
    rw [List.flatMap_cons, List.getElem?_append_left (by simp [rowC]; omega)]
    simp
  | x :: t, k + 1, j, hj, hk => by
    rw [List.flatMap_cons, List.getElem?_append_right (by simp [rowC]; omega)]
    have : (k + 1) * 3 + j - (rowC x).length = k * 3 + j := by simp [rowC]; omega
    rw [this]
    have := flat_row t k j hj (by simpa using hk)
    simpa using this
theorem tabC_at (k j : Nat) (hj : j < 3) (hk : k < 48) : tabC[k * 3 + j]? = (rowC (rowN k))[j]? := flat_row tabL k j hj (by rw [tabL_len]; exact hk)
end Go.Proofs.YtnmcieilpomkaaaDoor
