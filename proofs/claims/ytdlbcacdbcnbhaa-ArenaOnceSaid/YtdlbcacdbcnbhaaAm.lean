/- What the document says of tables, as plain functions on lists: a slot is its last generation, and the block and the value of the thing in it, if there is one. -/
import Derived.Test.YtdlbcacdbcnbhaaHm
namespace Go.Proofs.Ytdlbcacdbcnbhaa

abbrev Slot := Int × Option (Nat × Int)
def isFree (last : Int) (s : Slot) : Bool := s.2.isNone && decide (s.1 < last)
def lenT (τ : List Slot) : Nat := τ.countP (·.2.isSome)
def freeT (last : Int) (τ : List Slot) : Nat := τ.countP (isFree last)
def handlesF (k : Nat) : List Slot → List Int
  | [] => []
  | (_, none) :: r => handlesF (k + 1) r
  | (g, some _) :: r => makeH k g :: handlesF (k + 1) r
def thingsF (k : Nat) : List Slot → List (Int × Int)
  | [] => []
  | (_, none) :: r => thingsF (k + 1) r
  | (_, some (_, x)) :: r => ((k : Int), x) :: thingsF (k + 1) r
def gensT (τ : List Slot) : List Int := τ.map (·.1)
/-- The thing of slot k, if there is one. -/
def oneT (k : Nat) (o : Option (Nat × Int)) : List (Int × Int) := match o with | none => [] | some (_, x) => [((k : Int), x)]

theorem handlesF_app : ∀ (a b : List Slot) (k : Nat), handlesF k (a ++ b) = handlesF k a ++ handlesF (k + a.length) b
  | [], b, k => rfl
  | (g, none) :: a, b, k => by
    have := handlesF_app a b (k + 1)
    simp only [List.cons_append, handlesF, List.length_cons, this]
    rw [show k + 1 + a.length = k + (a.length + 1) by omega]
  | (g, some p) :: a, b, k => by
    have := handlesF_app a b (k + 1)
    simp only [List.cons_append, handlesF, List.length_cons, this]
    rw [show k + 1 + a.length = k + (a.length + 1) by omega]
theorem thingsF_app : ∀ (a b : List Slot) (k : Nat), thingsF k (a ++ b) = thingsF k a ++ thingsF (k + a.length) b
  | [], b, k => rfl
  | (g, none) :: a, b, k => by
    have := thingsF_app a b (k + 1)
    simp only [List.cons_append, thingsF, List.length_cons, this]
    rw [show k + 1 + a.length = k + (a.length + 1) by omega]
  | (g, some (_, x)) :: a, b, k => by
    have := thingsF_app a b (k + 1)
    simp only [List.cons_append, thingsF, List.length_cons, this]
    rw [show k + 1 + a.length = k + (a.length + 1) by omega]
theorem thingsF_bd : ∀ (a : List Slot) (k : Nat), ∀ p ∈ thingsF k a, (k : Int) ≤ p.1 ∧ p.1 < ((k + a.length : Nat) : Int)
  | [], k, p, h => by simp [thingsF] at h
  | (g, none) :: a, k, p, h => by
    have := thingsF_bd a (k + 1) p (by simpa [thingsF] using h)
    simp only [List.length_cons]
    omega
  | (g, some (b, x)) :: a, k, p, h => by
    simp only [thingsF, List.mem_cons] at h
    simp only [List.length_cons]
    rcases h with rfl | h
    · simp only; omega
    · have := thingsF_bd a (k + 1) p h
      omega
theorem thingsF_len : ∀ (a : List Slot) (k : Nat), (thingsF k a).length = lenT a
  | [], k => rfl
  | (g, none) :: a, k => by simp [thingsF, lenT, thingsF_len a (k + 1)]
  | (g, some (b, x)) :: a, k => by simp [thingsF, lenT, thingsF_len a (k + 1)]
theorem handlesF_len : ∀ (a : List Slot) (k : Nat), (handlesF k a).length = lenT a
  | [], k => rfl
  | (g, none) :: a, k => by simp [handlesF, lenT, handlesF_len a (k + 1)]
  | (g, some (b, x)) :: a, k => by simp [handlesF, lenT, handlesF_len a (k + 1)]
theorem lenT_le (τ : List Slot) : lenT τ ≤ τ.length := List.countP_le_length
theorem freeT_le (last : Int) (τ : List Slot) : freeT last τ ≤ τ.length := List.countP_le_length

theorem take_next {α : Type} (l : List α) (k : Nat) (s : α) (h : l[k]? = some s) : l.take (k + 1) = l.take k ++ [s] := by
  obtain ⟨hk, rfl⟩ := List.getElem?_eq_some_iff.1 h
  rw [List.take_succ_eq_append_getElem hk]
theorem lenT_next (τ : List Slot) (k : Nat) (s : Slot) (h : τ[k]? = some s) : lenT (τ.take (k + 1)) = lenT (τ.take k) + (if s.2.isSome = true then 1 else 0) := by
  rw [take_next τ k s h]
  simp [lenT, List.countP_append, List.countP_cons]
theorem freeT_next (last : Int) (τ : List Slot) (k : Nat) (s : Slot) (h : τ[k]? = some s) : freeT last (τ.take (k + 1)) = freeT last (τ.take k) + (if isFree last s = true then 1 else 0) := by
  rw [take_next τ k s h]
  simp [freeT, List.countP_append, List.countP_cons]
def oneH (k : Nat) (g : Int) (o : Option (Nat × Int)) : List Int := match o with | none => [] | some _ => [makeH k g]
theorem handles_next (τ : List Slot) (k : Nat) (g : Int) (o : Option (Nat × Int)) (h : τ[k]? = some (g, o)) : handlesF 0 (τ.take (k + 1)) = handlesF 0 (τ.take k) ++ oneH k g o := by
  obtain ⟨hk, _⟩ := List.getElem?_eq_some_iff.1 h
  rw [take_next τ k (g, o) h, handlesF_app]
  have e : 0 + (τ.take k).length = k := by rw [List.length_take]; omega
  rw [e]
  cases o <;> rfl

theorem split_at {α : Type} (l : List α) (k : Nat) (s : α) (h : l[k]? = some s) : l = l.take k ++ s :: l.drop (k + 1) := by
  obtain ⟨hk, rfl⟩ := List.getElem?_eq_some_iff.1 h
  rw [← List.drop_eq_getElem_cons hk, List.take_append_drop]
/-- The things, parted at a slot. -/
theorem things_split (τ : List Slot) (k : Nat) (g : Int) (o : Option (Nat × Int)) (h : τ[k]? = some (g, o)) :
    thingsF 0 τ = thingsF 0 (τ.take k) ++ (oneT k o ++ thingsF (k + 1) (τ.drop (k + 1))) := by
  obtain ⟨hk, _⟩ := List.getElem?_eq_some_iff.1 h
  have e : 0 + (τ.take k).length = k := by rw [List.length_take]; omega
  conv => lhs; rw [split_at τ k (g, o) h, thingsF_app, e]
  rcases o with _ | ⟨b, x⟩ <;> rfl
theorem things_set (τ : List Slot) (k : Nat) (hk : k < τ.length) (g : Int) (o : Option (Nat × Int)) :
    thingsF 0 (τ.set k (g, o)) = thingsF 0 (τ.take k) ++ (oneT k o ++ thingsF (k + 1) (τ.drop (k + 1))) := by
  rw [things_split (τ.set k (g, o)) k g o (by simp [hk])]
  rw [List.take_set_of_le (Nat.le_refl _), List.drop_set_of_lt (by omega)]
theorem things_low (τ : List Slot) (k : Nat) : ∀ p ∈ thingsF 0 (τ.take k), p.1 < (k : Int) := fun p hp => by
  have h1 := (thingsF_bd _ 0 p hp).2
  have h2 : (τ.take k).length ≤ k := List.length_take_le _ _
  omega
theorem things_high (τ : List Slot) (k : Nat) : ∀ p ∈ thingsF (k + 1) (τ.drop (k + 1)), (k : Int) < p.1 := fun p hp => by
  have h1 := (thingsF_bd _ (k + 1) p hp).1
  omega
theorem things_no (τ : List Slot) (k : Nat) (g : Int) (h : τ[k]? = some (g, none)) : ∀ p ∈ thingsF 0 τ, p.1 ≠ (k : Int) := by
  rw [things_split τ k g none h]
  intro p hp
  simp only [oneT, List.nil_append, List.mem_append] at hp
  rcases hp with hp | hp
  · have := things_low τ k p hp; omega
  · have := things_high τ k p hp; omega
theorem things_yes (τ : List Slot) (k : Nat) (g : Int) (b : Nat) (x : Int) (h : τ[k]? = some (g, some (b, x))) :
    (thingsF 0 τ)[(thingsF 0 (τ.take k)).length]? = some ((k : Int), x) ∧ ∀ p ∈ (thingsF 0 τ).take (thingsF 0 (τ.take k)).length, p.1 ≠ (k : Int) := by
  rw [things_split τ k g _ h]
  constructor
  · rw [List.getElem?_append_right (Nat.le_refl _), Nat.sub_self]
    rfl
  · rw [List.take_append_of_le_length (Nat.le_refl _), List.take_length]
    intro p hp
    have := things_low τ k p hp
    omega
theorem filter_low (τ : List Slot) (k : Nat) (g : Int) (h : τ[k]? = some (g, none)) : (thingsF 0 τ).filter (fun p => decide (p.1 < (k : Int))) = thingsF 0 (τ.take k) := by
  rw [things_split τ k g none h, List.filter_append]
  have h1 : (thingsF 0 (τ.take k)).filter (fun p => decide (p.1 < (k : Int))) = thingsF 0 (τ.take k) := List.filter_eq_self.2 fun p hp => decide_eq_true (things_low τ k p hp)
  have h2 : (oneT k none ++ thingsF (k + 1) (τ.drop (k + 1))).filter (fun p => decide (p.1 < (k : Int))) = [] := List.filter_eq_nil_iff.2 fun p hp => by
    have := things_high τ k p (by simpa [oneT] using hp)
    simp; omega
  rw [h1, h2, List.append_nil]
theorem filter_high (τ : List Slot) (k : Nat) (g : Int) (h : τ[k]? = some (g, none)) : (thingsF 0 τ).filter (fun p => decide ((k : Int) < p.1)) = thingsF (k + 1) (τ.drop (k + 1)) := by
  rw [things_split τ k g none h, List.filter_append]
  have h1 : (thingsF 0 (τ.take k)).filter (fun p => decide ((k : Int) < p.1)) = [] := List.filter_eq_nil_iff.2 fun p hp => by
    have := things_low τ k p hp
    simp; omega
  have h2 : (oneT k none ++ thingsF (k + 1) (τ.drop (k + 1))).filter (fun p => decide ((k : Int) < p.1)) = thingsF (k + 1) (τ.drop (k + 1)) := by
    show (thingsF (k + 1) (τ.drop (k + 1))).filter _ = _
    exact List.filter_eq_self.2 fun p hp => decide_eq_true (things_high τ k p hp)
  rw [h1, h2, List.nil_append]
theorem gens_set (τ : List Slot) (k : Nat) (s : Slot) : gensT (τ.set k s) = (gensT τ).set k s.1 := by simp [gensT, List.map_set]
/-- The handles, as the document's table has them: of each thing, with its slot's generation. -/
theorem handles_map (τ : List Slot) (k : Nat) : ∀ (a : List Slot), (∀ j s, a[j]? = some s → τ[k + j]? = some s) → handlesF k a = (thingsF k a).map fun p => makeH p.1 ((gensT τ).getD p.1.toNat 0)
  | [], _ => rfl
  | (g, none) :: a, h => by
    simp only [handlesF, thingsF]
    exact handles_map τ (k + 1) a fun j s hj => by
      rw [show k + 1 + j = k + (j + 1) by omega]
      exact h (j + 1) s (by simpa using hj)
  | (g, some (b, x)) :: a, h => by
    simp only [handlesF, thingsF, List.map_cons]
    rw [handles_map τ (k + 1) a fun j s hj => by
      rw [show k + 1 + j = k + (j + 1) by omega]
      exact h (j + 1) s (by simpa using hj)]
    have h0 := h 0 (g, some (b, x)) rfl
    have e : (gensT τ).getD ((k : Int)).toNat 0 = g := by
      simp only [gensT, Int.toNat_natCast]
      rw [List.getD_eq_getElem?_getD, List.getElem?_map]
      rw [show k + 0 = k from rfl] at h0
      rw [h0]
      rfl
    rw [e]
end Go.Proofs.Ytdlbcacdbcnbhaa
