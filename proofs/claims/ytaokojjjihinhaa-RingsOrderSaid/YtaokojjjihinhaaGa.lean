/- Rings, as lists: what stands at which place. -/
import Derived.Test.YtaokojjjihinhaaK
namespace Go.Proofs.Ytaokojjjihinhaa

/-- The place of the i-th thing from place f on, of a ring of room rm. -/
def plc (rm f i : Nat) : Nat := if f + i < rm then f + i else f + i - rm

/-- The ring's places are xs, of room rm; the first thing stands at f; it holds L. -/
structure RS (rm f : Nat) (L xs : List Int) : Prop where
  le : L.length ≤ rm
  few : xs.length ≤ rm
  part : (xs.length < rm ∧ f + L.length = xs.length) ∨ (xs.length = rm ∧ (f < rm ∨ f = 0))
  at_ : ∀ i, i < L.length → xs[plc rm f i]? = L[i]?

theorem RS.new (rm : Nat) : RS rm 0 [] [] := ⟨by simp, by simp, by simp; omega, fun i h => by simp at h⟩
theorem RS.flt {rm f : Nat} {L xs : List Int} (h : RS rm f L xs) (h0 : 0 < rm) : f < rm := by
  rcases h.part with ⟨h1, h2⟩ | ⟨h1, h2 | h2⟩ <;> omega
theorem RS.push_app {rm f : Nat} {L xs : List Int} (h : RS rm f L xs) (x : Int) (hx : xs.length < rm) : plc rm f L.length = xs.length ∧ RS rm f (L ++ [x]) (xs ++ [x]) := by
  have hp : f + L.length = xs.length := by rcases h.part with ⟨h1, h2⟩ | ⟨h1, h2⟩ <;> omega
  have hl := h.le
  refine ⟨by unfold plc; rw [if_pos (by omega)]; exact hp, ⟨by simp; omega, by simp; omega, ?_, fun i hi => ?_⟩⟩
  · simp only [List.length_append, List.length_cons, List.length_nil]
    rcases Nat.lt_or_ge (xs.length + 1) rm with h1 | h1
    · exact .inl ⟨by omega, by omega⟩
    · exact .inr ⟨by omega, .inl (by omega)⟩
  · simp only [List.length_append, List.length_cons, List.length_nil] at hi
    rcases Nat.lt_or_ge i L.length with h1 | h1
    · have := h.at_ i h1
      have e : plc rm f i = f + i := by unfold plc; rw [if_pos (by omega)]
      rw [e] at this ⊢
      rw [List.getElem?_append_left (by omega), List.getElem?_append_left h1, this]
    · obtain rfl : i = L.length := by omega
      have e : plc rm f L.length = xs.length := by unfold plc; rw [if_pos (by omega)]; exact hp
      rw [e]
      simp
theorem RS.push_set {rm f : Nat} {L xs : List Int} (h : RS rm f L xs) (x : Int) (hl : L.length < rm) (hx : xs.length = rm) : plc rm f L.length < xs.length ∧ RS rm f (L ++ [x]) (xs.set (plc rm f L.length) x) := by
  have hf := h.flt (by omega)
  have ha : plc rm f L.length < xs.length := by unfold plc; split <;> omega
  refine ⟨ha, ⟨by simp; omega, by simp; omega, .inr ⟨by simpa using hx, .inl hf⟩, fun i hi => ?_⟩⟩
  simp only [List.length_append, List.length_cons, List.length_nil] at hi
  rcases Nat.lt_or_ge i L.length with h1 | h1
  · have := h.at_ i h1
    have hne : plc rm f L.length ≠ plc rm f i := by unfold plc; split <;> split <;> omega
    rw [List.getElem?_set_ne hne, List.getElem?_append_left h1, this]
  · obtain rfl : i = L.length := by omega
    rw [List.getElem?_set_self ha]
    simp
theorem RS.get {rm f : Nat} {L xs : List Int} (h : RS rm f L xs) {i : Nat} {x : Int} (hi : L[i]? = some x) : plc rm f i < xs.length ∧ xs[plc rm f i]? = some x := by
  have h1 : i < L.length := (List.getElem?_eq_some_iff.1 hi).1
  have h2 := h.at_ i h1
  rw [hi] at h2
  exact ⟨(List.getElem?_eq_some_iff.1 h2).1, h2⟩
theorem RS.pop {rm f : Nat} {x : Int} {L xs : List Int} (h : RS rm f (x :: L) xs) : f < xs.length ∧ xs[f]? = some x ∧ RS rm (plc rm f 1) L (xs.set f 0) := by
  have hl := h.le
  simp only [List.length_cons] at hl
  have hf := h.flt (by omega)
  have h0 := h.get (i := 0) (x := x) rfl
  have e0 : plc rm f 0 = f := by unfold plc; rw [if_pos (by omega)]; omega
  rw [e0] at h0
  refine ⟨h0.1, h0.2, ⟨by omega, by simpa using h.few, ?_, fun i hi => ?_⟩⟩
  · rcases h.part with ⟨h1, h2⟩ | ⟨h1, h2⟩
    · simp only [List.length_cons] at h2
      have e1 : plc rm f 1 = f + 1 := by unfold plc; rw [if_pos (by omega)]
      exact .inl ⟨by simpa using h1, by rw [e1, List.length_set]; omega⟩
    · exact .inr ⟨by simpa using h1, .inl (by unfold plc; split <;> omega)⟩
  · have h1 := h.at_ (i + 1) (by simp; omega)
    have e1 : plc rm (plc rm f 1) i = plc rm f (i + 1) := by unfold plc; split <;> split <;> split <;> omega
    have hne : f ≠ plc rm f (i + 1) := by unfold plc; split <;> omega
    rw [e1, List.getElem?_set_ne hne, h1]
    rfl
theorem RS.list {rm f : Nat} {L xs : List Int} (h : RS rm f L xs) : f ≤ min (f + L.length) xs.length ∧ (xs.take (min (f + L.length) xs.length)).drop f ++ xs.take (f + L.length - xs.length) = L := by
  have hl := h.le
  have hx := h.few
  have hp := h.part
  have hfx : f ≤ xs.length := by
    rcases hp with ⟨h1, h2⟩ | ⟨h1, h2 | h2⟩ <;> omega
  refine ⟨by omega, ?_⟩
  apply List.ext_getElem?
  intro i
  have hlen : ((xs.take (min (f + L.length) xs.length)).drop f).length = min (f + L.length) xs.length - f := by
    rw [List.length_drop, List.length_take]; omega
  rcases Nat.lt_or_ge i L.length with hi | hi
  · have h1 := h.at_ i hi
    rcases Nat.lt_or_ge i (min (f + L.length) xs.length - f) with h2 | h2
    · rw [List.getElem?_append_left (by rw [hlen]; exact h2), List.getElem?_drop, List.getElem?_take, if_pos (by omega), ← h1]
      have e : plc rm f i = f + i := by unfold plc; rw [if_pos (by omega)]
      rw [e]
    · rw [List.getElem?_append_right (by rw [hlen]; exact h2), hlen, List.getElem?_take, if_pos (by omega), ← h1]
      have e : plc rm f i = f + i - rm := by unfold plc; rw [if_neg (by omega)]
      rw [e]
      congr 1
      omega
  · have hn : L[i]? = none := List.getElem?_eq_none hi
    rw [hn]
    apply List.getElem?_eq_none
    rw [List.length_append, hlen, List.length_take]
    omega
theorem RS.list2 {rm f : Nat} {L xs : List Int} (h : RS rm f L xs) : f + L.length - xs.length ≤ xs.length ∧ (xs.length < f + L.length → f < xs.length) := by
  have hl := h.le
  rcases h.part with ⟨h1, h2⟩ | ⟨h1, h2 | h2⟩ <;> constructor <;> omega
end Go.Proofs.Ytaokojjjihinhaa
