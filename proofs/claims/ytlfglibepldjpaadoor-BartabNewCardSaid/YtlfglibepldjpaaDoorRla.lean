/- Plain maths: rolls as two sets; what package roll's calls come to. -/
import Derived.Test.YtlfglibepldjpaaDoorBxa
namespace Go.Proofs.YtlfglibepldjpaaDoor

/-- A roll: who is enrolled, and who of these waits. -/
structure RL where
  m : S4
  a : S4
def RL.zero : RL := ⟨S4.zero, S4.zero⟩
def S4.eqb (s t : S4) : Bool := s.a == t.a && s.b == t.b && s.c == t.c && s.d == t.d
theorem eqb_iff {s t : S4} : s.eqb t = true ↔ s = t := by
  obtain ⟨a, b, c, d⟩ := s
  obtain ⟨a', b', c', d'⟩ := t
  simp [S4.eqb, and_assoc]
theorem eqb_no {s t : S4} : s.eqb t = false ↔ s ≠ t := by
  rw [Ne, ← eqb_iff, Bool.eq_false_iff]

/-- Whether nobody is beyond the processes. -/
def rlLow (s : S4) : Bool := !(nextL s.ints 16).2
def rlFine (r : RL) : Bool := rlLow r.m && r.a.sub r.m
def rlErr (r : RL) (p : Int) : Int := if rlFine r = false then 1 else if p < 0 ∨ 16 ≤ p then 8 else 0
def rlEnrol (r : RL) (p : Int) : RL × Int :=
  if rlErr r p ≠ 0 then (r, rlErr r p) else if hasL r.m.ints p = true then (r, 7) else (⟨r.m.uni (S4.only p), r.a⟩, 0)
def rlResign (r : RL) (p : Int) : RL × Int :=
  if rlErr r p ≠ 0 then (r, rlErr r p) else if hasL r.m.ints p = false then (r, 6) else (⟨r.m.les (S4.only p), r.a.les (S4.only p)⟩, 0)
def rlOffer (r : RL) (p : Int) : RL × Int :=
  if rlErr r p ≠ 0 then (r, rlErr r p) else if hasL r.m.ints p = false then (r, 6) else if hasL r.a.ints p = true then (r, 7) else (⟨r.m, r.a.uni (S4.only p)⟩, 0)
def rlWith (r : RL) (p : Int) : RL × Bool :=
  if rlFine r = false then (r, false) else if hasL r.a.ints p = false then (r, false) else (⟨r.m, r.a.les (S4.only p)⟩, true)
def rlFull (r : RL) : Bool := rlFine r && (!r.m.eqb S4.zero && r.a.eqb r.m)
def rlFire (r : RL) : RL × List Int × Int :=
  if rlFine r = false then (RL.zero, [], 1) else if rlFull r = false then (RL.zero, [], 13) else (⟨r.m, S4.zero⟩, r.a.ints, 0)

theorem next_pair (L : List Int) (x : Int) : ∃ y, nextL L x = (y, (nextL L x).2) := ⟨(nextL L x).1, rfl⟩
theorem low_iff (s : S4) : rlLow s = true ↔ ∀ x ∈ s.ints, x ≤ 15 := by
  unfold rlLow nextL
  cases h : s.ints.find? (fun y => decide ((16 : Int) ≤ y)) with
  | none =>
    rw [List.find?_eq_none] at h
    simp only [Bool.not_false, true_iff]
    intro x hx
    have := h x hx
    simp at this
    omega
  | some y =>
    have h1 := List.find?_some h
    have h2 := List.mem_of_find?_eq_some h
    simp only [Bool.not_true, Bool.false_eq_true, false_iff]
    intro hh
    have := hh y h2
    simp at h1
    omega
theorem mem_ints (s : S4) (i : Nat) (hi : i < 256) : (i : Int) ∈ s.ints ↔ s.has i = true := by
  have := hasL_rise s.has i hi
  unfold hasL at this
  unfold S4.ints
  rw [← this, decide_eq_true_iff]
theorem low_has (s : S4) : rlLow s = true ↔ ∀ i, i < 256 → s.has i = true → i < 16 := by
  rw [low_iff]
  constructor
  · intro h i hi hs
    have := h i ((mem_ints s i hi).2 hs)
    omega
  · intro h x hx
    obtain ⟨i, h1, h2, rfl⟩ := (mem_rise s.has x).1 hx
    have := h i h1 h2
    omega
theorem sub_has (s t : S4) : s.sub t = true ↔ ∀ i, i < 256 → s.has i = true → t.has i = true := by
  unfold S4.sub
  rw [decide_eq_true_iff, ← ints_zero_iff]
  constructor
  · intro h i hi hs
    have := les_has s t i hi
    rw [h, zero_has, hs] at this
    simpa using this.symm
  · intro h
    refine S4.ext_has fun i hi => ?_
    rw [les_has _ _ _ hi, zero_has]
    cases hs : s.has i
    · rfl
    · rw [h i hi hs]
      rfl
theorem fine_has (r : RL) : rlFine r = true ↔ (∀ i, i < 256 → r.m.has i = true → i < 16) ∧ (∀ i, i < 256 → r.a.has i = true → r.m.has i = true) := by
  unfold rlFine
  rw [Bool.and_eq_true, low_has, sub_has]
theorem err_no {r : RL} (h : rlFine r = false) (p : Int) : rlErr r p = 1 := if_pos h
theorem err_out {r : RL} (h : rlFine r = true) {p : Int} (hp : p < 0 ∨ 16 ≤ p) : rlErr r p = 8 := by
  unfold rlErr
  rw [if_neg (by rw [h]; decide), if_pos hp]
theorem err_ok {r : RL} (h : rlFine r = true) {p : Int} (h0 : 0 ≤ p) (h1 : p < 16) : rlErr r p = 0 := by
  unfold rlErr
  rw [if_neg (by rw [h]; decide), if_neg (by omega)]
end Go.Proofs.YtlfglibepldjpaaDoor
