/- Timers, their order, and heaps of them, as lists: plain maths. -/
import Derived.Test.YtbfmcdjnjnfdlaaK
namespace Go.Proofs.Ytbfmcdjnjnfdlaa

/-- A timer: its instant, its number, who waits. -/
structure Tm where
  at_ : Int
  no : Int
  who : Int
def Tm.zero : Tm := ⟨0, 0, 0⟩

def ltT (a b : Tm) : Prop := a.at_ < b.at_ ∨ (a.at_ = b.at_ ∧ a.no < b.no)
instance (a b : Tm) : Decidable (ltT a b) := by unfold ltT; infer_instance
def ltB (a b : Tm) : Bool := decide (ltT a b)
def leT (a b : Tm) : Prop := ¬ ltT b a
theorem leT.refl (a : Tm) : leT a a := by unfold leT ltT; omega
theorem leT.trans {a b c : Tm} (h : leT a b) (k : leT b c) : leT a c := by unfold leT ltT at *; omega
theorem ltT.le {a b : Tm} (h : ltT a b) : leT a b := by unfold leT ltT at *; omega
theorem lt_trans {a b c : Tm} (h : ltT a b) (k : ltT b c) : ltT a c := by unfold ltT at *; omega
theorem le_of_no {a b : Tm} (h : ltB a b = false) : leT b a := by unfold ltB at h; unfold leT; simpa using h
theorem lt_of_yes {a b : Tm} (h : ltB a b = true) : ltT a b := by unfold ltB at h; simpa using h

/-- The timer at a place. -/
def gt (xs : List Tm) (k : Nat) : Tm := xs.getD k Tm.zero
theorem gt_some {xs : List Tm} {k : Nat} (h : k < xs.length) : xs[k]? = some (gt xs k) := by
  unfold gt
  rw [List.getD_eq_getElem?_getD, List.getElem?_eq_getElem h]
  rfl
theorem gt_of {xs : List Tm} {k : Nat} {t : Tm} (h : xs[k]? = some t) : gt xs k = t := by
  unfold gt
  rw [List.getD_eq_getElem?_getD, h]
  rfl
def swapL (xs : List Tm) (i j : Nat) : List Tm := (xs.set i (gt xs j)).set j (gt xs i)
theorem swapL_len (xs : List Tm) (i j : Nat) : (swapL xs i j).length = xs.length := by simp [swapL]
theorem swapL_perm {xs : List Tm} {i j : Nat} (hi : i < xs.length) (hj : j < xs.length) : (swapL xs i j).Perm xs := by
  unfold swapL
  rw [gt_of (List.getElem?_eq_getElem hj), gt_of (List.getElem?_eq_getElem hi)]
  exact List.set_set_perm hi hj
theorem gt_set_ne {xs : List Tm} {i k : Nat} (t : Tm) (h : k ≠ i) : gt (xs.set i t) k = gt xs k := by
  unfold gt
  simp only [List.getD_eq_getElem?_getD]
  rw [List.getElem?_set_ne (by omega)]
theorem swapL_get {xs : List Tm} {i j : Nat} (hi : i < xs.length) (hj : j < xs.length) (k : Nat) : gt (swapL xs i j) k = if k = j then gt xs i else if k = i then gt xs j else gt xs k := by
  unfold swapL
  by_cases h1 : k = j
  · subst h1
    rw [if_pos rfl]
    exact gt_of (by rw [List.getElem?_set_self (by simpa using hj)])
  · rw [if_neg h1]
    by_cases h2 : k = i
    · subst h2
      rw [if_pos rfl]
      apply gt_of
      rw [List.getElem?_set_ne (by omega), List.getElem?_set_self hi]
    · rw [if_neg h2]
      rw [gt_set_ne _ h1, gt_set_ne _ h2]
theorem swapL_j {xs : List Tm} {i j : Nat} (hi : i < xs.length) (hj : j < xs.length) : gt (swapL xs i j) j = gt xs i := by rw [swapL_get hi hj, if_pos rfl]
theorem swapL_i {xs : List Tm} {i j : Nat} (hi : i < xs.length) (hj : j < xs.length) (hne : i ≠ j) : gt (swapL xs i j) i = gt xs j := by rw [swapL_get hi hj, if_neg hne, if_pos rfl]
theorem swapL_o {xs : List Tm} {i j k : Nat} (hi : i < xs.length) (hj : j < xs.length) (h1 : k ≠ i) (h2 : k ≠ j) : gt (swapL xs i j) k = gt xs k := by rw [swapL_get hi hj, if_neg h2, if_neg h1]

/-- The place of the one above k. -/
def par (k : Nat) : Nat := (k - 1) / 2
/-- The first n are a heap. -/
def Heap (n : Nat) (xs : List Tm) : Prop := ∀ k, 0 < k → k < n → leT (gt xs (par k)) (gt xs k)
/-- The first n are a heap, but that the one at j may be too small. -/
def UpTo (n j : Nat) (xs : List Tm) : Prop :=
  (∀ k, 0 < k → k < n → k ≠ j → leT (gt xs (par k)) (gt xs k)) ∧ (∀ k, 0 < k → k < n → par k = j → 0 < j → leT (gt xs (par j)) (gt xs k))
theorem Heap.upTo {n j : Nat} {xs : List Tm} (h : Heap n xs) : UpTo n j xs :=
  ⟨fun k h0 h1 _ => h k h0 h1, fun k h0 h1 e hj => (h j hj (by unfold par at e; omega)).trans (e ▸ h k h0 h1)⟩
theorem UpTo.zero {n : Nat} {xs : List Tm} (h : UpTo n 0 xs) : Heap n xs := fun k h0 h1 => h.1 k h0 h1 (by omega)
theorem UpTo.stop {n j : Nat} {xs : List Tm} (h : UpTo n j xs) (hl : leT (gt xs (par j)) (gt xs j)) : Heap n xs := fun k h0 h1 => by
  by_cases e : k = j
  · subst e; exact hl
  · exact h.1 k h0 h1 e
theorem UpTo.step {n j i : Nat} {xs : List Tm} (h : UpTo n j xs) (hn : n ≤ xs.length) (h0 : 0 < j) (hj : j < n) (hi : par j = i) (hl : ltT (gt xs j) (gt xs i)) : UpTo n i (swapL xs i j) := by
  have hij : i < j := by unfold par at hi; omega
  have li : i < xs.length := by omega
  have lj : j < xs.length := by omega
  have gi := swapL_i li lj (by omega)
  have gj := swapL_j li lj
  have go := fun k => swapL_o (k := k) li lj
  refine ⟨fun k k0 kn ki => ?_, fun k k0 kn e i0 => ?_⟩
  · by_cases hkj : k = j
    · subst hkj
      rw [hi, gi, gj]
      exact hl.le
    · rw [go k ki hkj]
      by_cases p1 : par k = j
      · rw [p1, gj, ← hi]
        exact h.2 k k0 kn p1 h0
      · by_cases p2 : par k = i
        · rw [p2, gi]
          exact hl.le.trans (p2 ▸ h.1 k k0 kn hkj)
        · rw [go _ p2 p1]
          exact h.1 k k0 kn hkj
  · have hpi : par i < i := by unfold par; omega
    rw [go (par i) (by omega) (by omega)]
    have h1 := h.1 i i0 (by omega) (by omega)
    by_cases hkj : k = j
    · subst hkj
      rw [gj]
      exact h1
    · have hki : k ≠ i := by rintro rfl; omega
      rw [go k hki hkj]
      exact h1.trans (e ▸ h.1 k k0 kn hkj)

/-- The first n are a heap, but that the one at i may be too great; what is known of i0, where it stood at first. -/
structure DownTo (n i0 i : Nat) (xs : List Tm) : Prop where
  ge : i0 ≤ i
  a : ∀ k, 0 < k → k < n → par k ≠ i → k ≠ i0 → leT (gt xs (par k)) (gt xs k)
  b : ∀ k, 0 < k → k < n → par k = i → 0 < i → leT (gt xs (par i)) (gt xs k)
  c : i ≠ i0 → 0 < i0 → leT (gt xs (par i0)) (gt xs i0)
theorem par_lt {k : Nat} (h : 0 < k) : par k < k := by unfold par; omega
theorem Heap.downTo {m i : Nat} {xs : List Tm} (h : Heap (m + 1) xs) (hm : m < xs.length) (hi : i ≤ m) : DownTo m i i (swapL xs i m) where
  ge := Nat.le_refl _
  a := fun k h0 h1 hp hk => by
    have := par_lt h0
    rw [swapL_o (by omega) hm (by omega) (by omega), swapL_o (by omega) hm (by omega) (by omega)]
    exact h k h0 (by omega)
  b := fun k h0 h1 e h2 => by
    have := par_lt h0
    have := par_lt h2
    rw [swapL_o (by omega) hm (by omega) (by omega), swapL_o (by omega) hm (by omega) (by omega)]
    exact (h i h2 (by omega)).trans (e ▸ h k h0 (by omega))
  c := fun h _ => absurd rfl h
theorem DownTo.stop {n i0 i : Nat} {xs : List Tm} (h : DownTo n i0 i xs) (hc : ∀ k, 0 < k → k < n → par k = i → leT (gt xs i) (gt xs k)) : (i ≠ i0 → Heap n xs) ∧ (i = i0 → UpTo n i0 xs) := by
  refine ⟨fun hne k h0 h1 => ?_, fun e => ?_⟩
  · by_cases p : par k = i
    · rw [p]; exact hc k h0 h1 p
    · by_cases q : k = i0
      · subst q; exact h.c hne h0
      · exact h.a k h0 h1 p q
  · subst e
    refine ⟨fun k h0 h1 hk => ?_, fun k h0 h1 p hi => h.b k h0 h1 p hi⟩
    by_cases p : par k = i
    · rw [p]; exact hc k h0 h1 p
    · exact h.a k h0 h1 p hk
theorem DownTo.step {n i0 i j : Nat} {xs : List Tm} (h : DownTo n i0 i xs) (hn : n ≤ xs.length) (h0 : 0 < j) (hj : j < n) (hp : par j = i) (hl : ltT (gt xs j) (gt xs i)) (ho : ∀ k, 0 < k → k < n → par k = i → leT (gt xs j) (gt xs k)) : DownTo n i0 j (swapL xs i j) := by
  have hij : i < j := hp ▸ par_lt h0
  have hge := h.ge
  have li : i < xs.length := by omega
  have lj : j < xs.length := by omega
  have gi := swapL_i li lj (by omega)
  have gj := swapL_j li lj
  have go := fun k => swapL_o (k := k) li lj
  refine ⟨by omega, fun k k0 kn kp ki => ?_, fun k k0 kn e _ => ?_, fun hne hi0 => ?_⟩
  · have hkp := par_lt k0
    by_cases p1 : par k = i
    · rw [p1, gi]
      by_cases q : k = j
      · subst q; rw [gj]; exact hl.le
      · rw [go k (by omega) q]; exact ho k k0 kn p1
    · rw [go _ p1 kp]
      have hkj : k ≠ j := by rintro rfl; exact p1 hp
      by_cases q : k = i
      · subst q
        rw [gi]
        exact h.b j h0 hj hp k0
      · rw [go k q hkj]
        exact h.a k k0 kn p1 ki
  · have hkp := par_lt k0
    rw [hp, gi, go k (by omega) (by omega), ← e]
    exact h.a k k0 kn (by omega) (by omega)
  · have := par_lt hi0
    by_cases q : i = i0
    · subst q
      rw [gi, go _ (by omega) (by omega)]
      exact h.b j h0 hj hp hi0
    · rw [go _ (by omega) (by omega), go _ (by omega) (by omega)]
      exact h.c q hi0
/-- The least of a heap is its first one. -/
theorem Heap.root {n : Nat} {xs : List Tm} (h : Heap n xs) : ∀ k, k < n → leT (gt xs 0) (gt xs k) := by
  intro k
  induction k using Nat.strongRecOn with
  | ind k ih =>
    intro hk
    by_cases h0 : k = 0
    · subst h0; exact leT.refl _
    · have := par_lt (Nat.pos_of_ne_zero h0)
      exact (ih (par k) this (by omega)).trans (h k (by omega) hk)
theorem Heap.of_same {n : Nat} {xs ys : List Tm} (h : Heap n xs) (e : ∀ k, k < n → gt ys k = gt xs k) : Heap n ys := fun k h0 h1 => by
  have := par_lt h0
  rw [e _ (by omega), e _ h1]
  exact h k h0 h1
theorem gt_take {xs : List Tm} {n k : Nat} (h : k < n) : gt (xs.take n) k = gt xs k := by
  unfold gt
  rw [List.getD_eq_getElem?_getD, List.getD_eq_getElem?_getD, List.getElem?_take_of_lt h]
theorem gt_app {xs ys : List Tm} {k : Nat} (h : k < xs.length) : gt (xs ++ ys) k = gt xs k := by
  unfold gt
  rw [List.getD_eq_getElem?_getD, List.getD_eq_getElem?_getD, List.getElem?_append_left h]
/-- A new last one may be too small, and nothing else. -/
theorem Heap.push {xs : List Tm} (h : Heap xs.length xs) (t : Tm) : UpTo (xs.length + 1) xs.length (xs ++ [t]) := by
  refine ⟨fun k h0 h1 hk => ?_, fun k h0 h1 e _ => ?_⟩
  · have := par_lt h0
    rw [gt_app (by omega), gt_app (by omega)]
    exact h k h0 (by omega)
  · have := par_lt h0
    omega
theorem heap_nil : Heap 0 [] := fun k _ h => absurd h (by omega)
/-- The last one goes. -/
theorem take_gt {xs : List Tm} {m : Nat} (h : xs.length = m + 1) : xs.take m ++ [gt xs m] = xs := by
  have e : xs.drop m = [gt xs m] := by
    rw [List.drop_eq_getElem_cons (by omega), List.drop_of_length_le (by omega), gt_of (List.getElem?_eq_getElem (by omega))]
  rw [← e]
  exact List.take_append_drop m xs
end Go.Proofs.Ytbfmcdjnjnfdlaa
