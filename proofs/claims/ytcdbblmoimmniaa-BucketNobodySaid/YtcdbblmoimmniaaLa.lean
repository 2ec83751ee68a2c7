/- Plain maths of lines: where a number stands in a list; whether a line may be; the line with a process, and without it. -/
import Derived.Test.YtcdbblmoimmniaaK
namespace Go.Proofs.Ytcdbblmoimmniaa

/-- Where p stands first; the length, if it stands nowhere. -/
def ixN : List Int → Int → Nat
  | [], _ => 0
  | x :: L, p => if x = p then 0 else ixN L p + 1
theorem ixN_le (L : List Int) (p : Int) : ixN L p ≤ L.length := by
  induction L with
  | nil => simp [ixN]
  | cons x L ih =>
    unfold ixN
    split
    · omega
    · simp only [List.length_cons]; omega
theorem ixN_mem {L : List Int} {p : Int} : ixN L p < L.length ↔ p ∈ L := by
  induction L with
  | nil => simp [ixN]
  | cons x L ih =>
    unfold ixN
    by_cases h : x = p
    · simp [h]
    · rw [if_neg h, List.mem_cons, List.length_cons]
      constructor
      · intro k; exact .inr (ih.1 (by omega))
      · rintro (k | k)
        · exact absurd k.symm h
        · have := ih.2 k; omega
theorem ixN_no {L : List Int} {p : Int} (h : p ∉ L) : ixN L p = L.length := by
  have h1 := ixN_le L p
  have h2 : ¬ ixN L p < L.length := fun k => h (ixN_mem.1 k)
  omega
theorem ixN_get {L : List Int} {p : Int} (h : ixN L p < L.length) : L[ixN L p] = p := by
  induction L with
  | nil => simp at h
  | cons x L ih =>
    by_cases hx : x = p
    · simp [ixN, hx]
    · have e : ixN (x :: L) p = ixN L p + 1 := by rw [ixN, if_neg hx]
      simp only [e, List.getElem_cons_succ]
      exact ih (by rw [e] at h; simpa using h)
theorem ixN_of {L : List Int} {p : Int} : ∀ (k : Nat) (hk : k < L.length), L[k] = p → (∀ i (hi : i < k), L[i]'(by omega) ≠ p) → ixN L p = k := by
  induction L with
  | nil => intro k hk; simp at hk
  | cons x L ih =>
    intro k hk h hb
    unfold ixN
    rcases k with _ | k
    · rw [if_pos (by simpa using h)]
    · rw [if_neg (by simpa using hb 0 (by omega)), ih k (by simpa using hk) (by simpa using h) (fun i hi => by simpa using hb (i + 1) (by omega))]
/-- Where p stands, as the functions tell it. -/
def ixL (L : List Int) (p : Int) : Int := if ixN L p < L.length then (ixN L p : Int) else -1
theorem ixL_no {L : List Int} {p : Int} (h : p ∉ L) : ixL L p = -1 := by
  unfold ixL
  rw [if_neg (fun k => h (ixN_mem.1 k))]
theorem ixL_yes {L : List Int} {p : Int} (h : p ∈ L) : ixL L p = ixN L p := by
  unfold ixL
  rw [if_pos (ixN_mem.2 h)]
theorem ixL_neg {L : List Int} {p : Int} : decide (ixL L p < 0) = !decide (p ∈ L) := by
  by_cases h : p ∈ L
  · rw [ixL_yes h]; simp [h]
  · rw [ixL_no h]; simp [h]
theorem ixL_geq {L : List Int} {p : Int} : decide (0 ≤ ixL L p) = decide (p ∈ L) := by
  by_cases h : p ∈ L
  · rw [ixL_yes h]; simp [h]
  · rw [ixL_no h]; simp [h]

/-- A process's number. -/
def lnP (p : Int) : Bool := decide (0 ≤ p) && decide (p < 16)
theorem lnP_iff (p : Int) : lnP p = true ↔ 0 ≤ p ∧ p < 16 := by simp [lnP]
theorem lnP_no (p : Int) (h : lnP p = false) : p < 0 ∨ 16 ≤ p := by
  by_cases h0 : 0 ≤ p
  · by_cases h1 : p < 16
    · simp [lnP, h0, h1] at h
    · exact .inr (by omega)
  · exact .inl (by omega)
/-- All are processes, none twice. -/
def lnGood (L : List Int) : Bool := L.all lnP && decide L.Nodup
theorem lnGood_iff (L : List Int) : lnGood L = true ↔ (∀ z ∈ L, 0 ≤ z ∧ z < 16) ∧ L.Nodup := by
  unfold lnGood
  rw [Bool.and_eq_true, List.all_eq_true, decide_eq_true_iff]
  constructor
  · rintro ⟨h, k⟩; exact ⟨fun z hz => (lnP_iff z).1 (h z hz), k⟩
  · rintro ⟨h, k⟩; exact ⟨fun z hz => (lnP_iff z).2 (h z hz), k⟩
theorem lnGood_snoc (L : List Int) (z : Int) : lnGood (L ++ [z]) = (lnGood L && (lnP z && !decide (z ∈ L))) := by
  apply Bool.eq_iff_iff.2
  simp only [Bool.and_eq_true, lnGood_iff, lnP_iff, Bool.not_eq_true', decide_eq_false_iff_not, List.nodup_append, List.mem_append, List.mem_singleton]
  constructor
  · rintro ⟨h1, h2, h3, h4⟩
    exact ⟨⟨fun z hz => h1 z (.inl hz), h2⟩, h1 z (.inr rfl), fun hz => h4 z hz z (by simp) rfl⟩
  · rintro ⟨⟨h1, h2⟩, h3, h4⟩
    refine ⟨?_, h2, by simp, ?_⟩
    · rintro y (hy | rfl)
      · exact h1 y hy
      · exact h3
    · intro a ha b hb e
      obtain rfl : b = z := by simpa using hb
      exact h4 (e ▸ ha)
theorem lnGood_pre {L M : List Int} (h : lnGood (L ++ M) = true) : lnGood L = true := by
  rw [lnGood_iff] at h ⊢
  exact ⟨fun z hz => h.1 z (List.mem_append_left _ hz), (List.nodup_append.1 h.2).1⟩
theorem lnGood_take {L : List Int} (k : Nat) (h : lnGood (L.take k) = false) : lnGood L = false := by
  cases hL : lnGood L
  · rfl
  · rw [← List.take_append_drop k L] at hL
    rw [lnGood_pre hL] at h
    cases h
theorem ln_snoc (L : List Int) (k : Nat) (h : k < L.length) : L.take (k + 1) = L.take k ++ [L[k]] := by
  rw [List.take_add_one, List.getElem?_eq_getElem h]
  rfl
theorem lnGood_step (L : List Int) (k : Nat) (h : k < L.length) : lnGood (L.take (k + 1)) = (lnGood (L.take k) && (lnP L[k] && !decide (L[k] ∈ L.take k))) := by
  rw [ln_snoc L k h, lnGood_snoc]
/-- Of one that stands at place k: is it the first place? -/
theorem ixL_first (L : List Int) (k : Nat) (h : k < L.length) : (ixL L L[k] != (k : Int)) = decide (L[k] ∈ L.take k) := by
  have hm : L[k] ∈ L := List.getElem_mem h
  have hi := ixN_mem.2 hm
  rw [ixL_yes hm]
  by_cases hk : L[k] ∈ L.take k
  · obtain ⟨i, hi1, hi2⟩ := List.getElem_of_mem hk
    have hik : i < k := by simp at hi1; omega
    rw [List.getElem_take] at hi2
    have hne : ixN L L[k] ≠ k := by
      intro e
      have hlt : ¬ (ixN L L[k] ≤ i) ∨ ixN L L[k] ≤ i := by omega
      have key : ∀ (M : List Int) (p : Int) (i : Nat) (hi : i < M.length), M[i] = p → ixN M p ≤ i := by
        intro M
        induction M with
        | nil => intro p i hi; simp at hi
        | cons x M ih =>
          intro p i hi hp
          unfold ixN
          split
          · omega
          · next hx =>
            rcases i with _ | i
            · exact absurd (by simpa using hp) hx
            · have := ih p i (by simpa using hi) (by simpa using hp)
              omega
      have := key L L[k] i (by omega) hi2
      omega
    simp [hk, bne_iff_ne]
    omega
  · have e : ixN L L[k] = k := ixN_of k h rfl fun i hi e => hk (by
      rw [← e]
      exact List.mem_iff_getElem.2 ⟨i, by simp; omega, by rw [List.getElem_take]⟩)
    rw [e]
    simp [hk]

/-- A line may be. -/
def lnFine (sh : Bool) (L : List Int) : Bool := (sh || decide (L.length < 2)) && lnGood L
theorem lnFine_few {sh : Bool} {L : List Int} (h : lnFine sh L = true) : L.length ≤ 16 := by
  unfold lnFine at h
  rw [Bool.and_eq_true, lnGood_iff] at h
  have key : ∀ (n : Nat) (L : List Int), (∀ z ∈ L, 0 ≤ z ∧ z < (n : Int)) → L.Nodup → L.length ≤ n := by
    intro n
    induction n with
    | zero =>
      intro L h _
      cases L with
      | nil => simp
      | cons x L => have := h x (by simp); omega
    | succ n ih =>
      intro L h hd
      have h1 := ih (L.filter (· ≠ (n : Int))) (fun z hz => by
        have hz' := List.mem_filter.1 hz
        have := h z hz'.1
        have hn : z ≠ n := by simpa using hz'.2
        omega) (List.Pairwise.filter _ hd)
      have h2 : ∀ M : List Int, M.Nodup → M.length ≤ (M.filter (· ≠ (n : Int))).length + 1 := by
        intro M
        induction M with
        | nil => simp
        | cons x M ihM =>
          intro hM
          rw [List.nodup_cons] at hM
          by_cases hx : x = (n : Int)
          · have : M.filter (· ≠ (n : Int)) = M := List.filter_eq_self.2 fun z hz => by
              have : z ≠ (n : Int) := fun e => hM.1 (by rw [hx, ← e]; exact hz)
              simpa using this
            rw [List.filter_cons_of_neg (by simp [hx]), this, List.length_cons]
            exact Nat.le_refl _
          · have := ihM hM.2
            rw [List.filter_cons_of_pos (by simpa using hx), List.length_cons, List.length_cons]
            omega
      have := h2 L hd
      omega
  exact key 16 L (fun z hz => by have := h.2.1 z hz; omega) h.2.2

/-- What Join tells of a line and a process. -/
def lnJoinE (sh : Bool) (L : List Int) (p : Int) : Int :=
  if lnFine sh L = false then 1 else if lnP p = false then 8 else if p ∈ L then 7 else if sh = false ∧ 0 < L.length then 15 else 0
/-- The line behind it. -/
def lnJoinL (sh : Bool) (L : List Int) (p : Int) : List Int := if lnJoinE sh L p = 0 then L ++ [p] else L
/-- p waits in a line that may be. -/
def lnThere (sh : Bool) (L : List Int) (p : Int) : Bool := lnFine sh L && decide (p ∈ L)
/-- The line without p. -/
def lnLeaveL (sh : Bool) (L : List Int) (p : Int) : List Int := if lnThere sh L p = true then L.take (ixN L p) ++ L.drop (ixN L p + 1) else L
/-- How many are ahead of p. -/
def lnAhead (sh : Bool) (L : List Int) (p : Int) : Int := if lnThere sh L p = true then ixN L p else 0
/-- One waits. -/
def lnSome (sh : Bool) (L : List Int) : Bool := lnFine sh L && decide (0 < L.length)
/-- Who came first. -/
def lnHead (sh : Bool) (L : List Int) : Int := if lnSome sh L = true then L.headD 0 else 0
theorem lnJoinL_len (sh : Bool) (L : List Int) (p : Int) : (lnJoinL sh L p).length ≤ L.length + 1 := by
  unfold lnJoinL
  split <;> simp
theorem lnLeaveL_len (sh : Bool) (L : List Int) (p : Int) : (lnLeaveL sh L p).length ≤ L.length := by
  unfold lnLeaveL
  split
  · simp; omega
  · exact Nat.le_refl _
theorem ret_lb {k : IntKind} {a b : Value} {c d : Int} (h : a = b) (h' : c = d) : Ending.returned (.tuple #[a, .int k c]) = .returned (.tuple #[b, .int k d]) := by rw [h, h']
end Go.Proofs.Ytcdbblmoimmniaa
