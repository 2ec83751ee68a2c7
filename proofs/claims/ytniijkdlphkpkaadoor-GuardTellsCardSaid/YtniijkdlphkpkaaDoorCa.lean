/- Plain maths of instants: what is nearest to a number within the limits, and what the five functions come to. -/
namespace Go.Proofs.YtniijkdlphkpkaaDoor
def clampC (t : Int) : Int := max 0 (min t 1099511627776)
def fineC (t : Int) : Bool := decide (0 ≤ t ∧ t ≤ 1099511627776)
def afterV (n d : Int) : Int := if fineC n = true then clampC (n + clampC d) else 0
def afterE (n : Int) : Int := if fineC n = true then 0 else 8
def tickV (n d : Int) : Int := if fineC n = true ∧ 0 ≤ d then clampC (n + clampC d) else 0
def tickE (n d : Int) : Int := if fineC n = true then (if d < 0 then 1 else 0) else 8
def dueB (n t : Int) : Bool := fineC n && (fineC t && decide (t ≤ n))
def leftV (n t : Int) : Int := if fineC n = true ∧ fineC t = true then clampC (t - n) else 0
theorem clampC_bd (t : Int) : 0 ≤ clampC t ∧ clampC t ≤ 1099511627776 := by unfold clampC; omega
theorem clampC_in (t : Int) (h : 0 ≤ t ∧ t ≤ 1099511627776) : clampC t = t := by unfold clampC; omega
theorem clampC_low (t : Int) (h : t ≤ 0) : clampC t = 0 := by unfold clampC; omega
theorem clampC_high (t : Int) (h : 1099511627776 ≤ t) : clampC t = 1099511627776 := by unfold clampC; omega
theorem fineC_iff (t : Int) : fineC t = true ↔ 0 ≤ t ∧ t ≤ 1099511627776 := by unfold fineC; simp
theorem fineC_no (t : Int) (h : fineC t = false) : t < 0 ∨ 1099511627776 < t := by
  have : ¬ (0 ≤ t ∧ t ≤ 1099511627776) := fun k => by rw [(fineC_iff t).2 k] at h; cases h
  omega
theorem clampC_eq (t : Int) : (clampC t == t) = fineC t := by
  rw [Bool.eq_iff_iff, beq_iff_eq, fineC_iff]; unfold clampC; omega
theorem afterV_of (n d : Int) (h : fineC n = true) : afterV n d = clampC (n + clampC d) := if_pos h
theorem afterV_no (n d : Int) (h : fineC n = false) : afterV n d = 0 := if_neg (by rw [h]; decide)
theorem afterE_of (n : Int) (h : fineC n = true) : afterE n = 0 := if_pos h
theorem afterE_no (n : Int) (h : fineC n = false) : afterE n = 8 := if_neg (by rw [h]; decide)
theorem tickV_of (n d : Int) (h : fineC n = true) (hd : 0 ≤ d) : tickV n d = clampC (n + clampC d) := if_pos ⟨h, hd⟩
theorem tickV_no (n d : Int) (h : fineC n = false) : tickV n d = 0 := if_neg (by rw [h]; simp)
theorem tickV_neg (n d : Int) (h : d < 0) : tickV n d = 0 := if_neg (by omega)
theorem tickE_of (n d : Int) (h : fineC n = true) (hd : 0 ≤ d) : tickE n d = 0 := by unfold tickE; rw [if_pos h, if_neg (by omega)]
theorem tickE_no (n d : Int) (h : fineC n = false) : tickE n d = 8 := if_neg (by rw [h]; decide)
theorem tickE_neg (n d : Int) (h : fineC n = true) (hd : d < 0) : tickE n d = 1 := by unfold tickE; rw [if_pos h, if_pos hd]
theorem leftV_of (n t : Int) (h : fineC n = true) (k : fineC t = true) : leftV n t = clampC (t - n) := if_pos ⟨h, k⟩
theorem leftV_no (n t : Int) (h : fineC n = false ∨ fineC t = false) : leftV n t = 0 := if_neg (by rcases h with h | h <;> rw [h] <;> simp)
theorem sum_high (n d : Int) (h : 0 ≤ n) (hd : 1099511627776 - n < d) : clampC (n + clampC d) = 1099511627776 := by unfold clampC; omega
theorem sum_in (n d : Int) (h : 0 ≤ n) (hd : 0 ≤ d) (hs : n + d ≤ 1099511627776) : clampC (n + clampC d) = n + d := by unfold clampC; omega
theorem sum_low (n d : Int) (h : 0 ≤ n) (hn : n ≤ 1099511627776) (hd : d < 0) : clampC (n + clampC d) = n := by unfold clampC; omega
end Go.Proofs.YtniijkdlphkpkaaDoor
