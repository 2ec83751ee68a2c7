/- Plain maths of phases: what is a phase of a limit, and what the four functions come to. -/
namespace Go.Proofs.YtlfglibepldjpaaDoor
def phFine (n l : Int) : Bool := decide (1 ≤ l ∧ l ≤ 65535 ∧ 0 ≤ n ∧ n ≤ l)
def phNext (n l : Int) : Int := bif phFine n l then (if n = l then 0 else n + 1) else 0
def phErr (n l : Int) : Int := bif phFine n l then (if n = l then 14 else 0) else 8
def phLeft (n l : Int) : Int := bif phFine n l then l - n else 0
def phC (n l m : Int) : Int := bif phFine n l then max 0 (min m (l - n)) else 0
def phV (n l m : Int) : Int := bif phFine n l then n + max 0 (min m (l - n)) else 0
theorem phFine_iff (n l : Int) : phFine n l = true ↔ 1 ≤ l ∧ l ≤ 65535 ∧ 0 ≤ n ∧ n ≤ l := by unfold phFine; simp
theorem phFine_no (n l : Int) (h : phFine n l = false) : l < 1 ∨ (1 ≤ l ∧ 65535 < l) ∨ (1 ≤ l ∧ l ≤ 65535 ∧ n < 0) ∨ (1 ≤ l ∧ l ≤ 65535 ∧ 0 ≤ n ∧ l < n) := by
  have : ¬ (1 ≤ l ∧ l ≤ 65535 ∧ 0 ≤ n ∧ n ≤ l) := fun k => by rw [(phFine_iff n l).2 k] at h; cases h
  omega
theorem phNext_no {n l : Int} (h : phFine n l = false) : phNext n l = 0 := by unfold phNext; rw [h]; rfl
theorem phErr_no {n l : Int} (h : phFine n l = false) : phErr n l = 8 := by unfold phErr; rw [h]; rfl
theorem phNext_end {n l : Int} (h : phFine n l = true) (e : n = l) : phNext n l = 0 := by unfold phNext; rw [h, if_pos e]; rfl
theorem phErr_end {n l : Int} (h : phFine n l = true) (e : n = l) : phErr n l = 14 := by unfold phErr; rw [h, if_pos e]; rfl
theorem phNext_on {n l : Int} (h : phFine n l = true) (e : n ≠ l) : phNext n l = n + 1 := by unfold phNext; rw [h, if_neg e]; rfl
theorem phErr_on {n l : Int} (h : phFine n l = true) (e : n ≠ l) : phErr n l = 0 := by unfold phErr; rw [h, if_neg e]; rfl
theorem phLeft_no {n l : Int} (h : phFine n l = false) : phLeft n l = 0 := by unfold phLeft; rw [h]; rfl
theorem phLeft_of {n l : Int} (h : phFine n l = true) : phLeft n l = l - n := by unfold phLeft; rw [h]; rfl
theorem phC_no {n l : Int} (m : Int) (h : phFine n l = false) : phC n l m = 0 := by unfold phC; rw [h]; rfl
theorem phC_of {n l : Int} (m : Int) (h : phFine n l = true) : phC n l m = max 0 (min m (l - n)) := by unfold phC; rw [h]; rfl
theorem phV_no {n l : Int} (m : Int) (h : phFine n l = false) : phV n l m = 0 := by unfold phV; rw [h]; rfl
theorem phV_of {n l : Int} (m : Int) (h : phFine n l = true) : phV n l m = n + max 0 (min m (l - n)) := by unfold phV; rw [h]; rfl
end Go.Proofs.YtlfglibepldjpaaDoor
