/- Plain maths of alternatives: which state may be, what is wrong with it, and which place is withdrawn. -/
namespace Go.Proofs.Ytimooelhjgnlnaa
def alMay (n : Int) : Bool := decide (1 ≤ n ∧ n ≤ 6)
def alIn (n m : Int) : Bool := decide (0 ≤ n ∧ n < m)
def alFine (m n d p : Int) : Bool :=
  if m = 0 then (n == 0 && d == 0 && p == 0)
  else if m = 1 then (alMay n && alIn d n && p == 0)
  else if m = 2 then (alMay n && d == n && p == 0)
  else if m = 3 then (alMay n && alIn p n && alIn d (n - 1))
  else false
def alChk (m n d p md : Int) : Int := if alFine m n d p = true then (if m = md then 0 else 13) else 1
def alLeft (m n d p : Int) : Int := if alFine m n d p = true then (if m = 1 then n - d else if m = 3 then n - 1 - d else 0) else 0
def alPlace (n d p : Int) : Int := if n - 1 - d ≤ p then n - 1 - d - 1 else n - 1 - d
/-- The place before: at first so many as there are. -/
def alPrev (n d p : Int) : Int := if d = 0 then n else alPlace n (d - 1) p
theorem alMay_iff (n : Int) : alMay n = true ↔ 1 ≤ n ∧ n ≤ 6 := by unfold alMay; simp
theorem alMay_of {n : Int} (h : 1 ≤ n) (h' : n ≤ 6) : alMay n = true := (alMay_iff n).2 ⟨h, h'⟩
theorem alMay_no {n : Int} (h : alMay n = false) : n < 1 ∨ 6 < n := by
  have : ¬ (1 ≤ n ∧ n ≤ 6) := fun k => by rw [(alMay_iff n).2 k] at h; cases h
  omega
theorem alIn_iff (n m : Int) : alIn n m = true ↔ 0 ≤ n ∧ n < m := by unfold alIn; simp
theorem alIn_of {n m : Int} (h : 0 ≤ n) (h' : n < m) : alIn n m = true := (alIn_iff n m).2 ⟨h, h'⟩
theorem fine_0 (n d p : Int) : alFine 0 n d p = (n == 0 && d == 0 && p == 0) := rfl
theorem fine_1 (n d p : Int) : alFine 1 n d p = (alMay n && alIn d n && p == 0) := rfl
theorem fine_2 (n d p : Int) : alFine 2 n d p = (alMay n && d == n && p == 0) := rfl
theorem fine_3 (n d p : Int) : alFine 3 n d p = (alMay n && alIn p n && alIn d (n - 1)) := rfl
theorem fine_no {m : Int} (h0 : m ≠ 0) (h1 : m ≠ 1) (h2 : m ≠ 2) (h3 : m ≠ 3) (n d p : Int) : alFine m n d p = false := by
  unfold alFine
  rw [if_neg h0, if_neg h1, if_neg h2, if_neg h3]
theorem chk_arg {m n d p : Int} (md : Int) (h : alFine m n d p = false) : alChk m n d p md = 1 := by unfold alChk; rw [if_neg (by rw [h]; decide)]
theorem chk_ok {m n d p md : Int} (h : alFine m n d p = true) (e : m = md) : alChk m n d p md = 0 := by unfold alChk; rw [if_pos h, if_pos e]
theorem chk_state {m n d p md : Int} (h : alFine m n d p = true) (e : m ≠ md) : alChk m n d p md = 13 := by unfold alChk; rw [if_pos h, if_neg e]
theorem put_fine {n d : Int} (h1 : 1 ≤ n) (h6 : n ≤ 6) (d0 : 0 ≤ d) (dn : d < n) : alFine 1 n d 0 = true := by
  rw [fine_1, alMay_of h1 h6, alIn_of d0 dn]; rfl
theorem stand_fine {n : Int} (h1 : 1 ≤ n) (h6 : n ≤ 6) : alFine 2 n n 0 = true := by
  rw [fine_2, alMay_of h1 h6]; simp
theorem take_fine {n d p : Int} (h1 : 1 ≤ n) (h6 : n ≤ 6) (p0 : 0 ≤ p) (pn : p < n) (d0 : 0 ≤ d) (dn : d < n - 1) : alFine 3 n d p = true := by
  rw [fine_3, alMay_of h1 h6, alIn_of p0 pn, alIn_of d0 dn]; rfl
theorem place_facts {n d p : Int} (pn : p < n) (d0 : 0 ≤ d) (dn : d < n - 1) : alPlace n d p < alPrev n d p ∧ alPlace n d p ≠ p ∧ 0 ≤ alPlace n d p ∧ alPlace n d p ≤ n := by
  unfold alPrev alPlace
  split <;> (repeat' split) <;> omega
theorem prev_next (n d p : Int) (d0 : 0 ≤ d) : alPrev n (d + 1) p = alPlace n d p := by
  unfold alPrev
  rw [if_neg (by omega), show d + 1 - 1 = d by omega]
end Go.Proofs.Ytimooelhjgnlnaa
