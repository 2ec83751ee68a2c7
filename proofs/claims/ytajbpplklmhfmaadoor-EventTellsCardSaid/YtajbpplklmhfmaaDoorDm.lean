/- Digits as plain functions on lists of bytes: what a text of digits is, its number, and a number's own text. No model. -/
import Derived.Lib.ItoaNum
namespace Go.Proofs.YtajbpplklmhfmaaDoor

def isDig (c : UInt8) : Bool := decide (48 ≤ c.toNat ∧ c.toNat ≤ 57)
def plainB (l : List UInt8) : Bool := !l.isEmpty && (!(l.headD 0 == 48 && decide (1 < l.length)) && l.all isDig)
def numF (C : Int) (n : Int) (c : UInt8) : Int := min (10 * n + ((c.toNat : Int) - 48)) C
def numV (C : Int) (n : Int) (l : List UInt8) : Int := l.foldl (numF C) n
def plainV (l : List UInt8) : Int := if plainB l = true then numV 1000000000 0 l else 0
/-- The number of a list of digits behind those that come to n. -/
def numN (n : Nat) (l : List UInt8) : Nat := l.foldl (fun a c => 10 * a + (c.toNat - 48)) n

theorem isDig_iff (c : UInt8) : isDig c = true ↔ 48 ≤ c.toNat ∧ c.toNat ≤ 57 := by unfold isDig; exact decide_eq_true_iff
theorem numN_nil (n : Nat) : numN n [] = n := rfl
theorem numN_cons (n : Nat) (c : UInt8) (l : List UInt8) : numN n (c :: l) = numN (10 * n + (c.toNat - 48)) l := by unfold numN; rw [List.foldl_cons]
theorem numN_app (n : Nat) (a b : List UInt8) : numN n (a ++ b) = numN (numN n a) b := by unfold numN; rw [List.foldl_append]
theorem numN_le : ∀ (l : List UInt8) (n : Nat), n * 10 ^ l.length ≤ numN n l
  | [], n => by simp [numN]
  | c :: l, n => by
    rw [numN_cons]
    have h := numN_le l (10 * n + (c.toNat - 48))
    refine Nat.le_trans ?_ h
    rw [List.length_cons, Nat.pow_succ, Nat.mul_comm (10 ^ l.length), ← Nat.mul_assoc]
    exact Nat.mul_le_mul_right _ (by omega)
theorem numN_ge (l : List UInt8) (n : Nat) : n ≤ numN n l := Nat.le_trans (Nat.le_mul_of_pos_right n (Nat.pow_pos (by omega))) (numN_le l n)
theorem numN_lt : ∀ (l : List UInt8) (n : Nat), l.all isDig = true → numN n l < (n + 1) * 10 ^ l.length
  | [], n, _ => by simp [numN]
  | c :: l, n, h => by
    rw [List.all_cons, Bool.and_eq_true] at h
    have hc := (isDig_iff c).1 h.1
    rw [numN_cons]
    have h2 := numN_lt l (10 * n + (c.toNat - 48)) h.2
    refine Nat.lt_of_lt_of_le h2 ?_
    rw [List.length_cons, Nat.pow_succ, Nat.mul_comm (10 ^ l.length), ← Nat.mul_assoc]
    exact Nat.mul_le_mul_right _ (by omega)

theorem plain_all (l : List UInt8) (h : plainB l = true) : l.all isDig = true := by
  unfold plainB at h
  rw [Bool.and_eq_true, Bool.and_eq_true] at h
  exact h.2.2
theorem plain_ne (l : List UInt8) (h : plainB l = true) : l.isEmpty = false := by
  unfold plainB at h
  rw [Bool.and_eq_true] at h
  simpa using h.1
theorem plainV_of (l : List UInt8) (h : plainB l = true) : plainV l = numV 1000000000 0 l := if_pos h
theorem plainV_no (l : List UInt8) (h : plainB l = false) : plainV l = 0 := if_neg (by rw [h]; decide)
theorem plain_nil : plainB [] = false := rfl
theorem plain_zero (l : List UInt8) (h : (l.headD 0 == 48) = true) (h1 : 1 < l.length) : plainB l = false := by
  unfold plainB
  rw [h, decide_eq_true h1]
  simp
theorem plain_else (l : List UInt8) (h0 : l ≠ []) (h : (l.headD 0 == 48) = false ∨ l.length = 1) : plainB l = l.all isDig := by
  unfold plainB
  have e : l.isEmpty = false := by
    cases l with
    | nil => exact absurd rfl h0
    | cons c l => rfl
  rw [e]
  rcases h with h | h
  · rw [h]; simp
  · rw [h]; simp
theorem numV_app (C n : Int) (a b : List UInt8) : numV C n (a ++ b) = numV C (numV C n a) b := by unfold numV; rw [List.foldl_append]
theorem numV_bd : ∀ (l : List UInt8) (n : Int), 0 ≤ n → n ≤ 1000000000 → l.all isDig = true → 0 ≤ numV 1000000000 n l ∧ numV 1000000000 n l ≤ 1000000000
  | [], n, h, h', _ => ⟨h, h'⟩
  | c :: l, n, h, h', ha => by
    rw [List.all_cons, Bool.and_eq_true] at ha
    have hc := (isDig_iff c).1 ha.1
    exact numV_bd l (numF 1000000000 n c) (by unfold numF; omega) (by unfold numF; omega) ha.2
theorem take_snoc (s : ByteArray) (k : Nat) (h : k < s.size) : s.data.toList.take (k + 1) = s.data.toList.take k ++ [s[k]] := by
  rw [List.take_succ_eq_append_getElem (by simpa using h)]; rfl
theorem drop_cons (s : ByteArray) (k : Nat) (h : k < s.size) : s.data.toList.drop k = s[k] :: s.data.toList.drop (k + 1) := by
  rw [List.drop_eq_getElem_cons (by simpa using h)]; rfl

/- A number's text. -/
theorem dg_len : ∀ (k n : Nat), n < 10 ^ (k + 1) → (Lib.decDigits n).length ≤ k + 1
  | 0, n, h => by
    rw [Lib.decDigits, dif_pos (by simpa using h)]
    simp
  | k + 1, n, h => by
    rw [Lib.decDigits]
    split
    · simp
    · rw [List.length_append]
      have := dg_len k (n / 10) (by rw [Nat.pow_succ] at h; omega)
      simp
      omega
theorem dg_len10 (n : Nat) (h : n ≤ 4294967295) : (Lib.decDigits n).length ≤ 10 := dg_len 9 n (by omega)
theorem dg_step (m : Nat) (h : 9 < m) (acc : List UInt8) : Lib.decDigits (m / 10) ++ (UInt8.ofNat (48 + m % 10) :: acc) = Lib.decDigits m ++ acc := by
  conv => rhs; rw [Lib.decDigits, dif_neg (by omega)]
  simp
theorem dg_last (m : Nat) (h : ¬ 9 < m) (acc : List UInt8) : UInt8.ofNat (48 + m) :: acc = Lib.decDigits m ++ acc := by
  rw [Lib.decDigits, dif_pos (by omega)]
  simp
theorem dg_byte (d : Nat) (h : d < 10) : (UInt8.ofNat (48 + d)).toNat = 48 + d := by
  rw [UInt8.toNat_ofNat']
  omega
theorem dg_all (n : Nat) : (Lib.decDigits n).all isDig = true := by
  induction n using Nat.strongRecOn with
  | _ n ih =>
    rw [Lib.decDigits]
    split
    · have := dg_byte n (by omega)
      simp only [List.all_cons, List.all_nil, Bool.and_true]
      rw [isDig_iff]
      omega
    · rw [List.all_append, ih (n / 10) (by omega)]
      have := dg_byte (n % 10) (by omega)
      simp only [List.all_cons, List.all_nil, Bool.and_true, Bool.true_and]
      rw [isDig_iff]
      omega
theorem dg_num (n : Nat) : numN 0 (Lib.decDigits n) = n := by
  induction n using Nat.strongRecOn with
  | _ n ih =>
    rw [Lib.decDigits]
    split
    · have := dg_byte n (by omega)
      rw [numN_cons, numN_nil]
      omega
    · rw [numN_app, ih (n / 10) (by omega)]
      have := dg_byte (n % 10) (by omega)
      rw [numN_cons, numN_nil]
      omega
theorem dg_ne (n : Nat) : Lib.decDigits n ≠ [] := by
  rw [Lib.decDigits]
  split <;> simp
theorem dg_head (n : Nat) (h : 1 ≤ n) : (Lib.decDigits n).headD 0 ≠ 48 := by
  induction n using Nat.strongRecOn with
  | _ n ih =>
    rw [Lib.decDigits]
    split
    · have := dg_byte n (by omega)
      intro e
      rw [List.headD_cons] at e
      rw [e] at this
      have e48 : (48 : UInt8).toNat = 48 := rfl
      omega
    · have e := ih (n / 10) (by omega) (by omega)
      have hne := dg_ne (n / 10)
      cases hl : Lib.decDigits (n / 10) with
      | nil => exact absurd hl hne
      | cons c l => rw [hl] at e; simpa using e
theorem dg_one (n : Nat) (h : n < 10) : (Lib.decDigits n).length = 1 := by
  rw [Lib.decDigits, dif_pos (by omega)]
  rfl
theorem dg_plain (n : Nat) : plainB (Lib.decDigits n) = true := by
  rw [plain_else _ (dg_ne n)]
  · exact dg_all n
  · by_cases h : 1 ≤ n
    · exact .inl (by simpa using dg_head n h)
    · exact .inr (dg_one n (by omega))
end Go.Proofs.YtajbpplklmhfmaaDoor
