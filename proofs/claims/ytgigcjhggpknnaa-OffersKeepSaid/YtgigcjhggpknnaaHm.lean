/- What the document says of handles, as plain functions on numbers and lists of bytes, and the laws between them. -/
import Derived.Lib.ItoaNum
namespace Go.Proofs.Ytgigcjhggpknnaa

def fineB (h : Int) : Bool := decide (4096 ≤ h ∧ h ≤ 268435455)
def slotF (h : Int) : Int := if fineB h = true then h % 4096 else -1
def genF (h : Int) : Int := if fineB h = true then h / 4096 else 0
def madeB (s g : Int) : Bool := decide (0 ≤ s ∧ s ≤ 4095 ∧ 1 ≤ g ∧ g ≤ 65535)
def makeH (s g : Int) : Int := if madeB s g = true then 4096 * g + s else 0
def makeE (s g : Int) : Int := if madeB s g = true then 0 else 8
def nextH (h : Int) : Int := if fineB h = true then (if h / 4096 = 65535 then 0 else h + 4096) else 0
def nextE (h : Int) : Int := if fineB h = true then (if h / 4096 = 65535 then 14 else 0) else 8
def textL (h : Int) : List UInt8 := if fineB h = true then Lib.decDigits (h % 4096).toNat ++ 46 :: Lib.decDigits (h / 4096).toNat else []
def textE (h : Int) : Int := if fineB h = true then 0 else 8

theorem fine_iff (h : Int) : fineB h = true ↔ 4096 ≤ h ∧ h ≤ 268435455 := by unfold fineB; exact decide_eq_true_iff
theorem fine_of (h : Int) (a : 4096 ≤ h) (b : h ≤ 268435455) : fineB h = true := (fine_iff h).2 ⟨a, b⟩
theorem fine_no (h : Int) (a : h < 4096 ∨ 268435455 < h) : fineB h = false := by
  cases e : fineB h
  · rfl
  · rw [fine_iff] at e; omega
theorem fine_not (h : Int) (e : fineB h = false) : h < 4096 ∨ 268435455 < h := by
  rcases Int.lt_or_le h 4096 with a | a
  · exact .inl a
  · rcases Int.lt_or_le 268435455 h with b | b
    · exact .inr b
    · rw [fine_of h a b] at e; cases e
theorem made_iff (s g : Int) : madeB s g = true ↔ 0 ≤ s ∧ s ≤ 4095 ∧ 1 ≤ g ∧ g ≤ 65535 := by unfold madeB; exact decide_eq_true_iff
theorem made_of (s g : Int) (h : 0 ≤ s ∧ s ≤ 4095 ∧ 1 ≤ g ∧ g ≤ 65535) : madeB s g = true := (made_iff s g).2 h
theorem made_no (s g : Int) (h : s < 0 ∨ 4095 < s ∨ g < 1 ∨ 65535 < g) : madeB s g = false := by
  cases e : madeB s g
  · rfl
  · rw [made_iff] at e; omega
theorem makeH_of (s g : Int) (h : 0 ≤ s ∧ s ≤ 4095 ∧ 1 ≤ g ∧ g ≤ 65535) : makeH s g = 4096 * g + s := if_pos (made_of s g h)
theorem makeE_of (s g : Int) (h : 0 ≤ s ∧ s ≤ 4095 ∧ 1 ≤ g ∧ g ≤ 65535) : makeE s g = 0 := if_pos (made_of s g h)
theorem makeH_no (s g : Int) (h : s < 0 ∨ 4095 < s ∨ g < 1 ∨ 65535 < g) : makeH s g = 0 := if_neg (by rw [made_no s g h]; decide)
theorem makeE_no (s g : Int) (h : s < 0 ∨ 4095 < s ∨ g < 1 ∨ 65535 < g) : makeE s g = 8 := if_neg (by rw [made_no s g h]; decide)
theorem slotF_of (h : Int) (e : fineB h = true) : slotF h = h % 4096 := if_pos e
theorem slotF_no (h : Int) (e : fineB h = false) : slotF h = -1 := if_neg (by rw [e]; decide)
theorem genF_of (h : Int) (e : fineB h = true) : genF h = h / 4096 := if_pos e
theorem genF_no (h : Int) (e : fineB h = false) : genF h = 0 := if_neg (by rw [e]; decide)
theorem textL_of (h : Int) (e : fineB h = true) : textL h = Lib.decDigits (h % 4096).toNat ++ 46 :: Lib.decDigits (h / 4096).toNat := if_pos e
theorem textL_no (h : Int) (e : fineB h = false) : textL h = [] := if_neg (by rw [e]; decide)
theorem textE_of (h : Int) (e : fineB h = true) : textE h = 0 := if_pos e
theorem textE_no (h : Int) (e : fineB h = false) : textE h = 8 := if_neg (by rw [e]; decide)
theorem nextH_no (h : Int) (e : fineB h = false) : nextH h = 0 := if_neg (by rw [e]; decide)
theorem nextE_no (h : Int) (e : fineB h = false) : nextE h = 8 := if_neg (by rw [e]; decide)
theorem nextH_end (h : Int) (e : fineB h = true) (k : h / 4096 = 65535) : nextH h = 0 := by unfold nextH; rw [if_pos e, if_pos k]
theorem nextE_end (h : Int) (e : fineB h = true) (k : h / 4096 = 65535) : nextE h = 14 := by unfold nextE; rw [if_pos e, if_pos k]
theorem nextH_on (h : Int) (e : fineB h = true) (k : h / 4096 ≠ 65535) : nextH h = h + 4096 := by unfold nextH; rw [if_pos e, if_neg k]
theorem nextE_on (h : Int) (e : fineB h = true) (k : h / 4096 ≠ 65535) : nextE h = 0 := by unfold nextE; rw [if_pos e, if_neg k]

/- The quotient as Go makes it, where the handle is none. -/
theorem quo_low (h q : Int) (hq : q = h.tdiv 4096) (h1 : h < 4096) : q < 1 := by
  subst hq
  rcases Int.lt_or_le h 0 with a | a
  · have e : (-h).tdiv 4096 = -(h.tdiv 4096) := Int.neg_tdiv h 4096
    have p : (-h).tdiv 4096 = (-h) / 4096 := Int.tdiv_eq_ediv_of_nonneg (by omega)
    omega
  · have p : h.tdiv 4096 = h / 4096 := Int.tdiv_eq_ediv_of_nonneg a
    omega
theorem quo_high (h q : Int) (hq : q = h.tdiv 4096) (h1 : 268435455 < h) : 65535 < q := by
  subst hq
  have p : h.tdiv 4096 = h / 4096 := Int.tdiv_eq_ediv_of_nonneg (by omega)
  omega

theorem digits_len : ∀ (k n : Nat), n < 10 ^ (k + 1) → (Lib.decDigits n).length ≤ k + 1
  | 0, n, h => by
    rw [Lib.decDigits, dif_pos (by simpa using h)]
    simp
  | k + 1, n, h => by
    rw [Lib.decDigits]
    split
    · simp
    · rw [List.length_append]
      have := digits_len k (n / 10) (by rw [Nat.pow_succ] at h; omega)
      simp
      omega
theorem digits_len20 (n : Nat) (h : n ≤ 1000000000) : (Lib.decDigits n).length ≤ 10 := digits_len 9 n (by omega)
theorem digits_step (m : Nat) (h : 9 < m) (acc : List UInt8) : Lib.decDigits (m / 10) ++ (UInt8.ofNat (48 + m % 10) :: acc) = Lib.decDigits m ++ acc := by
  conv => rhs; rw [Lib.decDigits, dif_neg (by omega)]
  simp
theorem digits_last (m : Nat) (h : ¬ 9 < m) (acc : List UInt8) : UInt8.ofNat (48 + m) :: acc = Lib.decDigits m ++ acc := by
  rw [Lib.decDigits, dif_pos (by omega)]
  simp
end Go.Proofs.Ytgigcjhggpknnaa
