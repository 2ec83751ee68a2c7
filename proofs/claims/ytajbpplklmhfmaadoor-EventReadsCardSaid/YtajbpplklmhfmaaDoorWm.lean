/- Words as plain functions on numbers: what is a word, what a number is wrapped, what two words come to, and the laws between them. No model. -/
import Derived.IntWalk
import Derived.Laws.Entries
import Derived.RowKit
import Derived.Test.YtajbpplklmhfmaaDoorDm
namespace Go.Proofs.YtajbpplklmhfmaaDoor
open Go

def fineW (n : Int) : Bool := decide (-2147483648 ≤ n ∧ n ≤ 2147483647)
def wrapW (n : Int) : Int := (n + 2147483648) % 4294967296 - 2147483648
theorem fineW_iff (n : Int) : fineW n = true ↔ -2147483648 ≤ n ∧ n ≤ 2147483647 := by unfold fineW; exact decide_eq_true_iff
theorem fineW_of (n : Int) (a : -2147483648 ≤ n) (b : n ≤ 2147483647) : fineW n = true := (fineW_iff n).2 ⟨a, b⟩
theorem fineW_no (n : Int) (a : n < -2147483648 ∨ 2147483647 < n) : fineW n = false := by
  cases e : fineW n
  · rfl
  · rw [fineW_iff] at e; omega
theorem fineW_not (n : Int) (e : fineW n = false) : n < -2147483648 ∨ 2147483647 < n := by
  rcases Int.lt_or_le n (-2147483648) with a | a
  · exact .inl a
  · rcases Int.lt_or_le 2147483647 n with b | b
    · exact .inr b
    · rw [fineW_of n a b] at e; cases e
theorem wrapW_fine (n : Int) : -2147483648 ≤ wrapW n ∧ wrapW n ≤ 2147483647 := by unfold wrapW; omega
theorem wrapW_id (n : Int) (a : -2147483648 ≤ n) (b : n ≤ 2147483647) : wrapW n = n := by unfold wrapW; omega
theorem wrapW_add (n k : Int) : wrapW (n + 4294967296 * k) = wrapW n := by unfold wrapW; omega
theorem wrapW_off (n : Int) : ∃ k : Int, wrapW n = n + 4294967296 * k := ⟨-((n + 2147483648) / 4294967296), by unfold wrapW; omega⟩
theorem wrapW_64 (n : Int) : wrapW (RowKit.wrap64 n) = wrapW n := by unfold wrapW RowKit.wrap64; omega
/-- Two numbers that leave the same are wrapped alike. -/
theorem wrapW_eq (a b : Int) (h : a % 4294967296 = b % 4294967296) : wrapW a = wrapW b := by unfold wrapW; omega
/-- The document's way to wrap. -/
theorem wrapW_rem (n m : Int) (h : m = n.tmod 4294967296) : wrapW n = if 2147483647 < (if m < 0 then m + 4294967296 else m) then (if m < 0 then m + 4294967296 else m) - 4294967296 else (if m < 0 then m + 4294967296 else m) := by
  subst h
  unfold wrapW
  rcases Int.lt_or_le n 0 with a | a
  · have e : (-n).tmod 4294967296 = -(n.tmod 4294967296) := Int.neg_tmod n 4294967296
    have p : (-n).tmod 4294967296 = (-n) % 4294967296 := Int.tmod_eq_emod_of_nonneg (by omega)
    have q : n.tmod 4294967296 = -((-n) % 4294967296) := by omega
    rw [q]
    split <;> split <;> omega
  · have p : n.tmod 4294967296 = n % 4294967296 := Int.tmod_eq_emod_of_nonneg a
    rw [p]
    split <;> split <;> omega

/- Bit by bit. -/
def bitP (kind : Int) (x y : Nat) : Bool := if kind = 7 then decide (0 < x % 2 + y % 2) else if kind = 8 then decide (x % 2 + y % 2 = 1) else decide (x % 2 + y % 2 = 2)
theorem bitP6 (x y : Nat) : bitP 6 x y = decide (x % 2 + y % 2 = 2) := by unfold bitP; rw [if_neg (by decide), if_neg (by decide)]
theorem bitP7 (x y : Nat) : bitP 7 x y = decide (0 < x % 2 + y % 2) := by unfold bitP; rw [if_pos rfl]
theorem bitP8 (x y : Nat) : bitP 8 x y = decide (x % 2 + y % 2 = 1) := by unfold bitP; rw [if_neg (by decide), if_pos rfl]
def bitsN (kind : Int) : Nat → Nat → Nat → Nat
  | 0, _, _ => 0
  | k + 1, x, y => (if bitP kind x y = true then 1 else 0) + 2 * bitsN kind k (x / 2) (y / 2)
theorem bitsN_succ (kind : Int) (k x y : Nat) : bitsN kind (k + 1) x y = (if bitP kind x y = true then 1 else 0) + 2 * bitsN kind k (x / 2) (y / 2) := rfl
theorem mod_two_pow (z k : Nat) : z % 2 ^ (k + 1) = z % 2 + 2 * ((z / 2) % 2 ^ k) := by
  rw [Nat.pow_succ, Nat.mul_comm, Nat.mod_mul]
theorem bitsN_lt (kind : Int) : ∀ (k x y : Nat), bitsN kind k x y < 2 ^ k
  | 0, _, _ => by simp [bitsN]
  | k + 1, x, y => by
    rw [bitsN_succ, Nat.pow_succ]
    have := bitsN_lt kind k (x / 2) (y / 2)
    split <;> omega
theorem bitsN_and : ∀ (k x y : Nat), bitsN 6 k x y = (x &&& y) % 2 ^ k
  | 0, x, y => by simp [bitsN, Nat.mod_one]
  | k + 1, x, y => by
    rw [bitsN_succ, mod_two_pow, bitsN_and k (x / 2) (y / 2), ← Nat.and_div_two]
    congr 1
    have := @Nat.and_mod_two_eq_one x y
    rw [bitP6]
    simp only [decide_eq_true_eq]
    split <;> omega
theorem bitsN_or : ∀ (k x y : Nat), bitsN 7 k x y = (x ||| y) % 2 ^ k
  | 0, x, y => by simp [bitsN, Nat.mod_one]
  | k + 1, x, y => by
    rw [bitsN_succ, mod_two_pow, bitsN_or k (x / 2) (y / 2), ← Nat.or_div_two]
    congr 1
    have := @Nat.or_mod_two_eq_one x y
    rw [bitP7]
    simp only [decide_eq_true_eq]
    split <;> omega
theorem bitsN_xor : ∀ (k x y : Nat), bitsN 8 k x y = (x ^^^ y) % 2 ^ k
  | 0, x, y => by simp [bitsN, Nat.mod_one]
  | k + 1, x, y => by
    rw [bitsN_succ, mod_two_pow, bitsN_xor k (x / 2) (y / 2), ← Nat.xor_div_two]
    congr 1
    have := @Nat.xor_mod_two_eq_one x y
    rw [bitP8]
    simp only [decide_eq_true_eq]
    split <;> omega
/-- A word from 0 on. -/
def upW (a : Int) : Nat := (a % 4294967296).toNat
theorem upW_of (a : Int) (h : -2147483648 ≤ a) (h' : a ≤ 2147483647) : (upW a : Int) = if a < 0 then a + 4294967296 else a := by unfold upW; split <;> omega
theorem upW_lt (a : Int) : upW a < 4294967296 := by unfold upW; omega

theorem ofInt64 (a : Int) : (BitVec.ofInt 64 a).toNat % 4294967296 = upW a := by
  rw [BitVec.toNat_ofInt]
  unfold upW
  have : ((2 ^ 64 : Nat) : Int) = 18446744073709551616 := by decide
  rw [this]
  omega
theorem wrap_nat (z u : Nat) (h : z % 4294967296 = u) : wrapW (IntKind.i64.wrap (z : Int)) = wrapW (u : Int) := by
  rw [IntKind.wrap_i64]
  subst h
  unfold wrapW
  omega
theorem w_and (a b : Int) : wrapW (bits .and .i64 a b) = wrapW (bitsN 6 32 (upW a) (upW b)) := by
  show wrapW (IntKind.i64.wrap (((BitVec.ofInt 64 a &&& BitVec.ofInt 64 b).toNat : Nat) : Int)) = _
  refine wrap_nat _ _ ?_
  rw [BitVec.toNat_and, bitsN_and, show (4294967296 : Nat) = 2 ^ 32 by decide, Nat.and_mod_two_pow, ← ofInt64 a, ← ofInt64 b, show (4294967296 : Nat) = 2 ^ 32 by decide, ← Nat.and_mod_two_pow, Nat.mod_mod]
theorem w_or (a b : Int) : wrapW (bits .or .i64 a b) = wrapW (bitsN 7 32 (upW a) (upW b)) := by
  show wrapW (IntKind.i64.wrap (((BitVec.ofInt 64 a ||| BitVec.ofInt 64 b).toNat : Nat) : Int)) = _
  refine wrap_nat _ _ ?_
  rw [BitVec.toNat_or, bitsN_or, show (4294967296 : Nat) = 2 ^ 32 by decide, Nat.or_mod_two_pow, ← ofInt64 a, ← ofInt64 b, show (4294967296 : Nat) = 2 ^ 32 by decide, ← Nat.or_mod_two_pow, Nat.mod_mod]
theorem w_xor (a b : Int) : wrapW (bits .xor .i64 a b) = wrapW (bitsN 8 32 (upW a) (upW b)) := by
  show wrapW (IntKind.i64.wrap (((BitVec.ofInt 64 a ^^^ BitVec.ofInt 64 b).toNat : Nat) : Int)) = _
  refine wrap_nat _ _ ?_
  rw [BitVec.toNat_xor, bitsN_xor, show (4294967296 : Nat) = 2 ^ 32 by decide, Nat.xor_mod_two_pow, ← ofInt64 a, ← ofInt64 b, show (4294967296 : Nat) = 2 ^ 32 by decide, ← Nat.xor_mod_two_pow, Nat.mod_mod]
theorem and31 (b : Int) : bits .and .i64 b 31 = b % 32 := by
  show IntKind.i64.wrap (((BitVec.ofInt 64 b &&& BitVec.ofInt 64 31).toNat : Nat) : Int) = _
  have e : (BitVec.ofInt 64 b &&& BitVec.ofInt 64 31).toNat = (b % 32).toNat := by
    rw [BitVec.toNat_and, show (BitVec.ofInt 64 31).toNat = 2 ^ 5 - 1 by decide, Nat.and_two_pow_sub_one_eq_mod, BitVec.toNat_ofInt]
    have : ((2 ^ 64 : Nat) : Int) = 18446744073709551616 := by decide
    rw [this]
    omega
  rw [e, IntKind.wrap_i64]
  omega
theorem up31 (b : Int) : ((upW b : Nat) : Int) % 32 = b % 32 := by unfold upW; omega
theorem xor_all (a : Int) (h : -2147483648 ≤ a) (h' : a ≤ 2147483647) : bits .xor .i64 (-1) a = -1 - a := by
  show IntKind.i64.wrap (((BitVec.ofInt 64 (-1) ^^^ BitVec.ofInt 64 a).toNat : Nat) : Int) = _
  have e : (BitVec.ofInt 64 (-1) ^^^ BitVec.ofInt 64 a) = ~~~(BitVec.ofInt 64 a) := by
    rw [show BitVec.ofInt 64 (-1) = BitVec.allOnes 64 by decide, BitVec.xor_comm, BitVec.xor_allOnes]
  rw [e, BitVec.toNat_not, BitVec.toNat_ofInt, IntKind.wrap_i64]
  have : ((2 ^ 64 : Nat) : Int) = 18446744073709551616 := by decide
  rw [this]
  omega

/- Bits moved, one at a time. -/
def stepM (down : Bool) (a : Int) : Int := if down = true then a / 2 else wrapW (2 * a)
def moveM (down : Bool) : Nat → Int → Int
  | 0, a => a
  | k + 1, a => moveM down k (stepM down a)
theorem moveM_succ (down : Bool) (k : Nat) (a : Int) : moveM down (k + 1) a = moveM down k (stepM down a) := rfl
theorem moveM_down : ∀ (k : Nat) (a : Int), moveM true k a = a / 2 ^ k
  | 0, a => by simp [moveM]
  | k + 1, a => by
    rw [moveM_succ, moveM_down k]
    show a / 2 / 2 ^ k = _
    rw [Int.ediv_ediv_of_nonneg (by omega), Int.pow_succ, Int.mul_comm]
theorem moveM_up : ∀ (k : Nat) (a : Int), -2147483648 ≤ a → a ≤ 2147483647 → moveM false k a = wrapW (a * 2 ^ k)
  | 0, a, h, h' => by
    show a = _
    rw [Int.pow_zero, Int.mul_one, wrapW_id a h h']
  | k + 1, a, h, h' => by
    rw [moveM_succ, show stepM false a = wrapW (2 * a) from rfl, moveM_up k _ (wrapW_fine _).1 (wrapW_fine _).2]
    show wrapW (wrapW (2 * a) * 2 ^ k) = _
    obtain ⟨j, hj⟩ := wrapW_off (2 * a)
    rw [hj, Int.add_mul, Int.mul_assoc 4294967296, wrapW_add, Int.pow_succ, Int.mul_comm 2 a, Int.mul_assoc, Int.mul_comm 2]
theorem moveM_fine (down : Bool) : ∀ (k : Nat) (a : Int), -2147483648 ≤ a → a ≤ 2147483647 → -2147483648 ≤ moveM down k a ∧ moveM down k a ≤ 2147483647
  | 0, a, h, h' => ⟨h, h'⟩
  | k + 1, a, h, h' => by
    rw [moveM_succ]
    have e : -2147483648 ≤ stepM down a ∧ stepM down a ≤ 2147483647 := by
      unfold stepM
      split
      · omega
      · exact wrapW_fine _
    exact moveM_fine down k _ e.1 e.2

/- What two words come to, ahead of wrapping, and behind it. -/
def rawV (op a b : Int) : Int :=
  if op = 1 then a + b else if op = 2 then a - b else if op = 3 then a * b else if op = 4 then a.tdiv b else if op = 5 then a.tmod b
  else if op = 6 then bits .and .i64 a b else if op = 7 then bits .or .i64 a b else if op = 8 then bits .xor .i64 a b
  else if op = 9 then a * 2 ^ (b % 32).toNat else if op = 10 then a / 2 ^ (b % 32).toNat
  else if op = 11 then (if a < b then 1 else 0) else (if a = b then 1 else 0)
def doV (op a b : Int) : Int := if 1 ≤ op ∧ op ≤ 12 then (if fineW a = true ∧ fineW b = true then (if b = 0 ∧ (op = 4 ∨ op = 5) then 0 else wrapW (rawV op a b)) else 0) else 0
def doE (op a b : Int) : Int := if 1 ≤ op ∧ op ≤ 12 then (if fineW a = true ∧ fineW b = true then (if b = 0 ∧ (op = 4 ∨ op = 5) then 16 else 0) else 8) else 1
def oneE (a : Int) : Int := if fineW a = true then 0 else 8
theorem oneE_of (a : Int) (h : fineW a = true) : oneE a = 0 := if_pos h
theorem oneE_no (a : Int) (h : fineW a = false) : oneE a = 8 := if_neg (by rw [h]; decide)
end Go.Proofs.YtajbpplklmhfmaaDoor
