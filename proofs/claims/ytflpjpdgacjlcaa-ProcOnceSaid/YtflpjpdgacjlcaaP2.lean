/- Digits as plain functions on lists of bytes: what a text of digits is, its number, and a number's own text. No model. Words as plain functions on numbers: what is a word, what a number is wrapped, what two words come to, and the laws between them. No model. What the document says of handles, as plain functions on numbers and lists of bytes, and the laws between them. The contracts of the document's answers for handle.Make, Fine, Slot, Gen: each gives the plain function's value, and leaves memory as it was or only grown. The contracts of handle.Make, Fine, Slot, Gen each gives the plain function's value, and leaves memory as it was or only grown. The contract of package word's Fine. The contract of the document's Fine. -/
import Derived.Lib.ItoaNum
import Derived.IntWalk
import Derived.Laws.Entries
import Derived.RowKit
import Derived.Test.YtflpjpdgacjlcaaRows
import Derived.Test.YtflpjpdgacjlcaaP1
import Derived.WalkKit
import Derived.WalkSpells
import Derived.WalkLawsBesides
import Derived.BigQuiet
import Derived.Deep.QuietTactic
import Derived.Lib.Hide
namespace Go.Proofs.Ytflpjpdgacjlcaa

def isDig (c : UInt8) : Bool := decide (48 ≤ c.toNat ∧ c.toNat ≤ 57)
def plainB (l : List UInt8) : Bool := !l.isEmpty && (!(l.headD 0 == 48 && decide (1 < l.length)) && l.all isDig)
def numF (C : Int) (n : Int) (c : UInt8) : Int := min (10 * n + ((c.toNat : Int) - 48)) C
def numV (C : Int) (n : Int) (l : List UInt8) : Int := l.foldl (numF C) n
def plainV (l : List UInt8) : Int := if plainB l = true then numV 1000000000 0 l else 0
/-- The number of a list of digits behind those that come to n. -/
def numN (n : Nat) (l : List UInt8) : Nat := l.foldl (fun a c => 10 * a + (c.toNat - 48)) n

theorem isDig_iff (c : UInt8) : isDig c = true ↔ 48 ≤ c.toNat ∧ c.toNat ≤ 57 := by unfold isDig; exact decide_eq_true_iff
theorem numN_nil (n : Nat) : numN n [] = n := rfl
theorem numN_cons (n : Nat) (c : UInt8) (l : List UInt8) : numN n (c :: l) = numN (10 * n + (c.toNat - 48)) l := by unfold numN; rw [List.foldl_cons]
theorem numN_app (n : Nat) (a b : List UInt8) : numN n (a ++ b) = numN (numN n a) b := by unfold numN; rw [List.foldl_append]
theorem numN_le : ∀ (l : List UInt8) (n : Nat), n * 10 ^ l.length ≤ numN n l
  | [], n => by simp [numN]
  | c :: l, n => by
    rw [numN_cons]
    have h := numN_le l (10 * n + (c.toNat - 48))
    refine Nat.le_trans ?_ h
    rw [List.length_cons, Nat.pow_succ, Nat.mul_comm (10 ^ l.length), ← Nat.mul_assoc]
    exact Nat.mul_le_mul_right _ (by omega)
theorem numN_ge (l : List UInt8) (n : Nat) : n ≤ numN n l := Nat.le_trans (Nat.le_mul_of_pos_right n (Nat.pow_pos (by omega))) (numN_le l n)
theorem numN_lt : ∀ (l : List UInt8) (n : Nat), l.all isDig = true → numN n l < (n + 1) * 10 ^ l.length
  | [], n, _ => by simp [numN]
  | c :: l, n, h => by
    rw [List.all_cons, Bool.and_eq_true] at h
    have hc := (isDig_iff c).1 h.1
    rw [numN_cons]
    have h2 := numN_lt l (10 * n + (c.toNat - 48)) h.2
    refine Nat.lt_of_lt_of_le h2 ?_
    rw [List.length_cons, Nat.pow_succ, Nat.mul_comm (10 ^ l.length), ← Nat.mul_assoc]
    exact Nat.mul_le_mul_right _ (by omega)

theorem plain_all (l : List UInt8) (h : plainB l = true) : l.all isDig = true := by
  unfold plainB at h
  rw [Bool.and_eq_true, Bool.and_eq_true] at h
  exact h.2.2
theorem plain_ne (l : List UInt8) (h : plainB l = true) : l.isEmpty = false := by
  unfold plainB at h
  rw [Bool.and_eq_true] at h
  simpa using h.1
theorem plainV_of (l : List UInt8) (h : plainB l = true) : plainV l = numV 1000000000 0 l := if_pos h
theorem plainV_no (l : List UInt8) (h : plainB l = false) : plainV l = 0 := if_neg (by rw [h]; decide)
theorem plain_nil : plainB [] = false := rfl
theorem plain_zero (l : List UInt8) (h : (l.headD 0 == 48) = true) (h1 : 1 < l.length) : plainB l = false := by
  unfold plainB
  rw [h, decide_eq_true h1]
  simp
theorem plain_else (l : List UInt8) (h0 : l ≠ []) (h : (l.headD 0 == 48) = false ∨ l.length = 1) : plainB l = l.all isDig := by
  unfold plainB
  have e : l.isEmpty = false := by
    cases l with
    | nil => exact absurd rfl h0
    | cons c l => rfl
  rw [e]
  rcases h with h | h
  · rw [h]; simp
  · rw [h]; simp
theorem numV_app (C n : Int) (a b : List UInt8) : numV C n (a ++ b) = numV C (numV C n a) b := by unfold numV; rw [List.foldl_append]
theorem numV_bd : ∀ (l : List UInt8) (n : Int), 0 ≤ n → n ≤ 1000000000 → l.all isDig = true → 0 ≤ numV 1000000000 n l ∧ numV 1000000000 n l ≤ 1000000000
  | [], n, h, h', _ => ⟨h, h'⟩
  | c :: l, n, h, h', ha => by
    rw [List.all_cons, Bool.and_eq_true] at ha
    have hc := (isDig_iff c).1 ha.1
    exact numV_bd l (numF 1000000000 n c) (by unfold numF; omega) (by unfold numF; omega) ha.2
theorem take_snoc (s : ByteArray) (k : Nat) (h : k < s.size) : s.data.toList.take (k + 1) = s.data.toList.take k ++ [s[k]] := by
  rw [List.take_succ_eq_append_getElem (by simpa using h)]; rfl
theorem drop_cons (s : ByteArray) (k : Nat) (h : k < s.size) : s.data.toList.drop k = s[k] :: s.data.toList.drop (k + 1) := by
  rw [List.drop_eq_getElem_cons (by simpa using h)]; rfl

/- A number's text. -/
theorem dg_len : ∀ (k n : Nat), n < 10 ^ (k + 1) → (Lib.decDigits n).length ≤ k + 1
  | 0, n, h => by
    rw [Lib.decDigits, dif_pos (by simpa using h)]
    simp
  | k + 1, n, h => by
    rw [Lib.decDigits]
    split
    · simp
    · rw [List.length_append]
      have := dg_len k (n / 10) (by rw [Nat.pow_succ] at h; omega)
      simp
      omega
theorem dg_len10 (n : Nat) (h : n ≤ 4294967295) : (Lib.decDigits n).length ≤ 10 := dg_len 9 n (by omega)
theorem dg_step (m : Nat) (h : 9 < m) (acc : List UInt8) : Lib.decDigits (m / 10) ++ (UInt8.ofNat (48 + m % 10) :: acc) = Lib.decDigits m ++ acc := by
  conv => rhs; rw [Lib.decDigits, dif_neg (by omega)]
  simp
theorem dg_last (m : Nat) (h : ¬ 9 < m) (acc : List UInt8) : UInt8.ofNat (48 + m) :: acc = Lib.decDigits m ++ acc := by
  rw [Lib.decDigits, dif_pos (by omega)]
  simp
theorem dg_byte (d : Nat) (h : d < 10) : (UInt8.ofNat (48 + d)).toNat = 48 + d := by
  rw [UInt8.toNat_ofNat']
  omega
theorem dg_all (n : Nat) : (Lib.decDigits n).all isDig = true := by
  induction n using Nat.strongRecOn with
  | _ n ih =>
    rw [Lib.decDigits]
    split
    · have := dg_byte n (by omega)
      simp only [List.all_cons, List.all_nil, Bool.and_true]
      rw [isDig_iff]
      omega
    · rw [List.all_append, ih (n / 10) (by omega)]
      have := dg_byte (n % 10) (by omega)
      simp only [List.all_cons, List.all_nil, Bool.and_true, Bool.true_and]
      rw [isDig_iff]
      omega
theorem dg_num (n : Nat) : numN 0 (Lib.decDigits n) = n := by
  induction n using Nat.strongRecOn with
  | _ n ih =>
    rw [Lib.decDigits]
    split
    · have := dg_byte n (by omega)
      rw [numN_cons, numN_nil]
      omega
    · rw [numN_app, ih (n / 10) (by omega)]
      have := dg_byte (n % 10) (by omega)
      rw [numN_cons, numN_nil]
      omega
theorem dg_ne (n : Nat) : Lib.decDigits n ≠ [] := by
  rw [Lib.decDigits]
  split <;> simp
theorem dg_head (n : Nat) (h : 1 ≤ n) : (Lib.decDigits n).headD 0 ≠ 48 := by
  induction n using Nat.strongRecOn with
  | _ n ih =>
    rw [Lib.decDigits]
    split
    · have := dg_byte n (by omega)
      intro e
      rw [List.headD_cons] at e
      rw [e] at this
      have e48 : (48 : UInt8).toNat = 48 := rfl
      omega
    · have e := ih (n / 10) (by omega) (by omega)
      have hne := dg_ne (n / 10)
      cases hl : Lib.decDigits (n / 10) with
      | nil => exact absurd hl hne
      | cons c l => rw [hl] at e; simpa using e
theorem dg_one (n : Nat) (h : n < 10) : (Lib.decDigits n).length = 1 := by
  rw [Lib.decDigits, dif_pos (by omega)]
  rfl
theorem dg_plain (n : Nat) : plainB (Lib.decDigits n) = true := by
  rw [plain_else _ (dg_ne n)]
  · exact dg_all n
  · by_cases h : 1 ≤ n
    · exact .inl (by simpa using dg_head n h)
    · exact .inr (dg_one n (by omega))
end Go.Proofs.Ytflpjpdgacjlcaa

namespace Go.Proofs.Ytflpjpdgacjlcaa
open Go

def fineW (n : Int) : Bool := decide (-2147483648 ≤ n ∧ n ≤ 2147483647)
def wrapW (n : Int) : Int := (n + 2147483648) % 4294967296 - 2147483648
theorem fineW_iff (n : Int) : fineW n = true ↔ -2147483648 ≤ n ∧ n ≤ 2147483647 := by unfold fineW; exact decide_eq_true_iff
theorem fineW_of (n : Int) (a : -2147483648 ≤ n) (b : n ≤ 2147483647) : fineW n = true := (fineW_iff n).2 ⟨a, b⟩
theorem fineW_no (n : Int) (a : n < -2147483648 ∨ 2147483647 < n) : fineW n = false := by
  cases e : fineW n
  · rfl
  · rw [fineW_iff] at e; omega
theorem fineW_not (n : Int) (e : fineW n = false) : n < -2147483648 ∨ 2147483647 < n := by
  rcases Int.lt_or_le n (-2147483648) with a | a
  · exact .inl a
  · rcases Int.lt_or_le 2147483647 n with b | b
    · exact .inr b
    · rw [fineW_of n a b] at e; cases e
theorem wrapW_fine (n : Int) : -2147483648 ≤ wrapW n ∧ wrapW n ≤ 2147483647 := by unfold wrapW; omega
theorem wrapW_id (n : Int) (a : -2147483648 ≤ n) (b : n ≤ 2147483647) : wrapW n = n := by unfold wrapW; omega
theorem wrapW_add (n k : Int) : wrapW (n + 4294967296 * k) = wrapW n := by unfold wrapW; omega
theorem wrapW_off (n : Int) : ∃ k : Int, wrapW n = n + 4294967296 * k := ⟨-((n + 2147483648) / 4294967296), by unfold wrapW; omega⟩
theorem wrapW_64 (n : Int) : wrapW (RowKit.wrap64 n) = wrapW n := by unfold wrapW RowKit.wrap64; omega
/-- Two numbers that leave the same are wrapped alike. -/
theorem wrapW_eq (a b : Int) (h : a % 4294967296 = b % 4294967296) : wrapW a = wrapW b := by unfold wrapW; omega
/-- The document's way to wrap. -/
theorem wrapW_rem (n m : Int) (h : m = n.tmod 4294967296) : wrapW n = if 2147483647 < (if m < 0 then m + 4294967296 else m) then (if m < 0 then m + 4294967296 else m) - 4294967296 else (if m < 0 then m + 4294967296 else m) := by
  subst h
  unfold wrapW
  rcases Int.lt_or_le n 0 with a | a
  · have e : (-n).tmod 4294967296 = -(n.tmod 4294967296) := Int.neg_tmod n 4294967296
    have p : (-n).tmod 4294967296 = (-n) % 4294967296 := Int.tmod_eq_emod_of_nonneg (by omega)
    have q : n.tmod 4294967296 = -((-n) % 4294967296) := by omega
    rw [q]
    split <;> split <;> omega
  · have p : n.tmod 4294967296 = n % 4294967296 := Int.tmod_eq_emod_of_nonneg a
    rw [p]
    split <;> split <;> omega

/- Bit by bit. -/
def bitP (kind : Int) (x y : Nat) : Bool := if kind = 7 then decide (0 < x % 2 + y % 2) else if kind = 8 then decide (x % 2 + y % 2 = 1) else decide (x % 2 + y % 2 = 2)
theorem bitP6 (x y : Nat) : bitP 6 x y = decide (x % 2 + y % 2 = 2) := by unfold bitP; rw [if_neg (by decide), if_neg (by decide)]
theorem bitP7 (x y : Nat) : bitP 7 x y = decide (0 < x % 2 + y % 2) := by unfold bitP; rw [if_pos rfl]
theorem bitP8 (x y : Nat) : bitP 8 x y = decide (x % 2 + y % 2 = 1) := by unfold bitP; rw [if_neg (by decide), if_pos rfl]
def bitsN (kind : Int) : Nat → Nat → Nat → Nat
  | 0, _, _ => 0
  | k + 1, x, y => (if bitP kind x y = true then 1 else 0) + 2 * bitsN kind k (x / 2) (y / 2)
theorem bitsN_succ (kind : Int) (k x y : Nat) : bitsN kind (k + 1) x y = (if bitP kind x y = true then 1 else 0) + 2 * bitsN kind k (x / 2) (y / 2) := rfl
theorem mod_two_pow (z k : Nat) : z % 2 ^ (k + 1) = z % 2 + 2 * ((z / 2) % 2 ^ k) := by
  rw [Nat.pow_succ, Nat.mul_comm, Nat.mod_mul]
theorem bitsN_lt (kind : Int) : ∀ (k x y : Nat), bitsN kind k x y < 2 ^ k
  | 0, _, _ => by simp [bitsN]
  | k + 1, x, y => by
    rw [bitsN_succ, Nat.pow_succ]
    have := bitsN_lt kind k (x / 2) (y / 2)
    split <;> omega
theorem bitsN_and : ∀ (k x y : Nat), bitsN 6 k x y = (x &&& y) % 2 ^ k
  | 0, x, y => by simp [bitsN, Nat.mod_one]
  | k + 1, x, y => by
    rw [bitsN_succ, mod_two_pow, bitsN_and k (x / 2) (y / 2), ← Nat.and_div_two]
    congr 1
    have := @Nat.and_mod_two_eq_one x y
    rw [bitP6]
    simp only [decide_eq_true_eq]
    split <;> omega
theorem bitsN_or : ∀ (k x y : Nat), bitsN 7 k x y = (x ||| y) % 2 ^ k
  | 0, x, y => by simp [bitsN, Nat.mod_one]
  | k + 1, x, y => by
    rw [bitsN_succ, mod_two_pow, bitsN_or k (x / 2) (y / 2), ← Nat.or_div_two]
    congr 1
    have := @Nat.or_mod_two_eq_one x y
    rw [bitP7]
    simp only [decide_eq_true_eq]
    split <;> omega
theorem bitsN_xor : ∀ (k x y : Nat), bitsN 8 k x y = (x ^^^ y) % 2 ^ k
  | 0, x, y => by simp [bitsN, Nat.mod_one]
  | k + 1, x, y => by
    rw [bitsN_succ, mod_two_pow, bitsN_xor k (x / 2) (y / 2), ← Nat.xor_div_two]
    congr 1
    have := @Nat.xor_mod_two_eq_one x y
    rw [bitP8]
    simp only [decide_eq_true_eq]
    split <;> omega
/-- A word from 0 on. -/
def upW (a : Int) : Nat := (a % 4294967296).toNat
theorem upW_of (a : Int) (h : -2147483648 ≤ a) (h' : a ≤ 2147483647) : (upW a : Int) = if a < 0 then a + 4294967296 else a := by unfold upW; split <;> omega
theorem upW_lt (a : Int) : upW a < 4294967296 := by unfold upW; omega

theorem ofInt64 (a : Int) : (BitVec.ofInt 64 a).toNat % 4294967296 = upW a := by
  rw [BitVec.toNat_ofInt]
  unfold upW
  have : ((2 ^ 64 : Nat) : Int) = 18446744073709551616 := by decide
  rw [this]
  omega
theorem wrap_nat (z u : Nat) (h : z % 4294967296 = u) : wrapW (IntKind.i64.wrap (z : Int)) = wrapW (u : Int) := by
  rw [IntKind.wrap_i64]
  subst h
  unfold wrapW
  omega
theorem w_and (a b : Int) : wrapW (bits .and .i64 a b) = wrapW (bitsN 6 32 (upW a) (upW b)) := by
  show wrapW (IntKind.i64.wrap (((BitVec.ofInt 64 a &&& BitVec.ofInt 64 b).toNat : Nat) : Int)) = _
  refine wrap_nat _ _ ?_
  rw [BitVec.toNat_and, bitsN_and, show (4294967296 : Nat) = 2 ^ 32 by decide, Nat.and_mod_two_pow, ← ofInt64 a, ← ofInt64 b, show (4294967296 : Nat) = 2 ^ 32 by decide, ← Nat.and_mod_two_pow, Nat.mod_mod]
theorem w_or (a b : Int) : wrapW (bits .or .i64 a b) = wrapW (bitsN 7 32 (upW a) (upW b)) := by
  show wrapW (IntKind.i64.wrap (((BitVec.ofInt 64 a ||| BitVec.ofInt 64 b).toNat : Nat) : Int)) = _
  refine wrap_nat _ _ ?_
  rw [BitVec.toNat_or, bitsN_or, show (4294967296 : Nat) = 2 ^ 32 by decide, Nat.or_mod_two_pow, ← ofInt64 a, ← ofInt64 b, show (4294967296 : Nat) = 2 ^ 32 by decide, ← Nat.or_mod_two_pow, Nat.mod_mod]
theorem w_xor (a b : Int) : wrapW (bits .xor .i64 a b) = wrapW (bitsN 8 32 (upW a) (upW b)) := by
  show wrapW (IntKind.i64.wrap (((BitVec.ofInt 64 a ^^^ BitVec.ofInt 64 b).toNat : Nat) : Int)) = _
  refine wrap_nat _ _ ?_
  rw [BitVec.toNat_xor, bitsN_xor, show (4294967296 : Nat) = 2 ^ 32 by decide, Nat.xor_mod_two_pow, ← ofInt64 a, ← ofInt64 b, show (4294967296 : Nat) = 2 ^ 32 by decide, ← Nat.xor_mod_two_pow, Nat.mod_mod]
theorem and31 (b : Int) : bits .and .i64 b 31 = b % 32 := by
  show IntKind.i64.wrap (((BitVec.ofInt 64 b &&& BitVec.ofInt 64 31).toNat : Nat) : Int) = _
  have e : (BitVec.ofInt 64 b &&& BitVec.ofInt 64 31).toNat = (b % 32).toNat := by
    rw [BitVec.toNat_and, show (BitVec.ofInt 64 31).toNat = 2 ^ 5 - 1 by decide, Nat.and_two_pow_sub_one_eq_mod, BitVec.toNat_ofInt]
    have : ((2 ^ 64 : Nat) : Int) = 18446744073709551616 := by decide
    rw [this]
    omega
  rw [e, IntKind.wrap_i64]
  omega
theorem up31 (b : Int) : ((upW b : Nat) : Int) % 32 = b % 32 := by unfold upW; omega
theorem xor_all (a : Int) (h : -2147483648 ≤ a) (h' : a ≤ 2147483647) : bits .xor .i64 (-1) a = -1 - a := by
  show IntKind.i64.wrap (((BitVec.ofInt 64 (-1) ^^^ BitVec.ofInt 64 a).toNat : Nat) : Int) = _
  have e : (BitVec.ofInt 64 (-1) ^^^ BitVec.ofInt 64 a) = ~~~(BitVec.ofInt 64 a) := by
    rw [show BitVec.ofInt 64 (-1) = BitVec.allOnes 64 by decide, BitVec.xor_comm, BitVec.xor_allOnes]
  rw [e, BitVec.toNat_not, BitVec.toNat_ofInt, IntKind.wrap_i64]
  have : ((2 ^ 64 : Nat) : Int) = 18446744073709551616 := by decide
  rw [this]
  omega

/- Bits moved, one at a time. -/
def stepM (down : Bool) (a : Int) : Int := if down = true then a / 2 else wrapW (2 * a)
def moveM (down : Bool) : Nat → Int → Int
  | 0, a => a
  | k + 1, a => moveM down k (stepM down a)
theorem moveM_succ (down : Bool) (k : Nat) (a : Int) : moveM down (k + 1) a = moveM down k (stepM down a) := rfl
theorem moveM_down : ∀ (k : Nat) (a : Int), moveM true k a = a / 2 ^ k
  | 0, a => by simp [moveM]
  | k + 1, a => by
    rw [moveM_succ, moveM_down k]
    show a / 2 / 2 ^ k = _
    rw [Int.ediv_ediv_of_nonneg (by omega), Int.pow_succ, Int.mul_comm]
theorem moveM_up : ∀ (k : Nat) (a : Int), -2147483648 ≤ a → a ≤ 2147483647 → moveM false k a = wrapW (a * 2 ^ k)
  | 0, a, h, h' => by
    show a = _
    rw [Int.pow_zero, Int.mul_one, wrapW_id a h h']
  | k + 1, a, h, h' => by
    rw [moveM_succ, show stepM false a = wrapW (2 * a) from rfl, moveM_up k _ (wrapW_fine _).1 (wrapW_fine _).2]
    show wrapW (wrapW (2 * a) * 2 ^ k) = _
    obtain ⟨j, hj⟩ := wrapW_off (2 * a)
    rw [hj, Int.add_mul, Int.mul_assoc 4294967296, wrapW_add, Int.pow_succ, Int.mul_comm 2 a, Int.mul_assoc, Int.mul_comm 2]
theorem moveM_fine (down : Bool) : ∀ (k : Nat) (a : Int), -2147483648 ≤ a → a ≤ 2147483647 → -2147483648 ≤ moveM down k a ∧ moveM down k a ≤ 2147483647
  | 0, a, h, h' => ⟨h, h'⟩
  | k + 1, a, h, h' => by
    rw [moveM_succ]
    have e : -2147483648 ≤ stepM down a ∧ stepM down a ≤ 2147483647 := by
      unfold stepM
      split
      · omega
      · exact wrapW_fine _
    exact moveM_fine down k _ e.1 e.2

/- What two words come to, ahead of wrapping, and behind it. -/
def rawV (op a b : Int) : Int :=
  if op = 1 then a + b else if op = 2 then a - b else if op = 3 then a * b else if op = 4 then a.tdiv b else if op = 5 then a.tmod b
  else if op = 6 then bits .and .i64 a b else if op = 7 then bits .or .i64 a b else if op = 8 then bits .xor .i64 a b
  else if op = 9 then a * 2 ^ (b % 32).toNat else if op = 10 then a / 2 ^ (b % 32).toNat
  else if op = 11 then (if a < b then 1 else 0) else (if a = b then 1 else 0)
def doV (op a b : Int) : Int := if 1 ≤ op ∧ op ≤ 12 then (if fineW a = true ∧ fineW b = true then (if b = 0 ∧ (op = 4 ∨ op = 5) then 0 else wrapW (rawV op a b)) else 0) else 0
def doE (op a b : Int) : Int := if 1 ≤ op ∧ op ≤ 12 then (if fineW a = true ∧ fineW b = true then (if b = 0 ∧ (op = 4 ∨ op = 5) then 16 else 0) else 8) else 1
def oneE (a : Int) : Int := if fineW a = true then 0 else 8
theorem oneE_of (a : Int) (h : fineW a = true) : oneE a = 0 := if_pos h
theorem oneE_no (a : Int) (h : fineW a = false) : oneE a = 8 := if_neg (by rw [h]; decide)
end Go.Proofs.Ytflpjpdgacjlcaa

namespace Go.Proofs.Ytflpjpdgacjlcaa

def fineB (h : Int) : Bool := decide (4096 ≤ h ∧ h ≤ 268435455)
def slotF (h : Int) : Int := if fineB h = true then h % 4096 else -1
def genF (h : Int) : Int := if fineB h = true then h / 4096 else 0
def madeB (s g : Int) : Bool := decide (0 ≤ s ∧ s ≤ 4095 ∧ 1 ≤ g ∧ g ≤ 65535)
def makeH (s g : Int) : Int := if madeB s g = true then 4096 * g + s else 0
def makeE (s g : Int) : Int := if madeB s g = true then 0 else 8
def nextH (h : Int) : Int := if fineB h = true then (if h / 4096 = 65535 then 0 else h + 4096) else 0
def nextE (h : Int) : Int := if fineB h = true then (if h / 4096 = 65535 then 14 else 0) else 8
def textL (h : Int) : List UInt8 := if fineB h = true then Lib.decDigits (h % 4096).toNat ++ 46 :: Lib.decDigits (h / 4096).toNat else []
def textE (h : Int) : Int := if fineB h = true then 0 else 8

theorem fine_iff (h : Int) : fineB h = true ↔ 4096 ≤ h ∧ h ≤ 268435455 := by unfold fineB; exact decide_eq_true_iff
theorem fine_of (h : Int) (a : 4096 ≤ h) (b : h ≤ 268435455) : fineB h = true := (fine_iff h).2 ⟨a, b⟩
theorem fine_no (h : Int) (a : h < 4096 ∨ 268435455 < h) : fineB h = false := by
  cases e : fineB h
  · rfl
  · rw [fine_iff] at e; omega
theorem fine_not (h : Int) (e : fineB h = false) : h < 4096 ∨ 268435455 < h := by
  rcases Int.lt_or_le h 4096 with a | a
  · exact .inl a
  · rcases Int.lt_or_le 268435455 h with b | b
    · exact .inr b
    · rw [fine_of h a b] at e; cases e
theorem made_iff (s g : Int) : madeB s g = true ↔ 0 ≤ s ∧ s ≤ 4095 ∧ 1 ≤ g ∧ g ≤ 65535 := by unfold madeB; exact decide_eq_true_iff
theorem made_of (s g : Int) (h : 0 ≤ s ∧ s ≤ 4095 ∧ 1 ≤ g ∧ g ≤ 65535) : madeB s g = true := (made_iff s g).2 h
theorem made_no (s g : Int) (h : s < 0 ∨ 4095 < s ∨ g < 1 ∨ 65535 < g) : madeB s g = false := by
  cases e : madeB s g
  · rfl
  · rw [made_iff] at e; omega
theorem makeH_of (s g : Int) (h : 0 ≤ s ∧ s ≤ 4095 ∧ 1 ≤ g ∧ g ≤ 65535) : makeH s g = 4096 * g + s := if_pos (made_of s g h)
theorem makeE_of (s g : Int) (h : 0 ≤ s ∧ s ≤ 4095 ∧ 1 ≤ g ∧ g ≤ 65535) : makeE s g = 0 := if_pos (made_of s g h)
theorem makeH_no (s g : Int) (h : s < 0 ∨ 4095 < s ∨ g < 1 ∨ 65535 < g) : makeH s g = 0 := if_neg (by rw [made_no s g h]; decide)
theorem makeE_no (s g : Int) (h : s < 0 ∨ 4095 < s ∨ g < 1 ∨ 65535 < g) : makeE s g = 8 := if_neg (by rw [made_no s g h]; decide)
theorem slotF_of (h : Int) (e : fineB h = true) : slotF h = h % 4096 := if_pos e
theorem slotF_no (h : Int) (e : fineB h = false) : slotF h = -1 := if_neg (by rw [e]; decide)
theorem genF_of (h : Int) (e : fineB h = true) : genF h = h / 4096 := if_pos e
theorem genF_no (h : Int) (e : fineB h = false) : genF h = 0 := if_neg (by rw [e]; decide)
theorem textL_of (h : Int) (e : fineB h = true) : textL h = Lib.decDigits (h % 4096).toNat ++ 46 :: Lib.decDigits (h / 4096).toNat := if_pos e
theorem textL_no (h : Int) (e : fineB h = false) : textL h = [] := if_neg (by rw [e]; decide)
theorem textE_of (h : Int) (e : fineB h = true) : textE h = 0 := if_pos e
theorem textE_no (h : Int) (e : fineB h = false) : textE h = 8 := if_neg (by rw [e]; decide)
theorem nextH_no (h : Int) (e : fineB h = false) : nextH h = 0 := if_neg (by rw [e]; decide)
theorem nextE_no (h : Int) (e : fineB h = false) : nextE h = 8 := if_neg (by rw [e]; decide)
theorem nextH_end (h : Int) (e : fineB h = true) (k : h / 4096 = 65535) : nextH h = 0 := by unfold nextH; rw [if_pos e, if_pos k]
theorem nextE_end (h : Int) (e : fineB h = true) (k : h / 4096 = 65535) : nextE h = 14 := by unfold nextE; rw [if_pos e, if_pos k]
theorem nextH_on (h : Int) (e : fineB h = true) (k : h / 4096 ≠ 65535) : nextH h = h + 4096 := by unfold nextH; rw [if_pos e, if_neg k]
theorem nextE_on (h : Int) (e : fineB h = true) (k : h / 4096 ≠ 65535) : nextE h = 0 := by unfold nextE; rw [if_pos e, if_neg k]

/- The quotient as Go makes it, where the handle is none. -/
theorem quo_low (h q : Int) (hq : q = h.tdiv 4096) (h1 : h < 4096) : q < 1 := by
  subst hq
  rcases Int.lt_or_le h 0 with a | a
  · have e : (-h).tdiv 4096 = -(h.tdiv 4096) := Int.neg_tdiv h 4096
    have p : (-h).tdiv 4096 = (-h) / 4096 := Int.tdiv_eq_ediv_of_nonneg (by omega)
    omega
  · have p : h.tdiv 4096 = h / 4096 := Int.tdiv_eq_ediv_of_nonneg a
    omega
theorem quo_high (h q : Int) (hq : q = h.tdiv 4096) (h1 : 268435455 < h) : 65535 < q := by
  subst hq
  have p : h.tdiv 4096 = h / 4096 := Int.tdiv_eq_ediv_of_nonneg (by omega)
  omega

theorem digits_len : ∀ (k n : Nat), n < 10 ^ (k + 1) → (Lib.decDigits n).length ≤ k + 1
  | 0, n, h => by
    rw [Lib.decDigits, dif_pos (by simpa using h)]
    simp
  | k + 1, n, h => by
    rw [Lib.decDigits]
    split
    · simp
    · rw [List.length_append]
      have := digits_len k (n / 10) (by rw [Nat.pow_succ] at h; omega)
      simp
      omega
theorem digits_len20 (n : Nat) (h : n ≤ 1000000000) : (Lib.decDigits n).length ≤ 10 := digits_len 9 n (by omega)
theorem digits_step (m : Nat) (h : 9 < m) (acc : List UInt8) : Lib.decDigits (m / 10) ++ (UInt8.ofNat (48 + m % 10) :: acc) = Lib.decDigits m ++ acc := by
  conv => rhs; rw [Lib.decDigits, dif_neg (by omega)]
  simp
theorem digits_last (m : Nat) (h : ¬ 9 < m) (acc : List UInt8) : UInt8.ofNat (48 + m) :: acc = Lib.decDigits m ++ acc := by
  rw [Lib.decDigits, dif_pos (by omega)]
  simp
end Go.Proofs.Ytflpjpdgacjlcaa

namespace Go.Proofs.Ytflpjpdgacjlcaa
open Go.RowKit

set_option maxHeartbeats 400000 in
theorem c_rmake (s g : Int) (w : World) :
    Calls Try.prog 39 #[.int .i64 s, .int .i64 g] w fun e w' => e = .returned (.tuple #[.int .i64 (makeH s g), .int .i64 (makeE s g)]) ∧ w = w' := by
  by_cases h : 0 ≤ s ∧ s ≤ 4095 ∧ 1 ≤ g ∧ g ≤ 65535
  · rw [makeH_of s g h, makeE_of s g h]
    obtain ⟨h0, h1, h2, h3⟩ := h
    go_enter Try.func39, Try.ntmps39
    go_wp2
    go_ret2
    exact ⟨rfl, rfl⟩
  · rw [makeH_no s g (by omega), makeE_no s g (by omega)]
    have hh : ¬ (0 ≤ s ∧ s ≤ 4095 ∧ 1 ≤ g ∧ g ≤ 65535) := h
    have H := Lib.hid hh
    clear h hh
    go_enter Try.func39, Try.ntmps39
    go_wp2
    all_goals first
      | (go_ret2; exact ⟨rfl, rfl⟩)
      | (exfalso; have := H.out; omega)

set_option maxHeartbeats 400000 in
theorem c_rfine (h : Int) (w : World) :
    Calls Try.prog 51 #[.int .i64 h] w fun e w' => e = .returned (.bool (fineB h)) ∧ w = w' := by
  cases hf : fineB h
  · have H := Lib.hid (fine_not h hf)
    clear hf
    go_enter Try.func51, Try.ntmps51
    go_wp2
    all_goals
      go_ret
      refine ⟨ret_bool ?_, rfl⟩
      have := H.out
      first
        | rfl
        | (rw [decide_eq_false_iff_not]; omega)
  · have hb := (fine_iff h).1 hf
    obtain ⟨h0, h1⟩ := hb
    clear hf
    go_enter Try.func51, Try.ntmps51
    go_wp2
    go_ret
    exact ⟨ret_bool (by first | rfl | (rw [decide_eq_true_iff]; omega)), rfl⟩

set_option maxHeartbeats 400000 in
theorem c_rslot (h : Int) (w : World) :
    Calls Try.prog 31 #[.int .i64 h] w fun e w' => e = .returned (.int .i64 (slotF h)) ∧ w = w' := by
  cases hf : fineB h
  · rw [slotF_no h hf]
    go_enter Try.func31, Try.ntmps31
    go_wp2_with (go_at_call 51; refine (c_rfine _ _).mono ?_; rintro e w' ⟨rfl, rfl⟩)
    go_ret
    exact ⟨rfl, rfl⟩
  · rw [slotF_of h hf]
    obtain ⟨h0, h1⟩ := (fine_iff h).1 hf
    go_enter Try.func31, Try.ntmps31
    go_wp2_with (go_at_call 51; refine (c_rfine _ _).mono ?_; rintro e w' ⟨rfl, rfl⟩)
    go_ret
    exact ⟨ret_int (by omega), rfl⟩



end Go.Proofs.Ytflpjpdgacjlcaa

namespace Go.Proofs.Ytflpjpdgacjlcaa
open Go.RowKit

/-- A number that an int holds. -/
def I64 (x : Int) : Prop := -9223372036854775808 ≤ x ∧ x ≤ 9223372036854775807

set_option maxHeartbeats 400000 in
theorem c_make (s g : Int) (w : World) :
    Calls Try.prog 56 #[.int .i64 s, .int .i64 g] w fun e w' => e = .returned (.tuple #[.int .i64 (makeH s g), .int .i64 (makeE s g)]) ∧ w = w' := by
  by_cases h : 0 ≤ s ∧ s ≤ 4095 ∧ 1 ≤ g ∧ g ≤ 65535
  · rw [makeH_of s g h, makeE_of s g h]
    obtain ⟨h0, h1, h2, h3⟩ := h
    go_enter Try.func56, Try.ntmps56
    go_wp2
    go_ret2
    exact ⟨rfl, rfl⟩
  · rw [makeH_no s g (by omega), makeE_no s g (by omega)]
    have hh : ¬ (0 ≤ s ∧ s ≤ 4095 ∧ 1 ≤ g ∧ g ≤ 65535) := h
    have H := Lib.hid hh
    clear h hh
    go_enter Try.func56, Try.ntmps56
    go_wp2
    all_goals first
      | (go_ret2; exact ⟨rfl, rfl⟩)
      | (exfalso; have := H.out; omega)

set_option maxHeartbeats 400000 in
theorem c_fine (h : Int) (hw : I64 h) (w : World) :
    Calls Try.prog 50 #[.int .i64 h] w fun e w' => e = .returned (.bool (fineB h)) ∧ w = w' := by
  cases hf : fineB h
  · have hq : wrap64 (h.tdiv 4096) < 1 ∨ 65535 < wrap64 (h.tdiv 4096) := by
      unfold I64 at hw
      have e : wrap64 (h.tdiv 4096) = h.tdiv 4096 := (IntWalk.i64_left _).symm.trans (IntWalk.i64_quo' h 4096 ⟨hw.1, hw.2, by omega⟩)
      rcases fine_not h hf with a | a
      · exact .inl (quo_low h _ e a)
      · exact .inr (quo_high h _ e a)
    have H := Lib.hid hq
    clear hq hf
    generalize hW : wrap64 (h.tdiv 4096) = q at H
    go_enter Try.func50, Try.ntmps50
    go_wp2
    all_goals
      go_ret
      refine ⟨ret_bool ?_, rfl⟩
      have := H.out
      first
        | rfl
        | (rw [decide_eq_false_iff_not]; omega)
  · have hb := (fine_iff h).1 hf
    obtain ⟨h0, h1⟩ := hb
    clear hf hw
    go_enter Try.func50, Try.ntmps50
    go_wp2
    go_ret
    exact ⟨ret_bool (by first | rfl | (rw [decide_eq_true_iff]; omega)), rfl⟩

set_option maxHeartbeats 400000 in
theorem c_slot (h : Int) (hw : I64 h) (w : World) :
    Calls Try.prog 29 #[.int .i64 h] w fun e w' => e = .returned (.int .i64 (slotF h)) ∧ w = w' := by
  cases hf : fineB h
  · rw [slotF_no h hf]
    have H := Lib.hid hw
    clear hw
    go_enter Try.func29, Try.ntmps29
    go_wp2_with (go_at_call 50; refine (c_fine _ H.out _).mono ?_; rintro e w' ⟨rfl, rfl⟩)
    go_ret
    exact ⟨rfl, rfl⟩
  · rw [slotF_of h hf]
    obtain ⟨h0, h1⟩ := (fine_iff h).1 hf
    have H := Lib.hid hw
    clear hw
    go_enter Try.func29, Try.ntmps29
    go_wp2_with (go_at_call 50; refine (c_fine _ H.out _).mono ?_; rintro e w' ⟨rfl, rfl⟩)
    go_ret
    exact ⟨rfl, rfl⟩

set_option maxHeartbeats 400000 in
theorem c_gen (h : Int) (hw : I64 h) (w : World) :
    Calls Try.prog 30 #[.int .i64 h] w fun e w' => e = .returned (.int .i64 (genF h)) ∧ w = w' := by
  cases hf : fineB h
  · rw [genF_no h hf]
    have H := Lib.hid hw
    clear hw
    go_enter Try.func30, Try.ntmps30
    go_wp2_with (go_at_call 50; refine (c_fine _ H.out _).mono ?_; rintro e w' ⟨rfl, rfl⟩)
    go_ret
    exact ⟨rfl, rfl⟩
  · rw [genF_of h hf]
    obtain ⟨h0, h1⟩ := (fine_iff h).1 hf
    have H := Lib.hid hw
    clear hw
    go_enter Try.func30, Try.ntmps30
    go_wp2_with (go_at_call 50; refine (c_fine _ H.out _).mono ?_; rintro e w' ⟨rfl, rfl⟩)
    go_ret
    exact ⟨rfl, rfl⟩

end Go.Proofs.Ytflpjpdgacjlcaa

namespace Go.Proofs.Ytflpjpdgacjlcaa
open Go.RowKit

set_option maxHeartbeats 400000 in
theorem c_wfine (a : Int) (w : World) :
    Calls Try.prog 57 #[.int .i64 a] w fun e w' => e = .returned (.bool (fineW a)) ∧ w = w' := by
  cases hf : fineW a
  · have H := Lib.hid (fineW_not a hf)
    clear hf
    go_enter Try.func57, Try.ntmps57
    go_wp2
    all_goals
      go_ret
      refine ⟨ret_bool ?_, rfl⟩
      have := H.out
      first
        | rfl
        | (rw [decide_eq_false_iff_not]; omega)
  · have hb := (fineW_iff a).1 hf
    obtain ⟨h0, h1⟩ := hb
    clear hf
    go_enter Try.func57, Try.ntmps57
    go_wp2
    go_ret
    exact ⟨ret_bool (by first | rfl | (rw [decide_eq_true_iff]; omega)), rfl⟩
end Go.Proofs.Ytflpjpdgacjlcaa

namespace Go.Proofs.Ytflpjpdgacjlcaa
open Go.RowKit

set_option maxHeartbeats 400000 in
theorem c_vfine (a : Int) (w : World) :
    Calls Try.prog 47 #[.int .i64 a] w fun e w' => e = .returned (.bool (fineW a)) ∧ w = w' := by
  cases hf : fineW a
  · have H := Lib.hid (fineW_not a hf)
    clear hf
    go_enter Try.func47, Try.ntmps47
    go_wp2
    all_goals
      go_ret
      refine ⟨ret_bool ?_, rfl⟩
      have := H.out
      first
        | rfl
        | (rw [decide_eq_false_iff_not]; omega)
  · have hb := (fineW_iff a).1 hf
    obtain ⟨h0, h1⟩ := hb
    clear hf
    go_enter Try.func47, Try.ntmps47
    go_wp2
    go_ret
    exact ⟨ret_bool (by first | rfl | (rw [decide_eq_true_iff]; omega)), rfl⟩
end Go.Proofs.Ytflpjpdgacjlcaa
