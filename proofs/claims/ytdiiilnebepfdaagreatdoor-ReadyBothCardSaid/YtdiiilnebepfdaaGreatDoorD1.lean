/- Plain maths: how many bits of a number are set, as the library reckons it; the lowest bit that is set. Plain maths: sets of ids as four words of 64 bits; their lists; the document's lists. The contract of the library's TrailingZeros64. The contracts of package bitset's Union, Inter, Less. Two sets compared, as the model does it. The contracts of package bitset's only, Sub. The contract of package bitset's All: a sequence that hands out the set's ids, rising, as long as it is asked to go on. The contracts of package bitset's List and Next: they range over All. The contract of package bitset's Next: it ranges over All till an id is not below the number. Package bitset's calls whose answers are letters: Sub, Next, Has. The contract of the document's Has (layer 4). The contract of the document's Of (layer 4). The contract of the document's Add (layer 4). The contract of the document's Drop (layer 4). The contract of the document's Less (layer 4). The contract of the document's Words: the numbers of a list's set. The document's sets (layer 4), of lists that are sets: their answers are sets' lists. -/
import Derived.Lib.TrailingZeros
import Derived.Test.YtdiiilnebepfdaaGreatDoorRows
import Derived.Test.YtdiiilnebepfdaaGreatDoorA1
import Derived.Lib.LaidTab
import Derived.Laws.Bits64b
import Derived.Laws.Bits128
import Derived.Laws.BitsAllLaws
import Derived.Laws.StructEq
import Derived.Lib.QuietBelow
import Derived.BigQuiet
import Derived.Deep.QuietTactic
import Derived.Deep.RegionHeld3
import Derived.RangeFuncNested
import Derived.RangeFuncBound
import Derived.RangeFuncCalls
import Derived.RangeFuncLeaves
import Derived.Shelf.Abstract
import Derived.Shelf.RegionOpen
import Derived.WalkKit
import Derived.OwnWalkIn
import Derived.TacticsInMore
import Derived.LoopNIn
import Derived.LoopIn
import Derived.Maps.AppendAt
import Derived.RangeFuncBox
import Derived.BigRegion
namespace Go.Proofs.YtdiiilnebepfdaaGreatDoor

/-- The bits of n below j that are set, rising. -/
def lowN (j n : Nat) : List Nat := (List.range j).filter n.testBit

theorem and_split (k a b c d : Nat) (hb : b < 2 ^ k) (hd : d < 2 ^ k) : (2 ^ k * a + b) &&& (2 ^ k * c + d) = 2 ^ k * (a &&& c) + (b &&& d) := by
  have h1 := Nat.div_add_mod ((2 ^ k * a + b) &&& (2 ^ k * c + d)) (2 ^ k)
  rw [Nat.and_div_two_pow, Nat.and_mod_two_pow] at h1
  have e1 : (2 ^ k * a + b) / 2 ^ k = a := by rw [Nat.mul_add_div (Nat.two_pow_pos k), Nat.div_eq_of_lt hb, Nat.add_zero]
  have e2 : (2 ^ k * c + d) / 2 ^ k = c := by rw [Nat.mul_add_div (Nat.two_pow_pos k), Nat.div_eq_of_lt hd, Nat.add_zero]
  have e3 : (2 ^ k * a + b) % 2 ^ k = b := by rw [Nat.mul_add_mod, Nat.mod_eq_of_lt hb]
  have e4 : (2 ^ k * c + d) % 2 ^ k = d := by rw [Nat.mul_add_mod, Nat.mod_eq_of_lt hd]
  rw [e1, e2, e3, e4] at h1
  exact h1.symm

/-- The lowest bit that is set, and what is left without it. -/
theorem low_next (n : Nat) (h0 : n ≠ 0) (h : n < 18446744073709551616) : Lib.ctz 64 n < 64 ∧ lowN 64 n = Lib.ctz 64 n :: lowN 64 (n &&& (n - 1)) := by
  obtain ⟨m, hm, hk⟩ := Lib.ctzFrom_spec 64 n (by omega) h
  have e : Lib.ctz 64 n = Lib.ctzFrom 64 n := by simp [Lib.ctz, h0]
  rw [e]
  generalize Lib.ctzFrom 64 n = z at hm hk
  refine ⟨hk, ?_⟩
  have hp := Nat.two_pow_pos z
  have e1 : n = 2 ^ (z + 1) * m + 2 ^ z := by rw [hm, Nat.pow_succ, Nat.mul_add, Nat.mul_one, ← Nat.mul_assoc]
  have e2 : n - 1 = 2 ^ (z + 1) * m + (2 ^ z - 1) := by omega
  have hlt : 2 ^ z < 2 ^ (z + 1) := by rw [Nat.pow_succ]; omega
  have e3 : n &&& (n - 1) = 2 ^ (z + 1) * m := by
    rw [e2]
    conv => lhs; lhs; rw [e1]
    rw [and_split _ _ _ _ _ hlt (by omega), Nat.and_self]
    have : 2 ^ z &&& (2 ^ z - 1) = 0 := by
      rw [Nat.and_two_pow_sub_one_eq_mod, Nat.mod_self]
    rw [this, Nat.add_zero]
  have hb : ∀ i, n.testBit i = if i < z + 1 then decide (i = z) else m.testBit (i - (z + 1)) := by
    intro i
    rw [e1, Nat.testBit_two_pow_mul_add _ hlt]
    split
    · rw [Nat.testBit_two_pow]
      simp [eq_comm]
    · rfl
  have hb2 : ∀ i, (2 ^ (z + 1) * m).testBit i = if i < z + 1 then false else m.testBit (i - (z + 1)) := by
    intro i
    have := Nat.testBit_two_pow_mul_add m (b := 0) (i := z + 1) (by omega) i
    rw [Nat.add_zero] at this
    rw [this]
    simp
  have e4 : 64 = (z + 1) + (63 - z) := by omega
  unfold lowN
  rw [e3, e4, List.range_add, List.filter_append, List.filter_append, List.range_succ, List.filter_append, List.filter_append]
  have f1 : ∀ p : Nat → Bool, (∀ i, i < z → p i = false) → (List.range z).filter p = [] := by
    intro p hp
    rw [List.filter_eq_nil_iff]
    intro i hi
    rw [hp i (List.mem_range.1 hi)]
    simp
  rw [f1 n.testBit (fun i hi => by rw [hb, if_pos (by omega)]; simp; omega), f1 (2 ^ (z + 1) * m).testBit (fun i hi => by rw [hb2, if_pos (by omega)])]
  have g1 : [z].filter n.testBit = [z] := by simp [hb]
  have g2 : [z].filter (2 ^ (z + 1) * m).testBit = [] := by simp [hb2]
  rw [g1, g2]
  simp only [List.nil_append, List.singleton_append]
  congr 1
  apply List.filter_congr
  intro i hi
  obtain ⟨j, _, rfl⟩ := List.mem_map.1 hi
  rw [hb, hb2, if_neg (by omega), if_neg (by omega)]
theorem low_zero (j : Nat) : lowN j 0 = [] := by simp [lowN]
theorem clr_lt (n : Nat) (h0 : n ≠ 0) : n &&& (n - 1) < n := by
  have := @Nat.and_le_right n (n - 1)
  omega
end Go.Proofs.YtdiiilnebepfdaaGreatDoor

namespace Go.Proofs.YtdiiilnebepfdaaGreatDoor

structure S4 where
  a : BitVec 64
  b : BitVec 64
  c : BitVec 64
  d : BitVec 64
def S4.w (s : S4) (k : Nat) : BitVec 64 := match k with
  | 0 => s.a
  | 1 => s.b
  | 2 => s.c
  | 3 => s.d
  | _ => 0#64
/-- Whether i is in s. -/
def S4.has (s : S4) (i : Nat) : Bool := (s.w (i / 64)).toNat.testBit (i % 64)
def S4.zero : S4 := ⟨0#64, 0#64, 0#64, 0#64⟩
def S4.uni (s t : S4) : S4 := ⟨s.a ||| t.a, s.b ||| t.b, s.c ||| t.c, s.d ||| t.d⟩
def S4.int (s t : S4) : S4 := ⟨s.a &&& t.a, s.b &&& t.b, s.c &&& t.c, s.d &&& t.d⟩
def S4.les (s t : S4) : S4 := ⟨s.a &&& ~~~t.a, s.b &&& ~~~t.b, s.c &&& ~~~t.c, s.d &&& ~~~t.d⟩
/-- The set of one id. -/
def S4.one (i : Nat) : S4 := ⟨if i / 64 = 0 then BitVec.twoPow 64 (i % 64) else 0#64, if i / 64 = 1 then BitVec.twoPow 64 (i % 64) else 0#64, if i / 64 = 2 then BitVec.twoPow 64 (i % 64) else 0#64, if i / 64 = 3 then BitVec.twoPow 64 (i % 64) else 0#64⟩
/-- The set of a number: of none, if it is no id. -/
def S4.only (x : Int) : S4 := if 0 ≤ x ∧ x < 256 then S4.one x.toNat else S4.zero

theorem w_lt (s : S4) (k : Nat) : (s.w k).toNat < 18446744073709551616 := (s.w k).isLt
theorem w_over (s : S4) (k : Nat) (h : 4 ≤ k) : s.w k = 0#64 := by
  match k, h with
  | k + 4, _ => rfl
theorem w_cases (P : Nat → Prop) (h0 : P 0) (h1 : P 1) (h2 : P 2) (h3 : P 3) (k : Nat) (hk : k < 4) : P k := by
  match k, hk with
  | 0, _ => exact h0
  | 1, _ => exact h1
  | 2, _ => exact h2
  | 3, _ => exact h3
theorem uni_w (s t : S4) (k : Nat) (hk : k < 4) : (s.uni t).w k = s.w k ||| t.w k := w_cases (fun k => (s.uni t).w k = s.w k ||| t.w k) rfl rfl rfl rfl k hk
theorem int_w (s t : S4) (k : Nat) (hk : k < 4) : (s.int t).w k = s.w k &&& t.w k := w_cases (fun k => (s.int t).w k = s.w k &&& t.w k) rfl rfl rfl rfl k hk
theorem les_w (s t : S4) (k : Nat) (hk : k < 4) : (s.les t).w k = s.w k &&& ~~~(t.w k) := w_cases (fun k => (s.les t).w k = s.w k &&& ~~~(t.w k)) rfl rfl rfl rfl k hk
theorem one_w (i k : Nat) (hk : k < 4) : (S4.one i).w k = if i / 64 = k then BitVec.twoPow 64 (i % 64) else 0#64 := w_cases (fun k => (S4.one i).w k = if i / 64 = k then BitVec.twoPow 64 (i % 64) else 0#64) rfl rfl rfl rfl k hk
theorem S4.ext_w {s t : S4} (h : ∀ k, k < 4 → s.w k = t.w k) : s = t := by
  obtain ⟨a, b, c, d⟩ := s
  obtain ⟨a', b', c', d'⟩ := t
  have h0 := h 0 (by omega)
  have h1 := h 1 (by omega)
  have h2 := h 2 (by omega)
  have h3 := h 3 (by omega)
  simp only [S4.w] at h0 h1 h2 h3
  rw [h0, h1, h2, h3]
theorem S4.ext_has {s t : S4} (h : ∀ i, i < 256 → s.has i = t.has i) : s = t := by
  refine S4.ext_w fun k hk => ?_
  apply BitVec.eq_of_getLsbD_eq
  intro i hi
  have := h (64 * k + i) (by omega)
  unfold S4.has at this
  rw [show (64 * k + i) / 64 = k by omega, show (64 * k + i) % 64 = i by omega] at this
  exact this
theorem uni_has (s t : S4) (i : Nat) (hi : i < 256) : (s.uni t).has i = (s.has i || t.has i) := by
  unfold S4.has
  rw [uni_w _ _ _ (by omega), BitVec.toNat_or, Nat.testBit_or]
theorem int_has (s t : S4) (i : Nat) (hi : i < 256) : (s.int t).has i = (s.has i && t.has i) := by
  unfold S4.has
  rw [int_w _ _ _ (by omega), BitVec.toNat_and, Nat.testBit_and]
theorem les_has (s t : S4) (i : Nat) (hi : i < 256) : (s.les t).has i = (s.has i && !t.has i) := by
  unfold S4.has
  rw [les_w _ _ _ (by omega)]
  show (s.w (i / 64) &&& ~~~(t.w (i / 64))).getLsbD (i % 64) = ((s.w (i / 64)).getLsbD (i % 64) && !(t.w (i / 64)).getLsbD (i % 64))
  rw [BitVec.getLsbD_and, BitVec.getLsbD_not]
  have : i % 64 < 64 := Nat.mod_lt _ (by omega)
  simp [this]
theorem zero_has (i : Nat) : S4.zero.has i = false := by
  unfold S4.has
  by_cases h : i / 64 < 4
  · rw [w_cases (fun k => S4.zero.w k = 0#64) rfl rfl rfl rfl _ h]
    simp
  · rw [w_over _ _ (by omega)]
    simp
theorem one_has (j i : Nat) (hi : i < 256) : (S4.one j).has i = decide (i = j) := by
  unfold S4.has
  rw [one_w _ _ (by omega)]
  split
  · show (BitVec.twoPow 64 (j % 64)).getLsbD (i % 64) = _
    rw [BitVec.getLsbD_twoPow]
    have : i % 64 < 64 := Nat.mod_lt _ (by omega)
    rw [Bool.eq_iff_iff]
    simp
    omega
  · simp
    omega
theorem only_has (x : Int) (i : Nat) (hi : i < 256) : (S4.only x).has i = decide ((i : Int) = x) := by
  unfold S4.only
  split
  · rw [one_has _ _ hi, decide_eq_decide]
    omega
  · rw [zero_has]
    symm
    rw [decide_eq_false_iff_not]
    omega

/-- The ids of which p speaks, rising, as ints. -/
def rise (p : Nat → Bool) : List Int := ((List.range 256).filter p).map fun i : Nat => (i : Int)
def S4.ints (s : S4) : List Int := rise s.has
def hasL (L : List Int) (x : Int) : Bool := decide (x ∈ L)
theorem rise_congr {p q : Nat → Bool} (h : ∀ i, i < 256 → p i = q i) : rise p = rise q := by
  unfold rise
  rw [List.filter_congr fun i hi => h i (List.mem_range.1 hi)]
theorem rise_le (p : Nat → Bool) : (rise p).length ≤ 256 := by
  unfold rise
  rw [List.length_map]
  have := List.length_filter_le p (List.range 256)
  simpa using this
theorem mem_rise (p : Nat → Bool) (x : Int) : x ∈ rise p ↔ ∃ i : Nat, i < 256 ∧ p i = true ∧ (i : Int) = x := by
  unfold rise
  simp only [List.mem_map, List.mem_filter, List.mem_range]
  constructor
  · rintro ⟨i, ⟨h1, h2⟩, h3⟩
    exact ⟨i, h1, h2, h3⟩
  · rintro ⟨i, h1, h2, h3⟩
    exact ⟨i, ⟨h1, h2⟩, h3⟩
theorem hasL_rise (p : Nat → Bool) (i : Nat) (hi : i < 256) : hasL (rise p) i = p i := by
  unfold hasL
  rw [Bool.eq_iff_iff, decide_eq_true_iff, mem_rise]
  constructor
  · rintro ⟨j, _, h2, h3⟩
    obtain rfl : j = i := by omega
    exact h2
  · exact fun h => ⟨i, hi, h, rfl⟩
theorem rise_range (p : Nat → Bool) (x : Int) (h : x ∈ rise p) : 0 ≤ x ∧ x < 256 := by
  obtain ⟨j, h1, _, h3⟩ := (mem_rise p x).1 h
  omega
/-- The document's set of a list. -/
def ofL (L : List Int) : List Int := rise fun i => hasL L i
theorem ofL_add (p : Nat → Bool) (x : Int) : ofL (rise p ++ [x]) = rise fun i => p i || decide ((i : Int) = x) := by
  refine rise_congr fun i hi => ?_
  have h1 := hasL_rise p i hi
  unfold hasL at *
  simp only [List.mem_append, Bool.decide_or, h1, List.mem_singleton]
theorem rise_filter (p : Nat → Bool) (q : Int → Bool) : (rise p).filter q = rise fun i => p i && q i := by
  unfold rise
  rw [List.filter_map, List.filter_filter]
  congr 1
  apply List.filter_congr
  intro i _
  simp [Bool.and_comm]
theorem rise_less (p q : Nat → Bool) : (rise p).filter (fun x => !hasL (rise q) x) = rise fun i => p i && !q i := by
  rw [rise_filter]
  exact rise_congr fun i hi => by rw [hasL_rise q i hi]

theorem int_ints (s t : S4) : (s.int t).ints = rise fun i => s.has i && t.has i := rise_congr fun i hi => int_has s t i hi
theorem les_ints (s t : S4) : (s.les t).ints = rise fun i => s.has i && !t.has i := rise_congr fun i hi => les_has s t i hi
theorem add_ints (s : S4) (x : Int) : (s.uni (S4.only x)).ints = rise fun i => s.has i || decide ((i : Int) = x) := rise_congr fun i hi => by rw [uni_has s _ i hi, only_has x i hi]

/-- The set of a list's ids. -/
def ofS (L : List Int) : S4 := L.foldl (fun s x => s.uni (S4.only x)) S4.zero
theorem foldS_has : ∀ (L : List Int) (s : S4) (i : Nat), i < 256 → (L.foldl (fun s x => s.uni (S4.only x)) s).has i = (s.has i || hasL L i)
  | [], s, i, _ => by simp [hasL]
  | x :: L, s, i, hi => by
    rw [List.foldl_cons, foldS_has L _ i hi, uni_has _ _ _ hi, only_has _ _ hi]
    unfold hasL
    simp only [List.mem_cons, Bool.decide_or, Bool.or_assoc]
theorem ofS_has (L : List Int) (i : Nat) (hi : i < 256) : (ofS L).has i = hasL L i := by
  unfold ofS
  rw [foldS_has L _ i hi, zero_has, Bool.false_or]
theorem ofS_ints (L : List Int) : (ofS L).ints = ofL L := rise_congr fun i hi => ofS_has L i hi
theorem ofS_of_ints (s : S4) : ofS s.ints = s := S4.ext_has fun i hi => by rw [ofS_has _ i hi]; exact hasL_rise _ i hi
theorem ofS_take (L : List Int) (k : Nat) (hk : k < L.length) : ofS (L.take (k + 1)) = (ofS (L.take k)).uni (S4.only L[k]) := by
  unfold ofS
  rw [List.take_succ_eq_append_getElem hk, List.foldl_append]
  rfl

/-- The ids of the first k words. -/
def upTo (s : S4) (k : Nat) : List Int := ((List.range (64 * k)).filter s.has).map fun i : Nat => (i : Int)
theorem upTo_4 (s : S4) : upTo s 4 = s.ints := rfl
/-- The ids that a word's number n stands for. -/
def wordIds (k n : Nat) : List Int := (lowN 64 n).map fun i : Nat => 64 * (k : Int) + (i : Int)
theorem upTo_succ (s : S4) (k : Nat) : upTo s (k + 1) = upTo s k ++ wordIds k (s.w k).toNat := by
  unfold upTo wordIds lowN
  rw [Nat.mul_succ, List.range_add, List.filter_append, List.map_append]
  congr 1
  rw [List.filter_map, List.map_map]
  have e : (List.range 64).filter (s.has ∘ fun i => 64 * k + i) = (List.range 64).filter (s.w k).toNat.testBit := by
    apply List.filter_congr
    intro i hi
    have hi := List.mem_range.1 hi
    simp only [Function.comp_apply, S4.has]
    rw [show (64 * k + i) / 64 = k by omega, show (64 * k + i) % 64 = i by omega]
  rw [e]
  apply List.map_congr_left
  intro i _
  simp
theorem wordIds_zero (k : Nat) : wordIds k 0 = [] := by simp [wordIds, low_zero]
theorem wordIds_next (k n : Nat) (h0 : n ≠ 0) (h : n < 18446744073709551616) : wordIds k n = (64 * (k : Int) + (Lib.ctz 64 n : Int)) :: wordIds k (n &&& (n - 1)) := by
  unfold wordIds
  rw [(low_next n h0 h).2]
  rfl
def S4.len (s : S4) : Nat := s.ints.length
theorem len_le (s : S4) : s.len ≤ 256 := rise_le _

/-- Whether all of s is in t. -/
def S4.sub (s t : S4) : Bool := decide ((s.les t).ints.length = 0)
theorem zero_ints : S4.zero.ints = [] := by
  unfold S4.ints rise
  rw [List.filter_eq_nil_iff.2 fun i _ => by rw [zero_has]; simp]
  rfl
theorem ints_zero {s : S4} (h : s.ints = []) : s = S4.zero := by rw [← ofS_of_ints s, h]; rfl
theorem ints_zero_iff (s : S4) : s = S4.zero ↔ s.ints.length = 0 := by
  constructor
  · rintro rfl
    rw [zero_ints]
    rfl
  · exact fun h => ints_zero (List.eq_nil_of_length_eq_zero h)

/-- The first one that is not below x. -/
def nextL (L : List Int) (x : Int) : Int × Bool := match L.find? (fun y => decide (x ≤ y)) with
  | some y => (y, true)
  | none => (0, false)
theorem nextL_no {L : List Int} {x : Int} (h : ∀ y ∈ L, y < x) : nextL L x = (0, false) := by
  have : L.find? (fun y => decide (x ≤ y)) = none := by
    rw [List.find?_eq_none]
    intro y hy
    have := h y hy
    simp
    omega
  unfold nextL
  rw [this]
theorem nextL_yes {q r : List Int} {x y : Int} (h : ∀ z ∈ q, z < x) (hy : x ≤ y) : nextL (q ++ y :: r) x = (y, true) := by
  have h0 : q.find? (fun y => decide (x ≤ y)) = none := by
    rw [List.find?_eq_none]
    intro y hy
    have := h y hy
    simp
    omega
  have : (q ++ y :: r).find? (fun y => decide (x ≤ y)) = some y := by
    rw [List.find?_append, h0, List.find?_cons_of_pos (by simp; exact hy)]
    rfl
  unfold nextL
  rw [this]
end Go.Proofs.YtdiiilnebepfdaaGreatDoor

namespace Go.Proofs.YtdiiilnebepfdaaGreatDoor
open Go.RowKit

/-- The library's table lies as its text lays it. -/
def TabD (w : World) : Prop := ∀ j, j < 64 → w.cell? ⟨0, j, none⟩ = some (.int .u8 (Lib.deBruijn64tab.getD j 0))
set_option maxHeartbeats 400000 in
theorem tz_core (x k idx : Nat) (w : World) (hx0 : ((x : Int) == 0) = false)
    (key : IntKind.u64.wrap (bits BinOp.and IntKind.u64 (x : Int) (IntKind.u64.wrap (-(x : Int))) * 285870213051353865) / 288230376151711744 = (idx : Int))
    (hi : idx < 64) (hk : k < 64) (hcell : w.cell? ⟨0, idx, none⟩ = some (.int .u8 k)) :
    Calls Tryz.prog 159 #[.int .u64 x] w fun e w' => e = .returned (.int .i64 k) ∧ w = w' := by
  go_enter Tryz.func159, Tryz.ntmps159
  go_wp2_with (simp only [key])
  go_ret
  exact ⟨rfl, rfl⟩
theorem tz_key (x a : Nat) (hx : x < 18446744073709551616) (hx0 : x ≠ 0) (hlow : x &&& (18446744073709551616 - x) = a) :
    IntKind.u64.wrap (bits BinOp.and IntKind.u64 (x : Int) (IntKind.u64.wrap (-(x : Int))) * 285870213051353865) / 288230376151711744 = ((a * 285870213051353865 % 18446744073709551616 / 288230376151711744 : Nat) : Int) := by
  have e1 : IntKind.u64.wrap (-(x : Int)) = ((18446744073709551616 - x : Nat) : Int) := by rw [IntKind.wrap_u64]; omega
  rw [e1, bits_and_u64_nat x _ hx (by omega), hlow, IntKind.wrap_u64]
  omega
theorem c_tz (x : Nat) (hx : x < 18446744073709551616) (hx0 : x ≠ 0) (w : World) (ht : TabD w) :
    Calls Tryz.prog 159 #[.int .u64 x] w fun e w' => e = .returned (.int .i64 (Lib.ctz 64 x)) ∧ w = w' := by
  obtain ⟨hlow, hk⟩ := Lib.lowest_bit 64 x hx0 hx
  obtain ⟨hi, htab⟩ := Lib.deBruijn64_at _ hk
  have hcell := ht _ hi
  rw [htab] at hcell
  exact tz_core x _ _ w (by simp; omega) (tz_key x _ hx hx0 hlow) hi hk hcell

theorem bs_wrap_nat (x : Nat) (h : x < 18446744073709551616) : IntKind.u64.wrap (x : Int) = (x : Int) := by rw [IntKind.wrap_u64]; omega
theorem and_c (x m : Nat) (hm : m < 18446744073709551616) (hx : x < 18446744073709551616) : bits .and .u64 (x : Int) (m : Int) = ((x &&& m : Nat) : Int) := bits_and_u64_nat x m hx hm
theorem upTo_le (s : S4) (k : Nat) : (upTo s k).length ≤ 64 * k := by
  unfold upTo
  rw [List.length_map]
  have := List.length_filter_le s.has (List.range (64 * k))
  simpa using this
end Go.Proofs.YtdiiilnebepfdaaGreatDoor

namespace Go.Proofs.YtdiiilnebepfdaaGreatDoor
open Go.RowKit

/-- A set as a value, and as cells. -/
abbrev S4.cs (s : S4) : List Value := [.int .u64 (s.a.toNat : Int), .int .u64 (s.b.toNat : Int), .int .u64 (s.c.toNat : Int), .int .u64 (s.d.toNat : Int)]
abbrev S4.val (s : S4) : Value := .agg #[.int .u64 (s.a.toNat : Int), .int .u64 (s.b.toNat : Int), .int .u64 (s.c.toNat : Int), .int .u64 (s.d.toNat : Int)]
/-- The first k words of s, the rest of t. -/
def S4.mix (s t : S4) (k : Nat) : S4 := ⟨if 0 < k then s.a else t.a, if 1 < k then s.b else t.b, if 2 < k then s.c else t.c, if 3 < k then s.d else t.d⟩
theorem mix_4 (s t : S4) : s.mix t 4 = s := rfl
theorem or_bv (x y : BitVec 64) : bits .or .u64 (x.toNat : Int) (y.toNat : Int) = ((x ||| y).toNat : Int) := by rw [u64_or_nat _ _ x.isLt y.isLt, BitVec.toNat_or]
theorem and_bv (x y : BitVec 64) : bits .and .u64 (x.toNat : Int) (y.toNat : Int) = ((x &&& y).toNat : Int) := by rw [u64_and_nat _ _ x.isLt y.isLt, BitVec.toNat_and]
theorem andnot_bv (x y : BitVec 64) : bits .andNot .u64 (x.toNat : Int) (y.toNat : Int) = ((x &&& ~~~y).toNat : Int) := by
  rw [u64_andNot_nat _ _ x.isLt y.isLt, BitVec.toNat_and, BitVec.toNat_not]

theorem Blk.new' (w : World) (cs : List Value) (t : TypeId) (n : Nat) (h : n = w.heap.size) : Blk (w.alloc (.cells cs.toArray t)) n cs t := h ▸ Blk.new w cs t
abbrev zero4 : List Value := [.int .u64 0, .int .u64 0, .int .u64 0, .int .u64 0]
theorem ix_0 (x y z u : Int) (w : World) : (Instr.index 135 (.agg #[.int .u64 x, .int .u64 y, .int .u64 z, .int .u64 u]) (.int .i64 0)).run Tryz.prog w = .ok (.int .u64 x) w := by kernel_rfl
theorem ix_1 (x y z u : Int) (w : World) : (Instr.index 135 (.agg #[.int .u64 x, .int .u64 y, .int .u64 z, .int .u64 u]) (.int .i64 1)).run Tryz.prog w = .ok (.int .u64 y) w := by kernel_rfl
theorem ix_2 (x y z u : Int) (w : World) : (Instr.index 135 (.agg #[.int .u64 x, .int .u64 y, .int .u64 z, .int .u64 u]) (.int .i64 2)).run Tryz.prog w = .ok (.int .u64 z) w := by kernel_rfl
theorem ix_3 (x y z u : Int) (w : World) : (Instr.index 135 (.agg #[.int .u64 x, .int .u64 y, .int .u64 z, .int .u64 u]) (.int .i64 3)).run Tryz.prog w = .ok (.int .u64 u) w := by kernel_rfl
theorem ix_w (s : S4) (k : Nat) (hk : k < 4) (w : World) : (Instr.index 135 s.val (.int .i64 (k : Int))).run Tryz.prog w = .ok (.int .u64 ((s.w k).toNat : Int)) w :=
  w_cases (fun k => (Instr.index 135 s.val (.int .i64 (k : Int))).run Tryz.prog w = .ok (.int .u64 ((s.w k).toNat : Int)) w) (ix_0 _ _ _ _ w) (ix_1 _ _ _ _ w) (ix_2 _ _ _ _ w) (ix_3 _ _ _ _ w) k hk

set_option maxHeartbeats 1000000 in
theorem c_inter (s t : S4) (w : World) :
    Calls Tryz.prog 124 #[s.val, t.val] w fun e w' => e = .returned (s.int t).val ∧ Below w.heap.size w w' := by
  go_enter Tryz.func124, Tryz.ntmps124
  go_wp2
  go_loopw [8] (fun i wr => ∃ k : Nat, k ≤ 4 ∧ i = .int .i64 k ∧ Below w.heap.size w wr ∧ Blk wr w.heap.size ((s.int t).mix s k).cs 135 ∧ Blk wr (w.heap.size + 1 + 1) zero4 135) (fun i _ => 4 - (intOf i).toNat)
  case atStart => exact ⟨0, Nat.zero_le _, rfl, (((Below.refl _ _).alloc (Nat.le_refl _) _).alloc (by simp) _).alloc (by simp; omega) _, ((Blk.new w s.cs 135).alloc _).alloc _, Blk.new' _ zero4 _ _ (by simp)⟩
  case round =>
    obtain ⟨k, hk, rfl, hb, hB, hR⟩ := hrel
    have c0 := hB.cell 0 _ rfl
    have c1 := hB.cell 1 _ rfl
    have c2 := hB.cell 2 _ rfl
    have c3 := hB.cell 3 _ rfl
    have f0 := hB.free 0
    have f1 := hB.free 1
    have f2 := hB.free 2
    have f3 := hB.free 3
    rcases (by omega : k = 0 ∨ k = 1 ∨ k = 2 ∨ k = 3 ∨ k = 4) with rfl | rfl | rfl | rfl | rfl
    · rw [show ((0 : Nat) : Int) = 0 from rfl]
      have ix := ix_0
      go_wp2_with (rw [and_bv])
      go_roundw
      case rel => exact ⟨1, by omega, rfl, hb.setCell (by simp) _, hB.set 0 _, hR.other _ (by simp; omega) _⟩
      case measure => simp [intOf]
    · rw [show ((1 : Nat) : Int) = 1 from rfl]
      have ix := ix_1
      go_wp2_with (rw [and_bv])
      go_roundw
      case rel => exact ⟨2, by omega, rfl, hb.setCell (by simp) _, hB.set 1 _, hR.other _ (by simp; omega) _⟩
      case measure => simp [intOf]
    · rw [show ((2 : Nat) : Int) = 2 from rfl]
      have ix := ix_2
      go_wp2_with (rw [and_bv])
      go_roundw
      case rel => exact ⟨3, by omega, rfl, hb.setCell (by simp) _, hB.set 2 _, hR.other _ (by simp; omega) _⟩
      case measure => simp [intOf]
    · rw [show ((3 : Nat) : Int) = 3 from rfl]
      have ix := ix_3
      go_wp2_with (rw [and_bv])
      go_roundw
      case rel => exact ⟨4, by omega, rfl, hb.setCell (by simp) _, hB.set 3 _, hR.other _ (by simp; omega) _⟩
      case measure => simp [intOf]
    · rw [show ((4 : Nat) : Int) = 4 from rfl]
      rw [mix_4] at hB
      clear c0 c1 c2 c3
      have c0 := hB.cell 0 _ rfl
      have c1 := hB.cell 1 _ rfl
      have c2 := hB.cell 2 _ rfl
      have c3 := hB.cell 3 _ rfl
      have r0 := hR.cell 0 _ rfl
      have r1 := hR.cell 1 _ rfl
      have r2 := hR.cell 2 _ rfl
      have r3 := hR.cell 3 _ rfl
      have g0 := hR.free 0
      have g1 := hR.free 1
      have g2 := hR.free 2
      have g3 := hR.free 3
      go_wp2
      exact bodyPost_ret (v := (s.int t).val) (by simp [results, Tryz.results124, go_sem, r0, r1, r2, r3]) rfl ⟨rfl, (((hb.setCell (by simp <;> omega) _).setCell (by simp <;> omega) _).setCell (by simp <;> omega) _).setCell (by simp <;> omega) _⟩

set_option maxHeartbeats 1000000 in
theorem c_less (s t : S4) (w : World) :
    Calls Tryz.prog 157 #[s.val, t.val] w fun e w' => e = .returned (s.les t).val ∧ Below w.heap.size w w' := by
  go_enter Tryz.func157, Tryz.ntmps157
  go_wp2
  go_loopw [8] (fun i wr => ∃ k : Nat, k ≤ 4 ∧ i = .int .i64 k ∧ Below w.heap.size w wr ∧ Blk wr w.heap.size ((s.les t).mix s k).cs 135 ∧ Blk wr (w.heap.size + 1 + 1) zero4 135) (fun i _ => 4 - (intOf i).toNat)
  case atStart => exact ⟨0, Nat.zero_le _, rfl, (((Below.refl _ _).alloc (Nat.le_refl _) _).alloc (by simp) _).alloc (by simp; omega) _, ((Blk.new w s.cs 135).alloc _).alloc _, Blk.new' _ zero4 _ _ (by simp)⟩
  case round =>
    obtain ⟨k, hk, rfl, hb, hB, hR⟩ := hrel
    have c0 := hB.cell 0 _ rfl
    have c1 := hB.cell 1 _ rfl
    have c2 := hB.cell 2 _ rfl
    have c3 := hB.cell 3 _ rfl
    have f0 := hB.free 0
    have f1 := hB.free 1
    have f2 := hB.free 2
    have f3 := hB.free 3
    rcases (by omega : k = 0 ∨ k = 1 ∨ k = 2 ∨ k = 3 ∨ k = 4) with rfl | rfl | rfl | rfl | rfl
    · rw [show ((0 : Nat) : Int) = 0 from rfl]
      have ix := ix_0
      go_wp2
      go_roundw
      case rel => exact ⟨1, by omega, rfl, hb.setCell (by simp) _, by rw [andnot_bv]; exact hB.set 0 _, hR.other _ (by simp; omega) _⟩
      case measure => simp [intOf]
    · rw [show ((1 : Nat) : Int) = 1 from rfl]
      have ix := ix_1
      go_wp2
      go_roundw
      case rel => exact ⟨2, by omega, rfl, hb.setCell (by simp) _, by rw [andnot_bv]; exact hB.set 1 _, hR.other _ (by simp; omega) _⟩
      case measure => simp [intOf]
    · rw [show ((2 : Nat) : Int) = 2 from rfl]
      have ix := ix_2
      go_wp2
      go_roundw
      case rel => exact ⟨3, by omega, rfl, hb.setCell (by simp) _, by rw [andnot_bv]; exact hB.set 2 _, hR.other _ (by simp; omega) _⟩
      case measure => simp [intOf]
    · rw [show ((3 : Nat) : Int) = 3 from rfl]
      have ix := ix_3
      go_wp2
      go_roundw
      case rel => exact ⟨4, by omega, rfl, hb.setCell (by simp) _, by rw [andnot_bv]; exact hB.set 3 _, hR.other _ (by simp; omega) _⟩
      case measure => simp [intOf]
    · rw [show ((4 : Nat) : Int) = 4 from rfl]
      rw [mix_4] at hB
      clear c0 c1 c2 c3
      have c0 := hB.cell 0 _ rfl
      have c1 := hB.cell 1 _ rfl
      have c2 := hB.cell 2 _ rfl
      have c3 := hB.cell 3 _ rfl
      have r0 := hR.cell 0 _ rfl
      have r1 := hR.cell 1 _ rfl
      have r2 := hR.cell 2 _ rfl
      have r3 := hR.cell 3 _ rfl
      have g0 := hR.free 0
      have g1 := hR.free 1
      have g2 := hR.free 2
      have g3 := hR.free 3
      go_wp2
      exact bodyPost_ret (v := (s.les t).val) (by simp [results, Tryz.results157, go_sem, r0, r1, r2, r3]) rfl ⟨rfl, (((hb.setCell (by simp <;> omega) _).setCell (by simp <;> omega) _).setCell (by simp <;> omega) _).setCell (by simp <;> omega) _⟩
end Go.Proofs.YtdiiilnebepfdaaGreatDoor

namespace Go.Proofs.YtdiiilnebepfdaaGreatDoor
open Go.RowKit

theorem part_0 (a b c d : Value) (w : World) : (part 133 #[a, b, c, d] 0).run Tryz.prog w = .ok a w := by kernel_rfl
theorem part_1 (a b c d : Value) (w : World) : (part 133 #[a, b, c, d] 1).run Tryz.prog w = .ok b w := by kernel_rfl
theorem part_2 (a b c d : Value) (w : World) : (part 133 #[a, b, c, d] 2).run Tryz.prog w = .ok c w := by kernel_rfl
theorem part_3 (a b c d : Value) (w : World) : (part 133 #[a, b, c, d] 3).run Tryz.prog w = .ok d w := by kernel_rfl
theorem run_eq4 (x y z u x' y' z' u' : Int) (w : World) :
    (Op.equalIn 10000 135 (.agg #[.int .u64 x, .int .u64 y, .int .u64 z, .int .u64 u]) (.agg #[.int .u64 x', .int .u64 y', .int .u64 z', .int .u64 u'])).run Tryz.prog w = .ok (x == x' && y == y' && z == z' && u == u') w := by
  rw [show (10000 : Nat) = 9999 + 1 from rfl]
  unfold Op.equalIn
  have e : ∀ a b : Int, ∀ w, (Op.equalIn 9999 133 (.int .u64 a) (.int .u64 b)).run Tryz.prog w = .ok (a == b) w := fun a b w => run_equalIn_int w 9998 _ .u64 .u64 a b Tryz.underlying133
  have hs : ∀ w, (sizeOf 133).run Tryz.prog w = .ok 1 w := fun w => by kernel_rfl
  simp only [Sem.run_bind, run_underlying Tryz.underlying135, Result.andThen_ok, hs, Std.Legacy.Range.forIn_eq_forIn_range', Std.Legacy.Range.size]
  rw [show List.range' 0 ((4 - 0 + 1 - 1) / 1) 1 = [0, 1, 2, 3] from rfl]
  simp only [List.forIn_cons, List.forIn_nil, Sem.run_bind, Nat.mul_one, part_0, Result.andThen_ok, e, Sem.run_ite, Sem.run_pure]
  cases hx : (x == x') <;> cases hy : (y == y') <;> cases hz : (z == z') <;> cases hu : (u == u') <;> simp [Sem.run_pure, part_1, part_2, part_3, e, hy, hz, hu]
theorem eq4_of {s t : S4} (h : s = t) : ((s.a.toNat : Int) == t.a.toNat && (s.b.toNat : Int) == t.b.toNat && (s.c.toNat : Int) == t.c.toNat && (s.d.toNat : Int) == t.d.toNat) = true := by
  subst h
  simp
theorem eq4_ne {s t : S4} (h : s ≠ t) : ((s.a.toNat : Int) == t.a.toNat && (s.b.toNat : Int) == t.b.toNat && (s.c.toNat : Int) == t.c.toNat && (s.d.toNat : Int) == t.d.toNat) = false := by
  rw [Bool.eq_false_iff]
  intro hh
  simp only [Bool.and_eq_true, beq_iff_eq] at hh
  apply h
  obtain ⟨a, b, c, d⟩ := s
  obtain ⟨a', b', c', d'⟩ := t
  obtain ⟨⟨⟨h1, h2⟩, h3⟩, h4⟩ := hh
  congr 1
  · exact BitVec.eq_of_toNat_eq (Int.natCast_inj.1 h1)
  · exact BitVec.eq_of_toNat_eq (Int.natCast_inj.1 h2)
  · exact BitVec.eq_of_toNat_eq (Int.natCast_inj.1 h3)
  · exact BitVec.eq_of_toNat_eq (Int.natCast_inj.1 h4)
theorem run_same {s t : S4} (h : s = t) (w : World) : (Op.equalIn 10000 135 s.val t.val).run Tryz.prog w = .ok true w := by
  rw [run_eq4, eq4_of h]
theorem run_other {s t : S4} (h : s ≠ t) (w : World) : (Op.equalIn 10000 135 s.val t.val).run Tryz.prog w = .ok false w := by
  rw [run_eq4, eq4_ne h]
theorem run_zero {s : S4} (h : s = S4.zero) (w : World) : (Op.equalIn 10000 135 s.val (.agg #[.int .u64 0, .int .u64 0, .int .u64 0, .int .u64 0])).run Tryz.prog w = .ok true w := run_same h w
theorem run_some {s : S4} (h : s ≠ S4.zero) (w : World) : (Op.equalIn 10000 135 s.val (.agg #[.int .u64 0, .int .u64 0, .int .u64 0, .int .u64 0])).run Tryz.prog w = .ok false w := run_other h w
end Go.Proofs.YtdiiilnebepfdaaGreatDoor

namespace Go.Proofs.YtdiiilnebepfdaaGreatDoor
open Go.RowKit

set_option maxHeartbeats 1000000 in
theorem only_no (x : Int) (h : x < 0 ∨ 256 ≤ x) (w : World) :
    Calls Tryz.prog 125 #[.int .i64 x] w fun e w' => e = .returned S4.zero.val ∧ Below w.heap.size w w' := by
  rcases h with h | h
  · go_enter Tryz.func125, Tryz.ntmps125
    go_wp2
    exact bodyPost_ret (v := S4.zero.val) (by simp [results, Tryz.results125, go_sem, S4.zero]) rfl ⟨rfl, ((Below.refl _ _).alloc (Nat.le_refl _) _).alloc (by simp) _⟩
  · have h0 : 0 ≤ x := by omega
    go_enter Tryz.func125, Tryz.ntmps125
    go_wp2
    exact bodyPost_ret (v := S4.zero.val) (by simp [results, Tryz.results125, go_sem, S4.zero]) rfl ⟨rfl, ((Below.refl _ _).alloc (Nat.le_refl _) _).alloc (by simp) _⟩
set_option maxHeartbeats 1000000 in
theorem only_0 (x : Int) (r : Nat) (hx : 0 ≤ x ∧ x < 256) (hq : x / 64 = 0) (hr : x % 64 = (r : Int)) (w : World) :
    Calls Tryz.prog 125 #[.int .i64 x] w fun e w' => e = .returned (.agg #[.int .u64 (IntKind.u64.wrap (2 ^ r)), .int .u64 0, .int .u64 0, .int .u64 0]) ∧ Below w.heap.size w w' := by
  obtain ⟨h0, h1⟩ := hx
  have hr1 : r < 64 := by omega
  go_enter Tryz.func125, Tryz.ntmps125
  go_wp2
  exact bodyPost_ret (v := .agg #[.int .u64 (IntKind.u64.wrap (2 ^ r)), .int .u64 0, .int .u64 0, .int .u64 0]) (by simp [results, Tryz.results125, go_sem]) rfl ⟨rfl, ((Below.refl _ _).alloc (Nat.le_refl _) _).alloc (by simp) _⟩
set_option maxHeartbeats 1000000 in
theorem only_1 (x : Int) (r : Nat) (hx : 0 ≤ x ∧ x < 256) (hq : x / 64 = 1) (hr : x % 64 = (r : Int)) (w : World) :
    Calls Tryz.prog 125 #[.int .i64 x] w fun e w' => e = .returned (.agg #[.int .u64 0, .int .u64 (IntKind.u64.wrap (2 ^ r)), .int .u64 0, .int .u64 0]) ∧ Below w.heap.size w w' := by
  obtain ⟨h0, h1⟩ := hx
  have hr1 : r < 64 := by omega
  go_enter Tryz.func125, Tryz.ntmps125
  go_wp2
  exact bodyPost_ret (v := .agg #[.int .u64 0, .int .u64 (IntKind.u64.wrap (2 ^ r)), .int .u64 0, .int .u64 0]) (by simp [results, Tryz.results125, go_sem]) rfl ⟨rfl, ((Below.refl _ _).alloc (Nat.le_refl _) _).alloc (by simp) _⟩
set_option maxHeartbeats 1000000 in
theorem only_2 (x : Int) (r : Nat) (hx : 0 ≤ x ∧ x < 256) (hq : x / 64 = 2) (hr : x % 64 = (r : Int)) (w : World) :
    Calls Tryz.prog 125 #[.int .i64 x] w fun e w' => e = .returned (.agg #[.int .u64 0, .int .u64 0, .int .u64 (IntKind.u64.wrap (2 ^ r)), .int .u64 0]) ∧ Below w.heap.size w w' := by
  obtain ⟨h0, h1⟩ := hx
  have hr1 : r < 64 := by omega
  go_enter Tryz.func125, Tryz.ntmps125
  go_wp2
  exact bodyPost_ret (v := .agg #[.int .u64 0, .int .u64 0, .int .u64 (IntKind.u64.wrap (2 ^ r)), .int .u64 0]) (by simp [results, Tryz.results125, go_sem]) rfl ⟨rfl, ((Below.refl _ _).alloc (Nat.le_refl _) _).alloc (by simp) _⟩
set_option maxHeartbeats 1000000 in
theorem only_3 (x : Int) (r : Nat) (hx : 0 ≤ x ∧ x < 256) (hq : x / 64 = 3) (hr : x % 64 = (r : Int)) (w : World) :
    Calls Tryz.prog 125 #[.int .i64 x] w fun e w' => e = .returned (.agg #[.int .u64 0, .int .u64 0, .int .u64 0, .int .u64 (IntKind.u64.wrap (2 ^ r))]) ∧ Below w.heap.size w w' := by
  obtain ⟨h0, h1⟩ := hx
  have hr1 : r < 64 := by omega
  go_enter Tryz.func125, Tryz.ntmps125
  go_wp2
  exact bodyPost_ret (v := .agg #[.int .u64 0, .int .u64 0, .int .u64 0, .int .u64 (IntKind.u64.wrap (2 ^ r))]) (by simp [results, Tryz.results125, go_sem]) rfl ⟨rfl, ((Below.refl _ _).alloc (Nat.le_refl _) _).alloc (by simp) _⟩
theorem pow_bv (r : Nat) (hr : r < 64) : IntKind.u64.wrap (2 ^ r) = ((BitVec.twoPow 64 r).toNat : Int) := by
  rw [BitVec.toNat_twoPow]
  have h : (2 : Int) ^ r = ((2 ^ r : Nat) : Int) := by simp
  have h2 : 2 ^ r < 2 ^ 64 := Nat.pow_lt_pow_right (by omega) hr
  rw [h, Nat.mod_eq_of_lt h2]
  exact bs_wrap_nat _ h2
theorem one_val (k q r : Nat) (hk : k = 64 * q + r) (hr : r < 64) :
    (S4.one k).val = .agg #[.int .u64 ((if q = 0 then BitVec.twoPow 64 r else 0#64).toNat : Int), .int .u64 ((if q = 1 then BitVec.twoPow 64 r else 0#64).toNat : Int), .int .u64 ((if q = 2 then BitVec.twoPow 64 r else 0#64).toNat : Int), .int .u64 ((if q = 3 then BitVec.twoPow 64 r else 0#64).toNat : Int)] := by
  have h1 : k / 64 = q := by omega
  have h2 : k % 64 = r := by omega
  unfold S4.val S4.one
  rw [h1, h2]
theorem c_only (x : Int) (w : World) :
    Calls Tryz.prog 125 #[.int .i64 x] w fun e w' => e = .returned (S4.only x).val ∧ Below w.heap.size w w' := by
  unfold S4.only
  by_cases h : 0 ≤ x ∧ x < 256
  · rw [if_pos h]
    obtain ⟨k, rfl⟩ : ∃ k : Nat, x = k := ⟨x.toNat, by omega⟩
    rw [Int.toNat_natCast, one_val k (k / 64) (k % 64) (by omega) (by omega)]
    have hr : k % 64 < 64 := by omega
    have hm : (k : Int) % 64 = ((k % 64 : Nat) : Int) := by omega
    rcases (by omega : k / 64 = 0 ∨ k / 64 = 1 ∨ k / 64 = 2 ∨ k / 64 = 3) with hq | hq | hq | hq
    · have := only_0 k (k % 64) h (by omega) hm w
      rw [pow_bv _ hr] at this
      rw [hq]
      exact this
    · have := only_1 k (k % 64) h (by omega) hm w
      rw [pow_bv _ hr] at this
      rw [hq]
      exact this
    · have := only_2 k (k % 64) h (by omega) hm w
      rw [pow_bv _ hr] at this
      rw [hq]
      exact this
    · have := only_3 k (k % 64) h (by omega) hm w
      rw [pow_bv _ hr] at this
      rw [hq]
      exact this
  · rw [if_neg h]
    exact only_no x (by omega) w

theorem sub_yes {s t : S4} (h : s.les t = S4.zero) : s.sub t = true := by
  unfold S4.sub
  rw [decide_eq_true_iff]
  exact (ints_zero_iff _).1 h
theorem sub_no {s t : S4} (h : s.les t ≠ S4.zero) : s.sub t = false := by
  unfold S4.sub
  rw [decide_eq_false_iff_not]
  exact fun k => h ((ints_zero_iff _).2 k)
theorem box1 (s : S4) (w : World) : Blk (w.alloc (.cells #[.int .u64 (s.a.toNat : Int), .int .u64 (s.b.toNat : Int), .int .u64 (s.c.toNat : Int), .int .u64 (s.d.toNat : Int)] 135)) w.heap.size s.cs 135 := Blk.new w s.cs _
set_option maxHeartbeats 1000000 in
theorem c_sub (s t : S4) (w : World) :
    Calls Tryz.prog 155 #[s.val, t.val] w fun e w' => e = .returned (.bool (s.sub t)) ∧ Below w.heap.size w w' := by
  have hb := up_trans (up_alloc w (.cells s.cs.toArray 135)) (up_alloc (w.alloc (.cells s.cs.toArray 135)) (.cells t.cs.toArray 135))
  by_cases h : s.les t = S4.zero
  · have hq := run_zero h
    rw [sub_yes h]
    clear h
    go_enter Tryz.func155, Tryz.ntmps155
    go_wp2_with (first | (go_at_call 157; refine (c_less s t _).mono ?_; rintro e w' ⟨rfl, hbl⟩) | rw [hq])
    go_ret
    exact ⟨rfl, up_trans hb hbl⟩
  · have hq := run_some h
    rw [sub_no h]
    clear h
    go_enter Tryz.func155, Tryz.ntmps155
    go_wp2_with (first | (go_at_call 157; refine (c_less s t _).mono ?_; rintro e w' ⟨rfl, hbl⟩) | rw [hq])
    go_ret
    exact ⟨rfl, up_trans hb hbl⟩

theorem has_only {s : S4} {x : Int} : (s.int (S4.only x) = S4.zero) ↔ hasL s.ints x = false := by
  rw [ints_zero_iff, int_ints]
  have e : (rise fun i => s.has i && (S4.only x).has i) = rise fun i => s.has i && decide ((i : Int) = x) := rise_congr fun i hi => by rw [only_has x i hi]
  rw [e, List.length_eq_zero_iff, List.eq_nil_iff_forall_not_mem]
  unfold hasL
  rw [decide_eq_false_iff_not]
  constructor
  · intro h hx
    obtain ⟨i, h1, h2, h3⟩ := (mem_rise _ _).1 hx
    exact h x ((mem_rise _ _).2 ⟨i, h1, by simp [h2, h3], h3⟩)
  · intro h y hy
    obtain ⟨i, h1, h2, h3⟩ := (mem_rise _ _).1 hy
    simp at h2
    exact h ((mem_rise _ _).2 ⟨i, h1, h2.1, h2.2⟩)
set_option maxHeartbeats 1000000 in
theorem c_has (s : S4) (x : Int) (w : World) :
    Calls Tryz.prog 97 #[s.val, .int .i64 x] w fun e w' => e = .returned (.bool (hasL s.ints x)) ∧ Below w.heap.size w w' := by
  have hb0 := up_alloc w (.cells s.cs.toArray 135)
  have hB := box1 s w
  have cO := grown_call (w := w.alloc (.cells s.cs.toArray 135)) fun W _ => c_only x W
  have cI := grown_call (w := w.alloc (.cells s.cs.toArray 135)) fun W _ => c_inter s (S4.only x) W
  have k0 := cell_regrown (hB.cell 0 _ rfl)
  have k1 := cell_regrown (hB.cell 1 _ rfl)
  have k2 := cell_regrown (hB.cell 2 _ rfl)
  have k3 := cell_regrown (hB.cell 3 _ rfl)
  by_cases h : s.int (S4.only x) = S4.zero
  · have hq := run_zero h
    rw [has_only.1 h]
    clear h hB
    go_enter Tryz.func97, Tryz.ntmps97
    go_wp2_with fail
    refine wp_region_quiet_below (by kernel_rfl) (by kernel_rfl) ?_
    repeat (go_big_quiet_step (first | exact cO _ _ | exact cI _ _ | rw [hq]))
    refine wpQuiet_nil ?_
    intro _ hw'
    obtain ⟨⟨dq, osq⟩, hw''⟩ := hw'
    subst hw''
    go_wp2
    go_ret
    exact ⟨rfl, up_trans hb0 (below_regrown _ dq osq)⟩
  · have hq := run_some h
    rw [show hasL s.ints x = true from (Bool.eq_false_or_eq_true _).resolve_right fun k => h (has_only.2 k)]
    clear h hB
    go_enter Tryz.func97, Tryz.ntmps97
    go_wp2_with fail
    refine wp_region_quiet_below (by kernel_rfl) (by kernel_rfl) ?_
    repeat (go_big_quiet_step (first | exact cO _ _ | exact cI _ _ | rw [hq]))
    refine wpQuiet_nil ?_
    intro _ hw'
    obtain ⟨⟨dq, osq⟩, hw''⟩ := hw'
    subst hw''
    go_wp2
    go_ret
    exact ⟨rfl, up_trans hb0 (below_regrown _ dq osq)⟩

/-! In the region that ends with a store into the result's cell: the box reads as it did. -/

end Go.Proofs.YtdiiilnebepfdaaGreatDoor

namespace Go.Proofs.YtdiiilnebepfdaaGreatDoor
open Go.RowKit Go.Shelf
attribute [local go_sem] Oper.semAt_some

theorem tab_lt {w : World} (h : TabD w) : 0 < w.heap.size := by
  have := h 0 (by omega)
  apply Nat.lt_of_not_le
  intro hle
  have hn : w.heap[0]? = none := Array.getElem?_eq_none hle
  simp [World.cell?, hn] at this
theorem tab_below {w w' : World} {n₀ : Nat} (h : TabD w) (hn : 0 < n₀) (hb : Below n₀ w w') : TabD w' := fun j hj => (hb.cell (p := ⟨0, j, none⟩) hn).trans (h j hj)
theorem wide_deep {p : Prop} : Fence.wide.depth.isSome = true → p := fun h => by simp [Fence.wide] at h
theorem and_pred (m : Nat) (h0 : m ≠ 0) (h : m < 18446744073709551616) : bits .and .u64 (m : Int) ((m : Int) - 1) = ((m &&& (m - 1) : Nat) : Int) := by
  have e : (m : Int) - 1 = ((m - 1 : Nat) : Int) := by omega
  rw [e]
  exact and_c m (m - 1) (by omega) h
theorem upTo_pre (s : S4) (k : Nat) (hk : k ≤ 4) : upTo s k <+: s.ints := by
  have h : ∀ j, upTo s k <+: upTo s (k + j) := by
    intro j
    induction j with
    | zero => exact List.prefix_refl _
    | succ j ih => exact ih.trans ⟨_, (upTo_succ s (k + j)).symm⟩
  have := h (4 - k)
  rwa [show k + (4 - k) = 4 by omega, upTo_4] at this

set_option maxRecDepth 100000 in
set_option maxHeartbeats 2000000 in
theorem all1_in (n : Nat) (l Bn n₀ : Nat) (hn₀ : 0 < n₀) (s : S4) (J Jx : List Int → World → Prop)
    (hY : ∀ pre x W, J pre W → pre.length < 256 → YieldAt Fence.wide (n - 1) Tryz.prog l #[.int .i64 x] W fun e W' =>
      (e = .returned (.bool true) ∧ J (pre ++ [x]) W' ∧ Below n₀ W W') ∨ (e = .returned (.bool false) ∧ Jx (pre ++ [x]) W'))
    (W : World) (hB : Blk W Bn s.cs 135) (hT : TabD W) (h0 : J [] W) :
    CallsIn Fence.wide n Tryz.prog 158 #[.func (.yield l) #[] #[], .pointer (some ⟨Bn, 0, none⟩)] W fun e W' => (∃ v, e = .returned v) ∧
      ((∃ ys, ys = s.ints ∧ J ys W') ∨ (∃ pre, pre <+: s.ints ∧ Jx pre W')) := by
  have c0 := hB.cell 0 _ rfl
  have c1 := hB.cell 1 _ rfl
  have c2 := hB.cell 2 _ rfl
  have c3 := hB.cell 3 _ rfl
  refine callsIn_of_wp Tryz.func158 rfl trivial ?_ rfl
  simp only [Tryz.ntmps158, List.size_toArray, List.length_cons, List.length_nil, Nat.reduceAdd, Nat.reduceSub, Array.replicate_succ, Array.replicate_zero, List.push_toArray, List.append_toArray, List.nil_append, List.cons_append]
  gi_wp2
  gi_loopw [6] (fun i wr => ∃ k : Nat, k ≤ 4 ∧ i = .int .i64 k ∧ J (upTo s k) wr ∧ Below n₀ W wr) (fun i _ => 4 - (intOf i).toNat)
  case atStart => exact ⟨0, Nat.zero_le _, rfl, h0, Below.refl _ _⟩
  case round =>
    obtain ⟨k, hk, rfl, hJs, hnx⟩ := hrel
    by_cases hlt : k < 4
    · have ix := ix_w s k hlt
      have hq4 : decide ((k : Int) < 4) = true := decide_eq_true (by omega)
      have hsu := upTo_succ s k
      have hul := upTo_le s (k + 1)
      have hpr := upTo_pre s (k + 1) (by omega)
      have hwl := w_lt s k
      generalize hUe : upTo s (k + 1) = U at hsu hul hpr
      have HUE := Lib.hid hUe
      clear hUe
      generalize (s.w k).toNat = N at ix hsu hwl
      have HU := Lib.hid hsu
      clear hsu
      gi_wp2
      gi_loopw [4] (fun nv wr => ∃ (m : Nat) (pre : List Int), nv = .int .u64 m ∧ m < 18446744073709551616 ∧ Hid (U = pre ++ wordIds k m) ∧ J pre wr ∧ Below n₀ W wr) (fun nv _ => (intOf nv).toNat)
      case atStart => exact ⟨N, upTo s k, rfl, hwl, HU, hJs, hnx⟩
      case round =>
        obtain ⟨m, pre, rfl, hm, HP, hJp, hnp⟩ := hrel
        by_cases h00 : m = 0
        · subst h00
          obtain rfl : U = pre := by rw [HP.out, wordIds_zero, List.append_nil]
          rw [show ((0 : Nat) : Int) = 0 from rfl]
          gi_wp2
          go_roundw
          case rel => exact ⟨k + 1, by omega, by go_num, by rw [HUE.out]; exact hJp, hnp⟩
          case measure => simp [intOf]; omega
        · obtain ⟨hz, hnext⟩ := low_next m h00 hm
          have htz := c_tz m hm h00
          have HNX := Lib.hid (wordIds_next k m h00 hm)
          have hlen : pre.length < 256 := by
            have := congrArg List.length HP.out
            rw [HNX.out] at this
            simp at this
            omega
          clear hnext
          generalize Lib.ctz 64 m = z at hz htz HNX
          have hand := and_pred m h00 hm
          have hml := clr_lt m h00
          have hne : ((m : Int) != 0) = true := by simp; omega
          have hm1 : (1 : Int) ≤ m := by omega
          have hm2 : (m : Int) < 18446744073709551616 := by omega
          generalize m &&& (m - 1) = m' at hand hml HNX
          obtain ⟨fn, tmps, assign, body, hy, hR⟩ := hY pre (64 * (k : Int) + (z : Int)) wr hJp hlen
          gi_wp2
          refine ⟨trivial, wide_deep, ?_⟩
          refine (callsIn_wide.2 (htz _ (tab_below hT hn₀ hnp))).mono ?_
          rintro e w' ⟨rfl, rfl⟩
          gi_wp2
          refine ⟨wide_deep, hR.mono ?_⟩
          rintro e W3 (⟨rfl, hJ3, hk3⟩ | ⟨rfl, hJx3⟩)
          · gi_wp2
            go_roundw
            case rel => exact ⟨m', pre ++ [64 * (k : Int) + (z : Int)], rfl, by omega, Lib.hid (by rw [HP.out, HNX.out, List.append_assoc]; rfl), hJ3, hnp.trans hk3⟩
            case measure => simp [intOf]; omega
          · gi_wp2
            refine bodyPost_ret (results_none rfl _ _ _) rfl ?_
            exact ⟨⟨_, rfl⟩, .inr ⟨pre ++ [64 * (k : Int) + (z : Int)], List.IsPrefix.trans ⟨_, by rw [HP.out, HNX.out, List.append_assoc]; rfl⟩ hpr, hJx3⟩⟩
    · obtain rfl : k = 4 := by omega
      rw [upTo_4] at hJs
      gi_wp2
      go_end0
      exact ⟨⟨_, rfl⟩, .inl ⟨_, rfl, hJs⟩⟩

set_option maxHeartbeats 1000000 in
theorem all_in (n : Nat) (s : S4) (w : World) :
    CallsIn Fence.wide n Tryz.prog 156 #[s.val] w fun e w' => e = .returned (.func (.func 158) #[] #[.pointer (some ⟨w.heap.size, 0, none⟩)]) ∧ w' = w.alloc (.cells s.cs.toArray 135) := by
  refine callsIn_of_wp Tryz.func156 rfl trivial ?_ rfl
  simp only [Tryz.ntmps156, List.size_toArray, List.length_cons, List.length_nil, Nat.reduceAdd, Nat.reduceSub, Array.replicate_succ, Array.replicate_zero, List.push_toArray, List.append_toArray, List.nil_append, List.cons_append]
  gi_wp2
  go_ret
  exact ⟨rfl, rfl⟩
theorem all_stops (n : Nat) (Bn n₀ : Nat) (s : S4) (w : World) (hn₀ : n₀ ≤ w.heap.size) (hg : 0 < n₀) (hB : Blk w Bn s.cs 135) (hT : TabD w) :
    SeqStopsK Fence.wide n Tryz.prog 158 #[.pointer (some ⟨Bn, 0, none⟩)] (fun x : Int => #[Value.int .i64 x]) (Below n₀) (fun ys => ys = s.ints) (fun pre => pre <+: s.ints) 256 w := fun l J Jx W hW _ _ hY h0 =>
  all1_in n l Bn n₀ hg s J Jx hY W (hB.up hW hB.lt) (tab_below hT (by omega) hW) h0
end Go.Proofs.YtdiiilnebepfdaaGreatDoor

namespace Go.Proofs.YtdiiilnebepfdaaGreatDoor
open Go.RowKit Go.Shelf
attribute [local go_sem] Oper.semAt_some

theorem info_int : (Tryz.prog.info? 3).map (fun i => (i.zero, i.size, i.bytes)) = some (some (.int .i64 0), 1, 8) := by kernel_rfl

set_option maxRecDepth 100000 in
set_option maxHeartbeats 2000000 in
theorem list_in (n : Nat) (hn : 3 ≤ n) (s : S4) (w : World) (hT : TabD w) :
    CallsIn Fence.wide n Tryz.prog 153 #[s.val] w fun e W' => ∃ v, e = .returned v ∧ W'.ownsRow w.heap.size 3 1 v s.ints.length (s.ints.map (Value.int .i64)) ∧ Below w.heap.size w W' := by
  have h1 : 1 ≤ n := by omega
  have hg := tab_lt hT
  obtain ⟨i0, hi, hz0, hz1, hz2⟩ := info_parts info_int
  refine callsIn_of_wp_marks Tryz.func153 rfl trivial ?_ rfl
  simp only [Tryz.ntmps153, List.size_toArray, List.length_cons, List.length_nil, Nat.reduceAdd, Nat.reduceSub, Array.replicate_succ, Array.replicate_zero, List.push_toArray, List.append_toArray, List.nil_append, List.cons_append]
  gi_wp2
  refine ⟨trivial, (all_in _ s _).mono ?_⟩
  rintro e w' ⟨rfl, rfl⟩
  gi_wp2
  have bO := Boxed.new (w.alloc (.cells s.cs.toArray 135)) 26 (.slice none 0 0)
  rw [World.size_alloc] at bO
  have bN := Blk.new' ((w.alloc (.cells s.cs.toArray 135)).alloc (.cells #[.slice none 0 0] 26)) s.cs 135 (w.heap.size + 1 + 1) (by simp)
  have hB0 : Below w.heap.size w (((w.alloc (.cells s.cs.toArray 135)).alloc (.cells #[.slice none 0 0] 26)).alloc (.cells s.cs.toArray 135)) := (((Below.refl _ w).alloc (Nat.le_refl _) _).alloc (by simp) _).alloc (by simp; omega) _
  refine wpIn_rangeFunc_ownG rfl h1 (gf := 158) (lb := #[.pointer (some ⟨w.heap.size + 1 + 1, 0, none⟩)]) rfl trivial (enters_of Tryz.func158 (by kernel_rfl) rfl)
    (all_stops (n - 1) (w.heap.size + 1 + 1) w.heap.size s _ (by simp; omega) hg bN (tab_below hT hg hB0)) belowK_t (belowK_b (by simp; omega)) (Below.refl _ _) (fun _ => rfl)
    (fun pre W => (∃ v, Boxed W (w.heap.size + 1) 26 v ∧ W.ownsRow w.heap.size 3 1 v pre.length (pre.map (Value.int .i64)) ∧ True) ∧ Below w.heap.size w W)
    (fun _ _ _ => False)
    (OwnFrom.and (Own.from (holdsRow_own w.heap.size (w.heap.size + 1) 26 3 1 (fun pre : List Int => pre.length) (fun pre => pre.map (Value.int .i64)) (fun _ _ => True)) _) (ownFrom_below (Nat.le_refl _) (by simp; omega)))
    (fun _ _ _ _ _ hs _ _ => hs)
    ⟨⟨_, bO.alloc _, World.ownsRow_nil _ _ _ _, trivial⟩, hB0⟩
    (fun x => { tmps := #[s.val, .pointer (some ⟨w.heap.size, 0, none⟩), .slice none 0 0, .pointer (some ⟨w.heap.size + 1, 0, none⟩), .int .i64 x, s.val, .func (.func 158) #[] #[.pointer (some ⟨w.heap.size + 1 + 1, 0, none⟩)], .int .i64 x, undef, undef, undef, undef, undef], defers := [] }) ?assign ?body ?done ?stop
  case assign =>
    intro l x W K hK
    gi_wp2
    exact hK
  case body =>
    rintro l pre x W ⟨⟨v, hv, hrow, -⟩, hB⟩ hlt
    have hc := hv.cell
    gi_wp2_with (gi_at_builtin; refine wpListIn_append_own _ rfl _ _ 26 rfl w.heap.size 3 i0 (.int .i64 0) 1 8 Tryz.underlying26 hi hz0 hz1 hz2 rfl (by decide) _ _ _ rfl (hrow.alloc _) ⟨W.heap.size, 0, none⟩ 1 1 [.int .i64 x] rfl rfl (cell_one_new _ _ _) (by simp [Value.oneCell']) (by unfold maxLen; omega) (by omega) (by have := hB.size; simp; omega) ?_; intro v' w1 hown' hgrow _; obtain ⟨g', cap', rfl⟩ := ownsRow_succ hown'; obtain ⟨hv1, hv2, hr2, hk2, hb2⟩ := hv.appended (by decide) hrow hB.size (by omega) hown' hgrow; have hc1 := hv1.cell; have hf1 := hv1.frozen)
    exact ⟨hk2.from _, hb2, ⟨_, hv2, by simpa using hr2, trivial⟩, hB.trans hb2⟩
  case done =>
    rintro D ys W hD rfl ⟨⟨v, hv, hrow, -⟩, hB⟩ hK
    have hc := hv.cell
    gi_wp2
    refine ⟨by simp, .inl ⟨_, _, rfl, run_takeDeferred hK, ?_⟩⟩
    exact ⟨_, results_tmp rfl _ _ _, v, rfl, ownsRow_putObj hrow _ hK rfl, hB.trans (belowK_b (w := w) (Nat.le_refl _) W D _ _ (by simp at hD; omega) hK rfl rfl)⟩
  case stop =>
    rintro D c pre W _ _ h _
    exact h.elim
theorem c_list (s : S4) (w : World) (hT : TabD w) : Calls Tryz.prog 153 #[s.val] w (IntsPost w s.ints) :=
  (callsIn_wide.1 (list_in 3 (by omega) s w hT)).mono fun _ _ ⟨_, he, ho, hb⟩ => he ▸ IntsPost.of ho hb
end Go.Proofs.YtdiiilnebepfdaaGreatDoor

namespace Go.Proofs.YtdiiilnebepfdaaGreatDoor
open Go.RowKit Go.Shelf
attribute [local go_sem] Oper.semAt_some

def NextPost (L : List Int) (x : Int) (w : World) (e : Ending) (w' : World) : Prop := e = .returned (.tuple #[.int .i64 (nextL L x).1, .bool (nextL L x).2]) ∧ Below w.heap.size w w'

set_option maxRecDepth 100000 in
set_option maxHeartbeats 2000000 in
theorem next_in (n : Nat) (hn : 3 ≤ n) (s : S4) (from_ : Int) (w : World) (hT : TabD w) :
    CallsIn Fence.wide n Tryz.prog 154 #[s.val, .int .i64 from_] w (NextPost s.ints from_ w) := by
  have h1 : 1 ≤ n := by omega
  have hg := tab_lt hT
  refine callsIn_of_wp_marks Tryz.func154 rfl trivial ?_ rfl
  simp only [Tryz.ntmps154, List.size_toArray, List.length_cons, List.length_nil, Nat.reduceAdd, Nat.reduceSub, Array.replicate_succ, Array.replicate_zero, List.push_toArray, List.append_toArray, List.nil_append, List.cons_append]
  gi_wp2
  refine ⟨trivial, (all_in _ s _).mono ?_⟩
  rintro e w' ⟨rfl, rfl⟩
  gi_wp2
  have hB0 : Below w.heap.size w (((((w.alloc (.cells s.cs.toArray 135)).alloc (.cells #[.int .i64 from_] 3)).alloc (.cells #[.int .i64 0] 3)).alloc (.cells #[.bool false] 4)).alloc (.cells s.cs.toArray 135)) := (((((Below.refl _ w).alloc (Nat.le_refl _) _).alloc (by simp) _).alloc (by simp; omega) _).alloc (by simp; omega) _).alloc (by simp; omega) _
  have b1 := ((Blk.new' (w.alloc (.cells s.cs.toArray 135)) [.int .i64 from_] 3 (w.heap.size + 1) (by simp)).alloc (.cells #[.int .i64 0] 3)).alloc (.cells #[.bool false] 4) |>.alloc (.cells s.cs.toArray 135)
  have b2 := ((Blk.new' ((w.alloc (.cells s.cs.toArray 135)).alloc (.cells #[.int .i64 from_] 3)) [.int .i64 0] 3 (w.heap.size + 1 + 1) (by simp)).alloc (.cells #[.bool false] 4)).alloc (.cells s.cs.toArray 135)
  have b3 := (Blk.new' (((w.alloc (.cells s.cs.toArray 135)).alloc (.cells #[.int .i64 from_] 3)).alloc (.cells #[.int .i64 0] 3)) [.bool false] 4 (w.heap.size + 1 + 1 + 1) (by simp)).alloc (.cells s.cs.toArray 135)
  have b4 := Blk.new' ((((w.alloc (.cells s.cs.toArray 135)).alloc (.cells #[.int .i64 from_] 3)).alloc (.cells #[.int .i64 0] 3)).alloc (.cells #[.bool false] 4)) s.cs 135 (w.heap.size + 1 + 1 + 1 + 1) (by simp)
  refine wpIn_rangeFunc_ownF rfl h1 (gf := 158) (lb := #[.pointer (some ⟨w.heap.size + 1 + 1 + 1 + 1, 0, none⟩)]) rfl trivial (enters_of Tryz.func158 (by kernel_rfl) rfl)
    (all_stops (n - 1) (w.heap.size + 1 + 1 + 1 + 1) w.heap.size s _ (by simp; omega) hg b4 (tab_below hT hg hB0)) belowK_t (belowK_b (by simp; omega)) (Below.refl _ _) (fun _ => rfl)
    (fun pre W => ((∀ y ∈ pre, y < from_) ∧ W.cell? ⟨w.heap.size + 1, 0, none⟩ = some (.int .i64 from_) ∧ W.cell? ⟨w.heap.size + 1 + 1, 0, none⟩ = some (.int .i64 0) ∧ W.frozen? ⟨w.heap.size + 1 + 1, 0, none⟩ = false ∧ W.cell? ⟨w.heap.size + 1 + 1 + 1, 0, none⟩ = some (.bool false) ∧ W.frozen? ⟨w.heap.size + 1 + 1 + 1, 0, none⟩ = false) ∧ Below w.heap.size w W)
    (fun c pre W => (c = .ret ∧ ∃ q x, pre = q ++ [x] ∧ (∀ y ∈ q, y < from_) ∧ from_ ≤ x ∧ W.cell? ⟨w.heap.size + 1 + 1, 0, none⟩ = some (.int .i64 x) ∧ W.cell? ⟨w.heap.size + 1 + 1 + 1, 0, none⟩ = some (.bool true)) ∧ Below w.heap.size w W)
    (OwnFrom.and (Own.from (fun s A B row hs hg hr => ⟨hs.1, cell_kept hs.2.1 hg hr, cell_kept hs.2.2.1 hg hr, (frozen_kept hs.2.2.1 hg hr).trans hs.2.2.2.1, cell_kept hs.2.2.2.2.1 hg hr, (frozen_kept hs.2.2.2.2.1 hg hr).trans hs.2.2.2.2.2⟩) _) (ownFrom_below (Nat.le_refl _) (by simp; omega)))
    (fun c => OwnFrom.and (Own.from (fun s A B row hs hg hr => by
      obtain ⟨h1, q, x, h2, h3, h4, h5, h6⟩ := hs
      exact ⟨h1, q, x, h2, h3, h4, cell_kept h5 hg hr, cell_kept h6 hg hr⟩) _) (ownFrom_below (Nat.le_refl _) (by simp; omega)))
    ⟨⟨by simp, b1.cell 0 _ rfl, b2.cell 0 _ rfl, b2.free 0, b3.cell 0 _ rfl, b3.free 0⟩, hB0⟩
    (fun x => { tmps := #[s.val, .int .i64 from_, .pointer (some ⟨w.heap.size, 0, none⟩), .pointer (some ⟨w.heap.size + 1, 0, none⟩), .pointer (some ⟨w.heap.size + 1 + 1, 0, none⟩), .pointer (some ⟨w.heap.size + 1 + 1 + 1, 0, none⟩), .int .i64 x, s.val, .func (.func 158) #[] #[.pointer (some ⟨w.heap.size + 1 + 1 + 1 + 1, 0, none⟩)], .int .i64 x, undef, undef, undef, undef], defers := [] }) ?assign ?body ?done ?stop
  case assign =>
    intro l x W K hK
    gi_wp2
    exact hK
  case body =>
    rintro l pre x W ⟨⟨hp, hc1, hc2, hf2, hc3, hf3⟩, hB⟩ _
    by_cases hx : from_ ≤ x
    · gi_wp2
      refine ⟨(KeepsOthers.setCell _ _ _).trans (KeepsOthers.setCell _ _ _), ⟨rfl, pre, x, rfl, hp, hx, ?_, ?_⟩, (hB.setCell (p := ⟨w.heap.size + 1 + 1, 0, none⟩) (by simp; omega) _).setCell (p := ⟨w.heap.size + 1 + 1 + 1, 0, none⟩) (by simp; omega) _⟩
      · rw [World.cell?_setCell_other _ _ _ _ (by simp)]
        exact World.cell?_setCell_same' _ _ _ (by rw [hc2]; rfl)
      · exact World.cell?_setCell_same' _ _ _ (by rw [World.cell?_setCell_other _ _ _ _ (by simp), hc3]; rfl)
    · have hx' : x < from_ := by omega
      gi_wp2
      exact ⟨KeepsOthers.refl _, Below.refl _ _, ⟨fun y hy => (List.mem_append.1 hy).elim (hp y) (fun e => by simp at e; omega), hc1, hc2, hf2, hc3, hf3⟩, hB⟩
  case done =>
    rintro D ys W hD rfl ⟨⟨hp, hc1, hc2, hf2, hc3, hf3⟩, hB⟩ hK
    have HP := nextL_no hp
    clear hp
    have HP := Lib.hid HP
    gi_wp2
    have hK2 := ((KeepsOthers.setCell W ⟨w.heap.size + 1 + 1, 0, none⟩ (.int .i64 0)).trans (KeepsOthers.setCell _ ⟨w.heap.size + 1 + 1 + 1, 0, none⟩ (.bool false))).same D _ hK rfl
    have d2 : ((W.setCell ⟨w.heap.size + 1 + 1, 0, none⟩ (.int .i64 0)).setCell ⟨w.heap.size + 1 + 1 + 1, 0, none⟩ (.bool false)).cell? ⟨w.heap.size + 1 + 1, 0, none⟩ = some (.int .i64 0) := by
      rw [World.cell?_setCell_other _ _ _ _ (by simp)]
      exact World.cell?_setCell_same' _ _ _ (by rw [hc2]; rfl)
    have d3 : ((W.setCell ⟨w.heap.size + 1 + 1, 0, none⟩ (.int .i64 0)).setCell ⟨w.heap.size + 1 + 1 + 1, 0, none⟩ (.bool false)).cell? ⟨w.heap.size + 1 + 1 + 1, 0, none⟩ = some (.bool false) :=
      World.cell?_setCell_same' _ _ _ (by rw [World.cell?_setCell_other _ _ _ _ (by simp), hc3]; rfl)
    have e2 := cell_kept d2 (grownBy_putObj' _ D (.deferred none)) (fun r e => by cases e; exact ⟨_, hK2, rfl⟩)
    have e3 := cell_kept d3 (grownBy_putObj' _ D (.deferred none)) (fun r e => by cases e; exact ⟨_, hK2, rfl⟩)
    refine ⟨by simp, .inl ⟨_, _, rfl, run_takeDeferred hK2, ?_⟩⟩
    refine ⟨.tuple #[.int .i64 0, .bool false], ?_, by rw [HP.out], ((hB.setCell (p := ⟨w.heap.size + 1 + 1, 0, none⟩) (by simp; omega) _).setCell (p := ⟨w.heap.size + 1 + 1 + 1, 0, none⟩) (by simp; omega) _).trans (belowK_b (w := w) (Nat.le_refl _) _ D _ _ (by simp at hD; omega) hK2 rfl rfl)⟩
    simp [results, Tryz.f154, go_sem, e2, e3]
  case stop =>
    rintro D c pre W hD hpre ⟨⟨rfl, q, x, rfl, hq, hx, hc2, hc3⟩, hB⟩ hK
    obtain ⟨r, hr⟩ := hpre
    have HP := nextL_yes (r := r) hq hx
    have HR := Lib.hid (show s.ints = q ++ x :: r by rw [← hr, List.append_assoc]; rfl)
    clear hr
    have HP := Lib.hid HP
    gi_wp2
    have e2 := cell_kept hc2 (grownBy_putObj' _ D (.deferred none)) (fun r e => by cases e; exact ⟨_, hK, rfl⟩)
    have e3 := cell_kept hc3 (grownBy_putObj' _ D (.deferred none)) (fun r e => by cases e; exact ⟨_, hK, rfl⟩)
    refine ⟨by simp, .inl ⟨_, _, rfl, run_takeDeferred hK, ?_⟩⟩
    refine ⟨.tuple #[.int .i64 x, .bool true], ?_, by rw [HR.out, HP.out], hB.trans (belowK_b (w := w) (Nat.le_refl _) W D _ _ (by simp at hD; omega) hK rfl rfl)⟩
    simp [results, Tryz.f154, go_sem, e2, e3]
theorem c_next (s : S4) (from_ : Int) (w : World) (hT : TabD w) : Calls Tryz.prog 154 #[s.val, .int .i64 from_] w (NextPost s.ints from_ w) :=
  callsIn_wide.1 (next_in 3 (by omega) s from_ w hT)
end Go.Proofs.YtdiiilnebepfdaaGreatDoor

namespace Go.Proofs.YtdiiilnebepfdaaGreatDoor
open Go.RowKit

theorem c_subB {s t : S4} {b : Bool} (h : s.sub t = b) (w : World) : Calls Tryz.prog 155 #[s.val, t.val] w fun e w' => e = .returned (.bool b) ∧ Below w.heap.size w w' := by
  rw [← h]
  exact c_sub s t w
theorem c_nextS (s : S4) (x : Int) (w : World) (hT : TabD w) {y : Int} {b : Bool} (h : nextL s.ints x = (y, b)) :
    Calls Tryz.prog 154 #[s.val, .int .i64 x] w fun e w' => e = .returned (.tuple #[.int .i64 y, .bool b]) ∧ Below w.heap.size w w' := by
  have := c_next s x w hT
  unfold NextPost at this
  rw [h] at this
  exact this
theorem c_hasB (s : S4) (x : Int) (w : World) {b : Bool} (h : hasL s.ints x = b) : Calls Tryz.prog 97 #[s.val, .int .i64 x] w fun e w' => e = .returned (.bool b) ∧ Below w.heap.size w w' := by
  rw [← h]
  exact c_has s x w
end Go.Proofs.YtdiiilnebepfdaaGreatDoor

namespace Go.Proofs.YtdiiilnebepfdaaGreatDoor
open Go.RowKit

/-- The first that is not below x, of a list. -/
theorem hasL_cons_no {L : List Int} {x : Int} (h : ∀ y ∈ L, y ≠ x) : hasL L x = false := by
  unfold hasL
  rw [decide_eq_false_iff_not]
  exact fun hx => h x hx rfl
set_option maxHeartbeats 1000000 in
theorem c_rhas {w : World} {pl : Nat → Prop} {A : Option Addr} {c : Nat} {L : List Int} (h : RD w pl 1 A L.length (L.map (Value.int .i64))) (hlen : L.length ≤ 1000) (x : Int) :
    Calls Tryz.prog 67 #[.slice A L.length c, .int .i64 x] w fun e w' => e = .returned (.bool (hasL L x)) ∧ w = w' := by
  go_enter Tryz.func67, Tryz.ntmps67
  go_wp2
  go_loop [5] (fun i => ∃ k : Nat, k ≤ L.length ∧ i = .int .i64 k ∧ Hid (∀ y ∈ L.take k, y ≠ x)) (fun i => L.length - (intOf i).toNat)
  case atStart => exact ⟨0, Nat.zero_le _, rfl, Lib.hid (by simp)⟩
  case round =>
    obtain ⟨k, hk, rfl, hno⟩ := hrel
    by_cases hlt : k < L.length
    · obtain ⟨bA, oA, rfl, _, _, hcA⟩ := h.at_ (by omega)
      have h1 := hcA k (.int .i64 L[k]) (by simp [hlt])
      have HN := Lib.hid (take_next L k L[k] (List.getElem?_eq_getElem hlt))
      have HM := Lib.hid (List.getElem_mem hlt)
      clear h hcA
      generalize L[k] = y at h1 HN HM
      by_cases hy : y = x
      · subst hy
        have hb : (y == y) = true := by simp
        have HR := Lib.hid (show hasL L y = true by unfold hasL; rw [decide_eq_true_iff]; exact HM.out)
        go_wp2
        go_ret
        exact ⟨by rw [HR.out]; rfl, rfl⟩
      · have hb : (y == x) = false := by simpa using hy
        have HY := Lib.hid hy
        clear hy
        go_wp2
        go_round
        case rel => exact ⟨k + 1, by omega, by go_num, Lib.hid (by
          rw [HN.out]
          intro z hz
          rcases List.mem_append.1 hz with hz | hz
          · exact hno.out z hz
          · rw [List.mem_singleton.1 hz]
            exact HY.out)⟩
        case measure => simp [intOf]; omega
    · obtain rfl : k = L.length := by omega
      have HR := Lib.hid (show hasL L x = false from hasL_cons_no (by have := hno.out; rwa [List.take_length] at this))
      clear h
      go_wp2
      go_ret
      exact ⟨by rw [HR.out]; rfl, rfl⟩

end Go.Proofs.YtdiiilnebepfdaaGreatDoor

namespace Go.Proofs.YtdiiilnebepfdaaGreatDoor
open Go.RowKit

def ofK (L : List Int) (k : Nat) : List Int := ((List.range k).filter fun i : Nat => hasL L i).map fun i : Nat => (i : Int)
theorem ofK_all (L : List Int) : ofK L 256 = ofL L := rfl
theorem ofK_len (L : List Int) (k : Nat) : (ofK L k).length ≤ k := by
  unfold ofK
  rw [List.length_map]
  have := List.length_filter_le (fun i : Nat => hasL L i) (List.range k)
  simpa using this
theorem ofK_yes {L : List Int} {k : Nat} (h : hasL L k = true) : ofK L (k + 1) = ofK L k ++ [(k : Int)] := by
  unfold ofK
  rw [List.range_succ, List.filter_append, List.map_append]
  simp [h]
theorem ofK_no {L : List Int} {k : Nat} (h : hasL L k = false) : ofK L (k + 1) = ofK L k := by
  unfold ofK
  rw [List.range_succ, List.filter_append, List.map_append]
  simp [h]
set_option maxHeartbeats 1000000 in
theorem c_rof {w : World} {pl : Nat → Prop} {A : Option Addr} {c : Nat} {L : List Int} (h0 : RD w pl 1 A L.length (L.map (Value.int .i64))) (hlen : L.length ≤ 1000) :
    Calls Tryz.prog 128 #[.slice A L.length c] w (IntsPost w (ofL L)) := by
  go_enter Tryz.func128, Tryz.ntmps128
  go_wp2
  go_loopw [3, 4] (fun v i wr => ∃ k : Nat, k ≤ 256 ∧ i = .int .i64 k ∧ wr.ownsRow w.heap.size 3 1 v (ofK L k).length ((ofK L k).map (Value.int .i64)) ∧ Below w.heap.size w wr) (fun _ i _ => 256 - (intOf i).toNat)
  case atStart => exact ⟨0, Nat.zero_le _, rfl, World.ownsRow_nil _ _ _ _, Below.refl _ _⟩
  case round =>
    obtain ⟨k, hk, rfl, hown, hb⟩ := hrel
    have h := h0.below hb
    have hlk := ofK_len L k
    have hsz := hb.size
    by_cases hlt : k < 256
    · by_cases hh : hasL L k = true
      · have cH := c_rhas (c := c) h hlen k
        rw [hh] at cH
        have HN := Lib.hid (ofK_yes hh)
        have CH := Lib.hid cH
        clear h0 h hh cH
        go_wp2_with (first | (go_at_call 67; refine Calls.mono CH.out ?_; rintro e w' ⟨rfl, rfl⟩) | (at_builtin; refine wpList_app ei_int rfl (.tmp 12) (.tmp 14) rfl _ _ rfl (hown.alloc _) rfl (RD.one (by simp)) (by simp [Value.oneCell']) (by omega) (by simp; omega) ?_; intro v' w2 hown1 hb1))
        go_roundw
        case rel => exact ⟨k + 1, by omega, by go_num, by rw [HN.out, List.map_append, List.length_append]; exact hown1, (up_trans hb (up_alloc _ _)).trans hb1⟩
        case measure => simp [intOf]; omega
      · have hh' : hasL L k = false := by simpa using hh
        have cH := c_rhas (c := c) h hlen k
        rw [hh'] at cH
        have HN := Lib.hid (ofK_no hh')
        have CH := Lib.hid cH
        clear h0 h hh hh' cH
        go_wp2_with (first | (go_at_call 67; refine Calls.mono CH.out ?_; rintro e w' ⟨rfl, rfl⟩))
        go_roundw
        case rel => exact ⟨k + 1, by omega, by go_num, by rw [HN.out]; exact hown, hb⟩
        case measure => simp [intOf]; omega
    · obtain rfl : k = 256 := by omega
      rw [ofK_all] at hown
      rw [show ((256 : Nat) : Int) = 256 from rfl]
      clear h h0
      go_wp2
      go_ret
      exact IntsPost.of hown hb

/-- Below the call's start, from a later world. -/
theorem IntsPost.later {w w1 : World} {zs : List Int} {e : Ending} {w' : World} (hb : Below w.heap.size w w1) (h : IntsPost w1 zs e w') : IntsPost w zs e w' := by
  obtain ⟨A, c, h1, h2, h3, h4, h5⟩ := h
  exact ⟨A, c, h1, h2, h3, h4.lo fun b hb' => Nat.le_trans hb.size hb', up_trans hb h5⟩

theorem c_rof' {w : World} {pl : Nat → Prop} {A : Option Addr} {c n : Nat} (L : List Int) (hn : n = L.length) (h0 : RD w pl 1 A n (L.map (Value.int .i64))) (hlen : n ≤ 1000) :
    Calls Tryz.prog 128 #[.slice A n c] w (IntsPost w (ofL L)) := by
  subst hn
  exact c_rof h0 hlen
end Go.Proofs.YtdiiilnebepfdaaGreatDoor

namespace Go.Proofs.YtdiiilnebepfdaaGreatDoor
open Go.RowKit

set_option maxHeartbeats 1000000 in
theorem c_radd {w : World} {pl : Nat → Prop} {A : Option Addr} {c : Nat} {L : List Int} (h : RD w pl 1 A L.length (L.map (Value.int .i64))) (hlen : L.length ≤ 400) (x : Int) :
    Calls Tryz.prog 133 #[.slice A L.length c, .int .i64 x] w (IntsPost w (ofL (L ++ [x]))) := by
  have HL := Lib.hid (show L.length + 1 = (L ++ [x]).length by simp)
  have HM := Lib.hid (show (L ++ [x]).map (Value.int .i64) = L.map (Value.int .i64) ++ [.int .i64 x] by simp)
  generalize L ++ [x] = M at HL HM
  have HX := Lib.hid (int_cells .i64 L)
  generalize L.map (Value.int .i64) = xs at h HM HX
  generalize L.length = n at h hlen HL
  go_enter Tryz.func133, Tryz.ntmps133
  go_wp2_with (first
    | (at_builtin; refine wpList_app ei_int rfl (.const (.slice none 0 0)) (.tmp 5) rfl (.slice none 0 0) [] rfl (World.ownsRow_nil _ w.heap.size _ _) rfl h HX.out (by omega) (Nat.le_refl _) ?_; intro v' w2 hown hb2; simp only [Nat.zero_add, List.nil_append] at hown; have hz2 := hb2.size)
    | (at_builtin; refine wpList_app ei_int rfl (.tmp 6) (.tmp 8) rfl _ _ rfl (hown.alloc _) rfl (RD.one (by simp)) (by simp [Value.oneCell']) (by omega) (by simp; omega) ?_; intro v'' w3 hown3 hb3; obtain ⟨A3, c3, rfl, hn3, hc3, hr3⟩ := own_slice hown3)
    | (go_at_call 128; refine Calls.mono (c_rof' M HL.out (by rw [HM.out]; exact hr3) (by omega)) ?_; rintro e w4 ⟨A4, c4, rfl, h41, h42, h43, h44⟩))
  go_ret
  exact ⟨A4, c4, rfl, h41, h42, h43.lo fun b hb => by have := hb3.size; simp at this; omega, ((hb2.trans ((up_alloc _ _).mono hz2)).trans (hb3.mono (Nat.le_refl _))).trans (h44.mono (by have := hb3.size; simp at this; omega))⟩
end Go.Proofs.YtdiiilnebepfdaaGreatDoor

namespace Go.Proofs.YtdiiilnebepfdaaGreatDoor
open Go.RowKit

end Go.Proofs.YtdiiilnebepfdaaGreatDoor

namespace Go.Proofs.YtdiiilnebepfdaaGreatDoor
open Go.RowKit

set_option maxHeartbeats 1000000 in
theorem c_bsless {w : World} {pl : Nat → Prop} {A : Option Addr} {c : Nat} {L : List Int} (h0 : RD w pl 1 A L.length (L.map (Value.int .i64))) (hlen : L.length ≤ 1000) {pl2 : Nat → Prop} {A2 : Option Addr} {c2 : Nat} {M : List Int} (hM : RD w pl2 1 A2 M.length (M.map (Value.int .i64))) (hlenM : M.length ≤ 1000) :
    Calls Tryz.prog 146 #[.slice A L.length c, .slice A2 M.length c2] w (IntsPost w (L.filter fun y => !hasL M y)) := by
  go_enter Tryz.func146, Tryz.ntmps146
  go_wp2
  go_loopw [5, 6] (fun v i wr => ∃ k : Nat, k ≤ L.length ∧ i = .int .i64 k ∧ wr.ownsRow w.heap.size 3 1 v ((L.take k).filter (fun y : Int => !hasL M y)).length (((L.take k).filter (fun y : Int => !hasL M y)).map (Value.int .i64)) ∧ Below w.heap.size w wr) (fun _ i _ => L.length - (intOf i).toNat)
  case atStart => exact ⟨0, Nat.zero_le _, rfl, World.ownsRow_nil _ _ _ _, Below.refl _ _⟩
  case round =>
    obtain ⟨k, hk, rfl, hown, hb⟩ := hrel
    have h := h0.below hb
    have hsz := hb.size
    have hlk : ((L.take k).filter (fun y : Int => !hasL M y)).length ≤ 1000 := by
      have := List.length_filter_le (fun y : Int => !hasL M y) (L.take k)
      rw [List.length_take] at this
      omega
    by_cases hlt : k < L.length
    · obtain ⟨bA, oA, rfl, _, _, hcA⟩ := h.at_ (by omega)
      have h1 := hcA k (.int .i64 L[k]) (by simp [hlt])
      have hn := take_next L k L[k] (List.getElem?_eq_getElem hlt)
      have cH := c_rhas (c := c2) (hM.below hb) hlenM L[k]
      clear h hcA h0
      generalize L[k] = y at h1 hn cH
      by_cases hy : hasL M y = false
      · have hb1 := hy
        have HN := Lib.hid (show (L.take (k + 1)).filter (fun y : Int => !hasL M y) = (L.take k).filter (fun y : Int => !hasL M y) ++ [y] by rw [hn, List.filter_append]; simp [hb1])
        rw [hb1] at cH
        have CH := Lib.hid cH
        clear cH
        clear hn hy hb1
        go_wp2_with (first | (go_at_call 67; refine Calls.mono CH.out ?_; rintro e w' ⟨rfl, rfl⟩) | (at_builtin; refine wpList_app ei_int rfl (.tmp 20) (.tmp 25) rfl _ _ rfl (hown.alloc _) rfl (RD.one (by simp)) (by simp [Value.oneCell']) (by omega) (by simp; omega) ?_; intro v' w2 hown1 hb1))
        go_roundw
        case rel => exact ⟨k + 1, by omega, by go_num, by rw [HN.out, List.map_append, List.length_append]; exact hown1, (up_trans hb (up_alloc _ _)).trans hb1⟩
        case measure => simp [intOf]; omega
      · have hb1 : hasL M y = true := by simpa using hy
        have HN := Lib.hid (show (L.take (k + 1)).filter (fun y : Int => !hasL M y) = (L.take k).filter (fun y : Int => !hasL M y) by rw [hn, List.filter_append]; simp [hb1])
        rw [hb1] at cH
        have CH := Lib.hid cH
        clear cH
        clear hn hy hb1
        go_wp2_with (first | (go_at_call 67; refine Calls.mono CH.out ?_; rintro e w' ⟨rfl, rfl⟩))
        go_roundw
        case rel => exact ⟨k + 1, by omega, by go_num, by rw [HN.out]; exact hown, hb⟩
        case measure => simp [intOf]; omega
    · obtain rfl : k = L.length := by omega
      rw [List.take_length] at hown
      clear h h0
      go_wp2
      go_ret
      exact IntsPost.of hown hb
end Go.Proofs.YtdiiilnebepfdaaGreatDoor

namespace Go.Proofs.YtdiiilnebepfdaaGreatDoor
open Go.RowKit

theorem c_bsfine (x : Int) (h0 : 0 ≤ x) (h1 : x < 256) (w : World) :
    Calls Tryz.prog 145 #[.int .i64 x] w fun e w' => e = .returned (.bool true) ∧ w = w' := by
  have h2 : x ≤ 255 := by omega
  go_enter Tryz.func145, Tryz.ntmps145
  go_wp2
  go_ret
  exact ⟨rfl, rfl⟩

theorem or_set0 (S : S4) (x : Int) (r : Nat) (h0 : 0 ≤ x) (h1 : x < 256) (hq : x / 64 = 0) (hr : x % 64 = (r : Int)) :
    (S.uni (S4.only x)).cs = S.cs.set 0 (.int .u64 (bits .or .u64 (S.a.toNat : Int) (IntKind.u64.wrap (2 ^ r)))) := by
  obtain ⟨k, rfl⟩ : ∃ k : Nat, x = k := ⟨x.toNat, by omega⟩
  have e1 : k / 64 = 0 := by omega
  have e2 : k % 64 = r := by omega
  rw [pow_bv r (by omega), or_bv]
  unfold S4.only
  rw [if_pos ⟨h0, h1⟩, Int.toNat_natCast]
  simp [S4.cs, S4.uni, S4.one, e1, e2]
theorem or_set1 (S : S4) (x : Int) (r : Nat) (h0 : 0 ≤ x) (h1 : x < 256) (hq : x / 64 = 1) (hr : x % 64 = (r : Int)) :
    (S.uni (S4.only x)).cs = S.cs.set 1 (.int .u64 (bits .or .u64 (S.b.toNat : Int) (IntKind.u64.wrap (2 ^ r)))) := by
  obtain ⟨k, rfl⟩ : ∃ k : Nat, x = k := ⟨x.toNat, by omega⟩
  have e1 : k / 64 = 1 := by omega
  have e2 : k % 64 = r := by omega
  rw [pow_bv r (by omega), or_bv]
  unfold S4.only
  rw [if_pos ⟨h0, h1⟩, Int.toNat_natCast]
  simp [S4.cs, S4.uni, S4.one, e1, e2]
theorem or_set2 (S : S4) (x : Int) (r : Nat) (h0 : 0 ≤ x) (h1 : x < 256) (hq : x / 64 = 2) (hr : x % 64 = (r : Int)) :
    (S.uni (S4.only x)).cs = S.cs.set 2 (.int .u64 (bits .or .u64 (S.c.toNat : Int) (IntKind.u64.wrap (2 ^ r)))) := by
  obtain ⟨k, rfl⟩ : ∃ k : Nat, x = k := ⟨x.toNat, by omega⟩
  have e1 : k / 64 = 2 := by omega
  have e2 : k % 64 = r := by omega
  rw [pow_bv r (by omega), or_bv]
  unfold S4.only
  rw [if_pos ⟨h0, h1⟩, Int.toNat_natCast]
  simp [S4.cs, S4.uni, S4.one, e1, e2]
theorem or_set3 (S : S4) (x : Int) (r : Nat) (h0 : 0 ≤ x) (h1 : x < 256) (hq : x / 64 = 3) (hr : x % 64 = (r : Int)) :
    (S.uni (S4.only x)).cs = S.cs.set 3 (.int .u64 (bits .or .u64 (S.d.toNat : Int) (IntKind.u64.wrap (2 ^ r)))) := by
  obtain ⟨k, rfl⟩ : ∃ k : Nat, x = k := ⟨x.toNat, by omega⟩
  have e1 : k / 64 = 3 := by omega
  have e2 : k % 64 = r := by omega
  rw [pow_bv r (by omega), or_bv]
  unfold S4.only
  rw [if_pos ⟨h0, h1⟩, Int.toNat_natCast]
  simp [S4.cs, S4.uni, S4.one, e1, e2]

set_option maxHeartbeats 2000000 in
theorem c_words {w : World} {pl : Nat → Prop} {A : Option Addr} {c : Nat} {L : List Int} (h0 : RD w pl 1 A L.length (L.map (Value.int .i64))) (hlen : L.length ≤ 1000) (hin : ∀ x ∈ L, 0 ≤ x ∧ x < 256) :
    Calls Tryz.prog 127 #[.slice A L.length c] w fun e w' => e = .returned (ofS L).val ∧ Below w.heap.size w w' := by
  have HIN := Lib.hid hin
  clear hin
  go_enter Tryz.func127, Tryz.ntmps127
  go_wp2
  go_loopw [4] (fun i wr => ∃ k : Nat, k ≤ L.length ∧ i = .int .i64 k ∧ Below w.heap.size w wr ∧ Blk wr (w.heap.size + 1) (ofS (L.take k)).cs 134 ∧ Blk wr w.heap.size S4.zero.cs 134) (fun i _ => L.length - (intOf i).toNat)
  case atStart => exact ⟨0, Nat.zero_le _, rfl, (((Below.refl _ _).alloc (Nat.le_refl _) _).alloc (by simp) _), Blk.new' _ S4.zero.cs _ _ (by simp), (Blk.new w S4.zero.cs 134).alloc _⟩
  case round =>
    obtain ⟨k, hk, rfl, hb, hB, hR⟩ := hrel
    have h := h0.below hb
    have hz := hB.lt
    by_cases hlt : k < L.length
    · obtain ⟨bA, oA, rfl, _, hlA, hcA⟩ := h.at_ (by omega)
      have h1 := hcA k (.int .i64 L[k]) (by simp [hlt])
      have HN := Lib.hid (ofS_take L k hlt)
      obtain ⟨hx0, hx1⟩ := HIN.out _ (List.getElem_mem hlt)
      clear h hcA h0
      generalize L[k] = x at h1 HN hx0 hx1
      generalize ofS (L.take k) = S at hB HN
      have c0 := hB.cell 0 _ rfl
      have c1 := hB.cell 1 _ rfl
      have c2 := hB.cell 2 _ rfl
      have c3 := hB.cell 3 _ rfl
      have f0 := hB.free 0
      have f1 := hB.free 1
      have f2 := hB.free 2
      have f3 := hB.free 3
      obtain ⟨r, hr⟩ : ∃ r : Nat, x % 64 = r := ⟨(x % 64).toNat, by omega⟩
      have hr1 : r < 64 := by omega
      rcases (by omega : x / 64 = 0 ∨ x / 64 = 1 ∨ x / 64 = 2 ∨ x / 64 = 3) with hq | hq | hq | hq
      · have HO := Lib.hid (or_set0 S x r hx0 hx1 hq hr)
        go_wp2_with (go_at_call 145; refine (c_bsfine x hx0 hx1 _).mono ?_; rintro e w' ⟨rfl, rfl⟩)
        go_region
        go_wp2
        go_roundw
        case rel => exact ⟨k + 1, by omega, by go_num, (hb.setCell (by simp) _).drew, by rw [HN.out, HO.out]; exact hB.set 0 _, hR.other _ (by simp) _⟩
        case measure => simp [intOf]; omega
      · have HO := Lib.hid (or_set1 S x r hx0 hx1 hq hr)
        go_wp2_with (go_at_call 145; refine (c_bsfine x hx0 hx1 _).mono ?_; rintro e w' ⟨rfl, rfl⟩)
        go_region
        go_wp2
        go_roundw
        case rel => exact ⟨k + 1, by omega, by go_num, (hb.setCell (by simp) _).drew, by rw [HN.out, HO.out]; exact hB.set 1 _, hR.other _ (by simp) _⟩
        case measure => simp [intOf]; omega
      · have HO := Lib.hid (or_set2 S x r hx0 hx1 hq hr)
        go_wp2_with (go_at_call 145; refine (c_bsfine x hx0 hx1 _).mono ?_; rintro e w' ⟨rfl, rfl⟩)
        go_region
        go_wp2
        go_roundw
        case rel => exact ⟨k + 1, by omega, by go_num, (hb.setCell (by simp) _).drew, by rw [HN.out, HO.out]; exact hB.set 2 _, hR.other _ (by simp) _⟩
        case measure => simp [intOf]; omega
      · have HO := Lib.hid (or_set3 S x r hx0 hx1 hq hr)
        go_wp2_with (go_at_call 145; refine (c_bsfine x hx0 hx1 _).mono ?_; rintro e w' ⟨rfl, rfl⟩)
        go_region
        go_wp2
        go_roundw
        case rel => exact ⟨k + 1, by omega, by go_num, (hb.setCell (by simp) _).drew, by rw [HN.out, HO.out]; exact hB.set 3 _, hR.other _ (by simp) _⟩
        case measure => simp [intOf]; omega
    · obtain rfl : k = L.length := by omega
      rw [List.take_length] at hB
      have c0 := hB.cell 0 _ rfl
      have c1 := hB.cell 1 _ rfl
      have c2 := hB.cell 2 _ rfl
      have c3 := hB.cell 3 _ rfl
      have r0 := hR.cell 0 _ rfl
      have r1 := hR.cell 1 _ rfl
      have r2 := hR.cell 2 _ rfl
      have r3 := hR.cell 3 _ rfl
      have g0 := hR.free 0
      have g1 := hR.free 1
      have g2 := hR.free 2
      have g3 := hR.free 3
      clear h h0
      go_wp2
      exact bodyPost_ret (v := (ofS L).val) (by simp [results, Tryz.results127, go_sem, r0, r1, r2, r3]) rfl ⟨rfl, (((hb.setCell (by simp) _).setCell (by simp) _).setCell (by simp) _).setCell (by simp) _⟩
end Go.Proofs.YtdiiilnebepfdaaGreatDoor

namespace Go.Proofs.YtdiiilnebepfdaaGreatDoor
open Go.RowKit

theorem c_rofS {w : World} {pl : Nat → Prop} {A : Option Addr} {c : Nat} {L : List Int} (h0 : RD w pl 1 A L.length (L.map (Value.int .i64))) (hlen : L.length ≤ 1000) :
    Calls Tryz.prog 128 #[.slice A L.length c] w (IntsPost w (ofS L).ints) := by
  rw [ofS_ints]
  exact c_rof h0 hlen
theorem c_rlessS {w : World} {pl pl2 : Nat → Prop} {A A2 : Option Addr} {c c2 : Nat} {s t : S4} (h : RD w pl 1 A s.ints.length (s.ints.map (Value.int .i64))) (k : RD w pl2 1 A2 t.ints.length (t.ints.map (Value.int .i64))) :
    Calls Tryz.prog 146 #[.slice A s.ints.length c, .slice A2 t.ints.length c2] w (IntsPost w (s.les t).ints) := by
  have h1 := len_le s
  have h2 := len_le t
  unfold S4.len at h1 h2
  have := c_bsless (c := c) (c2 := c2) h (by omega) k (by omega)
  unfold S4.ints at this
  rw [rise_less] at this
  rw [les_ints]
  exact this
theorem c_raddS {w : World} {pl : Nat → Prop} {A : Option Addr} {c : Nat} {s : S4} (h : RD w pl 1 A s.ints.length (s.ints.map (Value.int .i64))) (x : Int) :
    Calls Tryz.prog 133 #[.slice A s.ints.length c, .int .i64 x] w (IntsPost w (s.uni (S4.only x)).ints) := by
  have h1 := len_le s
  unfold S4.len at h1
  have := c_radd (c := c) h (by omega) x
  unfold S4.ints at this
  rw [ofL_add] at this
  rw [add_ints]
  exact this
theorem c_wordsS {w : World} {pl : Nat → Prop} {A : Option Addr} {c : Nat} {s : S4} (h0 : RD w pl 1 A s.ints.length (s.ints.map (Value.int .i64))) :
    Calls Tryz.prog 127 #[.slice A s.ints.length c] w fun e w' => e = .returned s.val ∧ Below w.heap.size w w' := by
  have h1 := len_le s
  unfold S4.len at h1
  have := c_words (c := c) h0 (by omega) (fun x hx => rise_range s.has x hx)
  rw [ofS_of_ints] at this
  exact this
theorem c_rhasS {w : World} {pl : Nat → Prop} {A : Option Addr} {c : Nat} {s : S4} (h0 : RD w pl 1 A s.ints.length (s.ints.map (Value.int .i64))) (x : Int) :
    Calls Tryz.prog 67 #[.slice A s.ints.length c, .int .i64 x] w fun e w' => e = .returned (.bool (hasL s.ints x)) ∧ Below w.heap.size w w' := by
  have h1 := len_le s
  unfold S4.len at h1
  exact same_below (c_rhas h0 (by omega) x)
theorem c_rhasB {w : World} {pl : Nat → Prop} {A : Option Addr} {c : Nat} {s : S4} (h0 : RD w pl 1 A s.ints.length (s.ints.map (Value.int .i64))) (x : Int) {b : Bool} (h : hasL s.ints x = b) :
    Calls Tryz.prog 67 #[.slice A s.ints.length c, .int .i64 x] w fun e w' => e = .returned (.bool b) ∧ Below w.heap.size w w' := by
  rw [← h]
  exact c_rhasS h0 x
end Go.Proofs.YtdiiilnebepfdaaGreatDoor
