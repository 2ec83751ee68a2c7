/- Plain maths: sets of ids as four words of 64 bits; their lists; the document's lists. -/
import Derived.Test.YtlplfnfaoaomkaaDoorBa
namespace Go.Proofs.YtlplfnfaoaomkaaDoor

structure S4 where
  a : BitVec 64
  b : BitVec 64
  c : BitVec 64
  d : BitVec 64
def S4.w (s : S4) (k : Nat) : BitVec 64 := match k with
  | 0 => s.a
  | 1 => s.b
  | 2 => s.c
  | 3 => s.d
  | _ => 0#64
/-- Whether i is in s. -/
def S4.has (s : S4) (i : Nat) : Bool := (s.w (i / 64)).toNat.testBit (i % 64)
def S4.zero : S4 := ⟨0#64, 0#64, 0#64, 0#64⟩
def S4.uni (s t : S4) : S4 := ⟨s.a ||| t.a, s.b ||| t.b, s.c ||| t.c, s.d ||| t.d⟩
def S4.int (s t : S4) : S4 := ⟨s.a &&& t.a, s.b &&& t.b, s.c &&& t.c, s.d &&& t.d⟩
def S4.les (s t : S4) : S4 := ⟨s.a &&& ~~~t.a, s.b &&& ~~~t.b, s.c &&& ~~~t.c, s.d &&& ~~~t.d⟩
/-- The set of one id. -/
def S4.one (i : Nat) : S4 := ⟨if i / 64 = 0 then BitVec.twoPow 64 (i % 64) else 0#64, if i / 64 = 1 then BitVec.twoPow 64 (i % 64) else 0#64, if i / 64 = 2 then BitVec.twoPow 64 (i % 64) else 0#64, if i / 64 = 3 then BitVec.twoPow 64 (i % 64) else 0#64⟩
/-- The set of a number: of none, if it is no id. -/
def S4.only (x : Int) : S4 := if 0 ≤ x ∧ x < 256 then S4.one x.toNat else S4.zero

theorem w_lt (s : S4) (k : Nat) : (s.w k).toNat < 18446744073709551616 := (s.w k).isLt
theorem w_over (s : S4) (k : Nat) (h : 4 ≤ k) : s.w k = 0#64 := by
  match k, h with
  | k + 4, _ => rfl
theorem has_over (s : S4) (i : Nat) (h : 256 ≤ i) : s.has i = false := by
  unfold S4.has
  rw [w_over s _ (by omega)]
  simp
theorem w_cases (P : Nat → Prop) (h0 : P 0) (h1 : P 1) (h2 : P 2) (h3 : P 3) (k : Nat) (hk : k < 4) : P k := by
  match k, hk with
  | 0, _ => exact h0
  | 1, _ => exact h1
  | 2, _ => exact h2
  | 3, _ => exact h3
theorem uni_w (s t : S4) (k : Nat) (hk : k < 4) : (s.uni t).w k = s.w k ||| t.w k := w_cases (fun k => (s.uni t).w k = s.w k ||| t.w k) rfl rfl rfl rfl k hk
theorem int_w (s t : S4) (k : Nat) (hk : k < 4) : (s.int t).w k = s.w k &&& t.w k := w_cases (fun k => (s.int t).w k = s.w k &&& t.w k) rfl rfl rfl rfl k hk
theorem les_w (s t : S4) (k : Nat) (hk : k < 4) : (s.les t).w k = s.w k &&& ~~~(t.w k) := w_cases (fun k => (s.les t).w k = s.w k &&& ~~~(t.w k)) rfl rfl rfl rfl k hk
theorem one_w (i k : Nat) (hk : k < 4) : (S4.one i).w k = if i / 64 = k then BitVec.twoPow 64 (i % 64) else 0#64 := w_cases (fun k => (S4.one i).w k = if i / 64 = k then BitVec.twoPow 64 (i % 64) else 0#64) rfl rfl rfl rfl k hk
theorem S4.ext4 {s t : S4} (h0 : s.a = t.a) (h1 : s.b = t.b) (h2 : s.c = t.c) (h3 : s.d = t.d) : s = t := by
  obtain ⟨a, b, c, d⟩ := s
  obtain ⟨a', b', c', d'⟩ := t
  simp only at h0 h1 h2 h3
  rw [h0, h1, h2, h3]
theorem S4.ext_w {s t : S4} (h : ∀ k, k < 4 → s.w k = t.w k) : s = t := by
  obtain ⟨a, b, c, d⟩ := s
  obtain ⟨a', b', c', d'⟩ := t
  have h0 := h 0 (by omega)
  have h1 := h 1 (by omega)
  have h2 := h 2 (by omega)
  have h3 := h 3 (by omega)
  simp only [S4.w] at h0 h1 h2 h3
  rw [h0, h1, h2, h3]
theorem S4.ext_has {s t : S4} (h : ∀ i, i < 256 → s.has i = t.has i) : s = t := by
  refine S4.ext_w fun k hk => ?_
  apply BitVec.eq_of_getLsbD_eq
  intro i hi
  have := h (64 * k + i) (by omega)
  unfold S4.has at this
  rw [show (64 * k + i) / 64 = k by omega, show (64 * k + i) % 64 = i by omega] at this
  exact this
theorem uni_has (s t : S4) (i : Nat) (hi : i < 256) : (s.uni t).has i = (s.has i || t.has i) := by
  unfold S4.has
  rw [uni_w _ _ _ (by omega), BitVec.toNat_or, Nat.testBit_or]
theorem int_has (s t : S4) (i : Nat) (hi : i < 256) : (s.int t).has i = (s.has i && t.has i) := by
  unfold S4.has
  rw [int_w _ _ _ (by omega), BitVec.toNat_and, Nat.testBit_and]
theorem les_has (s t : S4) (i : Nat) (hi : i < 256) : (s.les t).has i = (s.has i && !t.has i) := by
  unfold S4.has
  rw [les_w _ _ _ (by omega)]
  show (s.w (i / 64) &&& ~~~(t.w (i / 64))).getLsbD (i % 64) = ((s.w (i / 64)).getLsbD (i % 64) && !(t.w (i / 64)).getLsbD (i % 64))
  rw [BitVec.getLsbD_and, BitVec.getLsbD_not]
  have : i % 64 < 64 := Nat.mod_lt _ (by omega)
  simp [this]
theorem zero_has (i : Nat) : S4.zero.has i = false := by
  unfold S4.has
  by_cases h : i / 64 < 4
  · rw [w_cases (fun k => S4.zero.w k = 0#64) rfl rfl rfl rfl _ h]
    simp
  · rw [w_over _ _ (by omega)]
    simp
theorem one_has (j i : Nat) (hi : i < 256) : (S4.one j).has i = decide (i = j) := by
  unfold S4.has
  rw [one_w _ _ (by omega)]
  split
  · show (BitVec.twoPow 64 (j % 64)).getLsbD (i % 64) = _
    rw [BitVec.getLsbD_twoPow]
    have : i % 64 < 64 := Nat.mod_lt _ (by omega)
    rw [Bool.eq_iff_iff]
    simp
    omega
  · simp
    omega
theorem only_has (x : Int) (i : Nat) (hi : i < 256) : (S4.only x).has i = decide ((i : Int) = x) := by
  unfold S4.only
  split
  · rw [one_has _ _ hi, decide_eq_decide]
    omega
  · rw [zero_has]
    symm
    rw [decide_eq_false_iff_not]
    omega

/-- The ids of which p speaks, rising, as ints. -/
def rise (p : Nat → Bool) : List Int := ((List.range 256).filter p).map fun i : Nat => (i : Int)
def S4.ints (s : S4) : List Int := rise s.has
def hasL (L : List Int) (x : Int) : Bool := decide (x ∈ L)
theorem rise_congr {p q : Nat → Bool} (h : ∀ i, i < 256 → p i = q i) : rise p = rise q := by
  unfold rise
  rw [List.filter_congr fun i hi => h i (List.mem_range.1 hi)]
theorem rise_le (p : Nat → Bool) : (rise p).length ≤ 256 := by
  unfold rise
  rw [List.length_map]
  have := List.length_filter_le p (List.range 256)
  simpa using this
theorem mem_rise (p : Nat → Bool) (x : Int) : x ∈ rise p ↔ ∃ i : Nat, i < 256 ∧ p i = true ∧ (i : Int) = x := by
  unfold rise
  simp only [List.mem_map, List.mem_filter, List.mem_range]
  constructor
  · rintro ⟨i, ⟨h1, h2⟩, h3⟩
    exact ⟨i, h1, h2, h3⟩
  · rintro ⟨i, h1, h2, h3⟩
    exact ⟨i, ⟨h1, h2⟩, h3⟩
theorem hasL_rise (p : Nat → Bool) (i : Nat) (hi : i < 256) : hasL (rise p) i = p i := by
  unfold hasL
  rw [Bool.eq_iff_iff, decide_eq_true_iff, mem_rise]
  constructor
  · rintro ⟨j, _, h2, h3⟩
    obtain rfl : j = i := by omega
    exact h2
  · exact fun h => ⟨i, hi, h, rfl⟩
theorem hasL_no (p : Nat → Bool) (x : Int) (h : x < 0 ∨ 256 ≤ x) : hasL (rise p) x = false := by
  unfold hasL
  rw [decide_eq_false_iff_not, mem_rise]
  rintro ⟨j, h1, _, h3⟩
  omega
theorem rise_range (p : Nat → Bool) (x : Int) (h : x ∈ rise p) : 0 ≤ x ∧ x < 256 := by
  obtain ⟨j, h1, _, h3⟩ := (mem_rise p x).1 h
  omega
/-- The document's set of a list. -/
def ofL (L : List Int) : List Int := rise fun i => hasL L i
theorem ofL_app (p q : Nat → Bool) : ofL (rise p ++ rise q) = rise fun i => p i || q i := by
  refine rise_congr fun i hi => ?_
  have h1 := hasL_rise p i hi
  have h2 := hasL_rise q i hi
  unfold hasL at *
  simp only [List.mem_append, Bool.decide_or, h1, h2]
theorem ofL_add (p : Nat → Bool) (x : Int) : ofL (rise p ++ [x]) = rise fun i => p i || decide ((i : Int) = x) := by
  refine rise_congr fun i hi => ?_
  have h1 := hasL_rise p i hi
  unfold hasL at *
  simp only [List.mem_append, Bool.decide_or, h1, List.mem_singleton]
theorem rise_filter (p : Nat → Bool) (q : Int → Bool) : (rise p).filter q = rise fun i => p i && q i := by
  unfold rise
  rw [List.filter_map, List.filter_filter]
  congr 1
  apply List.filter_congr
  intro i _
  simp [Bool.and_comm]
theorem rise_inter (p q : Nat → Bool) : (rise p).filter (fun x => hasL (rise q) x) = rise fun i => p i && q i := by
  rw [rise_filter]
  exact rise_congr fun i hi => by rw [hasL_rise q i hi]
theorem rise_less (p q : Nat → Bool) : (rise p).filter (fun x => !hasL (rise q) x) = rise fun i => p i && !q i := by
  rw [rise_filter]
  exact rise_congr fun i hi => by rw [hasL_rise q i hi]
theorem rise_drop (p : Nat → Bool) (x : Int) : (rise p).filter (fun y => y != x) = rise fun i => p i && !decide ((i : Int) = x) := by
  rw [rise_filter]
  refine rise_congr fun i hi => ?_
  congr 1

theorem uni_ints (s t : S4) : (s.uni t).ints = rise fun i => s.has i || t.has i := rise_congr fun i hi => uni_has s t i hi
theorem int_ints (s t : S4) : (s.int t).ints = rise fun i => s.has i && t.has i := rise_congr fun i hi => int_has s t i hi
theorem les_ints (s t : S4) : (s.les t).ints = rise fun i => s.has i && !t.has i := rise_congr fun i hi => les_has s t i hi
theorem add_ints (s : S4) (x : Int) : (s.uni (S4.only x)).ints = rise fun i => s.has i || decide ((i : Int) = x) := rise_congr fun i hi => by rw [uni_has s _ i hi, only_has x i hi]
theorem drop_ints (s : S4) (x : Int) : (s.les (S4.only x)).ints = rise fun i => s.has i && !decide ((i : Int) = x) := rise_congr fun i hi => by rw [les_has s _ i hi, only_has x i hi]

/-- The set of a list's ids. -/
def ofS (L : List Int) : S4 := L.foldl (fun s x => s.uni (S4.only x)) S4.zero
theorem foldS_has : ∀ (L : List Int) (s : S4) (i : Nat), i < 256 → (L.foldl (fun s x => s.uni (S4.only x)) s).has i = (s.has i || hasL L i)
  | [], s, i, _ => by simp [hasL]
  | x :: L, s, i, hi => by
    rw [List.foldl_cons, foldS_has L _ i hi, uni_has _ _ _ hi, only_has _ _ hi]
    unfold hasL
    simp only [List.mem_cons, Bool.decide_or, Bool.or_assoc]
theorem ofS_has (L : List Int) (i : Nat) (hi : i < 256) : (ofS L).has i = hasL L i := by
  unfold ofS
  rw [foldS_has L _ i hi, zero_has, Bool.false_or]
theorem ofS_ints (L : List Int) : (ofS L).ints = ofL L := rise_congr fun i hi => ofS_has L i hi
theorem ofS_of_ints (s : S4) : ofS s.ints = s := S4.ext_has fun i hi => by rw [ofS_has _ i hi]; exact hasL_rise _ i hi
theorem ofS_take (L : List Int) (k : Nat) (hk : k < L.length) : ofS (L.take (k + 1)) = (ofS (L.take k)).uni (S4.only L[k]) := by
  unfold ofS
  rw [List.take_succ_eq_append_getElem hk, List.foldl_append]
  rfl

/-- The ids of the first k words. -/
def upTo (s : S4) (k : Nat) : List Int := ((List.range (64 * k)).filter s.has).map fun i : Nat => (i : Int)
theorem upTo_4 (s : S4) : upTo s 4 = s.ints := rfl
theorem upTo_0 (s : S4) : upTo s 0 = [] := rfl
/-- The ids that a word's number n stands for. -/
def wordIds (k n : Nat) : List Int := (lowN 64 n).map fun i : Nat => 64 * (k : Int) + (i : Int)
theorem upTo_succ (s : S4) (k : Nat) : upTo s (k + 1) = upTo s k ++ wordIds k (s.w k).toNat := by
  unfold upTo wordIds lowN
  rw [Nat.mul_succ, List.range_add, List.filter_append, List.map_append]
  congr 1
  rw [List.filter_map, List.map_map]
  have e : (List.range 64).filter (s.has ∘ fun i => 64 * k + i) = (List.range 64).filter (s.w k).toNat.testBit := by
    apply List.filter_congr
    intro i hi
    have hi := List.mem_range.1 hi
    simp only [Function.comp_apply, S4.has]
    rw [show (64 * k + i) / 64 = k by omega, show (64 * k + i) % 64 = i by omega]
  rw [e]
  apply List.map_congr_left
  intro i _
  simp
theorem wordIds_zero (k : Nat) : wordIds k 0 = [] := by simp [wordIds, low_zero]
theorem wordIds_next (k n : Nat) (h0 : n ≠ 0) (h : n < 18446744073709551616) : wordIds k n = (64 * (k : Int) + (Lib.ctz 64 n : Int)) :: wordIds k (n &&& (n - 1)) := by
  unfold wordIds
  rw [(low_next n h0 h).2]
  rfl
theorem wordIds_len (k n : Nat) : (wordIds k n).length = cntN 64 n := by simp [wordIds, cntN]
theorem ints_len (s : S4) : s.ints.length = cntN 64 s.a.toNat + cntN 64 s.b.toNat + cntN 64 s.c.toNat + cntN 64 s.d.toNat := by
  rw [← upTo_4, upTo_succ, upTo_succ, upTo_succ, upTo_succ, upTo_0]
  simp only [List.length_append, wordIds_len, List.length_nil]
  have : ∀ k, k < 4 → True := fun _ _ => trivial
  show 0 + cntN 64 (s.w 0).toNat + cntN 64 (s.w 1).toNat + cntN 64 (s.w 2).toNat + cntN 64 (s.w 3).toNat = _
  simp only [S4.w, Nat.zero_add]
def S4.len (s : S4) : Nat := s.ints.length
theorem len_le (s : S4) : s.len ≤ 256 := rise_le _

/-- The laws of sets. -/
theorem uni_comm (s t : S4) : s.uni t = t.uni s := S4.ext_has fun i hi => by rw [uni_has _ _ _ hi, uni_has _ _ _ hi, Bool.or_comm]
theorem int_comm (s t : S4) : s.int t = t.int s := S4.ext_has fun i hi => by rw [int_has _ _ _ hi, int_has _ _ _ hi, Bool.and_comm]
theorem int_uni (s t u : S4) : s.int (t.uni u) = (s.int t).uni (s.int u) := S4.ext_has fun i hi => by
  rw [int_has _ _ _ hi, uni_has _ _ _ hi, uni_has _ _ _ hi, int_has _ _ _ hi, int_has _ _ _ hi, Bool.and_or_distrib_left]
theorem les_int (s t : S4) : (s.les t).uni (s.int t) = s := S4.ext_has fun i hi => by
  rw [uni_has _ _ _ hi, les_has _ _ _ hi, int_has _ _ _ hi]
  cases s.has i <;> cases t.has i <;> rfl
theorem les_off (s t : S4) : (s.les t).int t = S4.zero := S4.ext_has fun i hi => by
  rw [int_has _ _ _ hi, les_has _ _ _ hi, zero_has]
  cases s.has i <;> cases t.has i <;> rfl
theorem int_sub (s t : S4) : (s.int t).les t = S4.zero := S4.ext_has fun i hi => by
  rw [les_has _ _ _ hi, int_has _ _ _ hi, zero_has]
  cases s.has i <;> cases t.has i <;> rfl
theorem filter_part {α : Type} (p q : α → Bool) : ∀ l : List α, (l.filter fun x => p x && !q x).length + (l.filter fun x => p x && q x).length = (l.filter p).length
  | [] => rfl
  | x :: l => by
    have ih := filter_part p q l
    simp only [List.filter_cons]
    cases p x <;> cases q x <;> simp <;> omega
theorem len_part (s t : S4) : (s.les t).len + (s.int t).len = s.len := by
  unfold S4.len
  rw [les_ints, int_ints]
  unfold S4.ints rise
  simp only [List.length_map]
  exact filter_part _ _ _
/-- Whether all of s is in t. -/
def S4.sub (s t : S4) : Bool := decide ((s.les t).ints.length = 0)
theorem zero_ints : S4.zero.ints = [] := by
  unfold S4.ints rise
  rw [List.filter_eq_nil_iff.2 fun i _ => by rw [zero_has]; simp]
  rfl
theorem ints_zero {s : S4} (h : s.ints = []) : s = S4.zero := by rw [← ofS_of_ints s, h]; rfl
theorem ints_zero_iff (s : S4) : s = S4.zero ↔ s.ints.length = 0 := by
  constructor
  · rintro rfl
    rw [zero_ints]
    rfl
  · exact fun h => ints_zero (List.eq_nil_of_length_eq_zero h)

/-- The first one that is not below x. -/
def nextL (L : List Int) (x : Int) : Int × Bool := match L.find? (fun y => decide (x ≤ y)) with
  | some y => (y, true)
  | none => (0, false)
theorem nextL_no {L : List Int} {x : Int} (h : ∀ y ∈ L, y < x) : nextL L x = (0, false) := by
  have : L.find? (fun y => decide (x ≤ y)) = none := by
    rw [List.find?_eq_none]
    intro y hy
    have := h y hy
    simp
    omega
  unfold nextL
  rw [this]
theorem nextL_yes {q r : List Int} {x y : Int} (h : ∀ z ∈ q, z < x) (hy : x ≤ y) : nextL (q ++ y :: r) x = (y, true) := by
  have h0 : q.find? (fun y => decide (x ≤ y)) = none := by
    rw [List.find?_eq_none]
    intro y hy
    have := h y hy
    simp
    omega
  have : (q ++ y :: r).find? (fun y => decide (x ≤ y)) = some y := by
    rw [List.find?_append, h0, List.find?_cons_of_pos (by simp; exact hy)]
    rfl
  unfold nextL
  rw [this]
end Go.Proofs.YtlplfnfaoaomkaaDoor
