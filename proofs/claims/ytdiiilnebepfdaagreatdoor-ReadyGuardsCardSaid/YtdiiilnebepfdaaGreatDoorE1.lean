/- Events, as plain data: which may be, their order, their texts, and what a text is read as. Package event: letter, most, below, ranged, own, Check. Slices of events: one of them, their cells. The document's events, compared. -/
import Derived.Test.YtdiiilnebepfdaaGreatDoorA1
import Derived.Test.YtdiiilnebepfdaaGreatDoorA2
import Derived.Lib.Bytealg
import Derived.Lib.Strings
import Derived.Test.YtdiiilnebepfdaaGreatDoorRows
import Derived.WalkKit
import Derived.WalkSpells
import Derived.LoopTactic
import Derived.BigRegion
import Derived.BigQuiet
import Derived.Deep.QuietTactic
import Derived.Lib.QuietBelow
import Derived.Lib.Hide
import Derived.IntWalk
import Derived.Laws.StructEq
import Derived.Deep.CutBlock
namespace Go.Proofs.YtdiiilnebepfdaaGreatDoor

/-- An event: its kind, its object, its process, its guard's number. -/
structure EV where
  (k o h n : Int)
instance : Inhabited EV := ⟨⟨0, 0, 0, 0⟩⟩
def evC (e : EV) : List Value := [.int .i64 e.k, .int .i64 e.o, .int .i64 e.h, .int .i64 e.n]
theorem evC_len (e : EV) : (evC e).length = 4 := rfl
theorem evC_one (e : EV) : ∀ v ∈ evC e, v.oneCell' = true := by
  intro v hv
  simp only [evC, List.mem_cons, List.not_mem_nil, or_false] at hv
  rcases hv with rfl | rfl | rfl | rfl <;> rfl
theorem ev_ext {a b : EV} (h1 : a.k = b.k) (h2 : a.o = b.o) (h3 : a.h = b.h) (h4 : a.n = b.n) : a = b := by
  obtain ⟨k, o, h, n⟩ := a
  obtain ⟨k', o', h', n'⟩ := b
  simp only at h1 h2 h3 h4
  rw [h1, h2, h3, h4]

/- The letter of a kind, and what may be. -/
def evLtr (k : Int) : List UInt8 := if k = 1 then [98] else if k = 2 ∨ k = 3 ∨ k = 4 then [99] else []
theorem ltr_ways (k : Int) : (evLtr k = [98] ∧ 1 ≤ k ∧ k ≤ 4) ∨ (evLtr k = [99] ∧ 1 ≤ k ∧ k ≤ 4) ∨ (evLtr k = [] ∧ (k < 1 ∨ 4 < k)) := by
  unfold evLtr
  split
  · exact .inl ⟨rfl, by omega, by omega⟩
  · split
    · exact .inr (.inl ⟨rfl, by omega, by omega⟩)
    · exact .inr (.inr ⟨rfl, by omega⟩)
def evIn (n m : Int) : Bool := decide (0 ≤ n) && decide (n < m)
theorem evIn_t {n m : Int} (h : evIn n m = true) : 0 ≤ n ∧ n < m := by simpa [evIn] using h
theorem evIn_f {n m : Int} (h : evIn n m = false) : n < 0 ∨ m ≤ n := by simp [evIn] at h; omega
def evChk (k o h n : Int) : Int := if k < 1 ∨ 8 < k then 12 else if k ≤ 4 then (if o < 0 ∨ 7 < o then 8 else if h ≠ 0 ∨ n ≠ 0 then 3 else 0) else (if h < 0 ∨ 15 < h ∨ n < 0 ∨ 5 < n then 8 else if o ≠ 0 then 3 else 0)
theorem evChk_out {k o h n : Int} (hk : k < 1 ∨ 8 < k) : evChk k o h n = 12 := if_pos hk
/-- What the program asks: whether the fields of a kind may be. -/
def evRng (k o h n : Int) : Bool := if evLtr k = [] then evIn h 16 && evIn n 6 else evIn o 8
/-- The fields that a kind has. -/
def evOo (k o : Int) : Int := if evLtr k = [] then 0 else o
def evOh (k h : Int) : Int := if evLtr k = [] then h else 0
def evOff (k o h n : Int) : Bool := !((k == k) && (o == evOo k o) && (h == evOh k h) && (n == evOh k n))
theorem evChk_rng {k o h n : Int} (hk : ¬ (k < 1 ∨ 8 < k)) (hr : evRng k o h n = false) : evChk k o h n = 8 := by
  unfold evChk
  rw [if_neg hk]
  unfold evRng at hr
  rcases ltr_ways k with ⟨hl, h1, h2⟩ | ⟨hl, h1, h2⟩ | ⟨hl, h1⟩
  · rw [hl, if_neg (by decide)] at hr
    rw [if_pos h2, if_pos (by have := evIn_f hr; omega)]
  · rw [hl, if_neg (by decide)] at hr
    rw [if_pos h2, if_pos (by have := evIn_f hr; omega)]
  · rw [hl, if_pos rfl, Bool.and_eq_false_iff] at hr
    rw [if_neg (by omega), if_pos (by rcases hr with h' | h' <;> have := evIn_f h' <;> omega)]
theorem evChk_form {k o h n : Int} (hk : ¬ (k < 1 ∨ 8 < k)) (hr : evRng k o h n = true) (b : Bool) (hb : evOff k o h n = b) : evChk k o h n = if b = true then 3 else 0 := by
  unfold evChk
  rw [if_neg hk]
  unfold evRng at hr
  unfold evOff evOo evOh at hb
  rcases ltr_ways k with ⟨hl, h1, h2⟩ | ⟨hl, h1, h2⟩ | ⟨hl, h1⟩
  · rw [hl, if_neg (by decide)] at hr
    rw [if_pos h2, if_neg (by have := evIn_t hr; omega), ← hb, hl]
    by_cases a : h = 0 <;> by_cases c : n = 0 <;> simp [a, c]
  · rw [hl, if_neg (by decide)] at hr
    rw [if_pos h2, if_neg (by have := evIn_t hr; omega), ← hb, hl]
    by_cases a : h = 0 <;> by_cases c : n = 0 <;> simp [a, c]
  · rw [hl, if_pos rfl, Bool.and_eq_true] at hr
    have i1 := evIn_t hr.1
    have i2 := evIn_t hr.2
    rw [if_neg (by omega), if_neg (by omega), ← hb, hl]
    by_cases a : o = 0 <;> simp [a]
/-- What is known of an event that may be. -/
structure EvFit (k o h n : Int) : Prop where
  k0 : 1 ≤ k
  k1 : k ≤ 8
  o0 : 0 ≤ o
  o1 : o ≤ 7
  h0 : 0 ≤ h
  h1 : h ≤ 15
  n0 : 0 ≤ n
  n1 : n ≤ 5
  low : k ≤ 4 → h = 0 ∧ n = 0
  high : 4 < k → o = 0
theorem evFit_of {k o h n : Int} (hc : evChk k o h n = 0) : EvFit k o h n := by
  unfold evChk at hc
  split at hc
  · exact absurd hc (by decide)
  · split at hc
    · split at hc
      · exact absurd hc (by decide)
      · split at hc
        · exact absurd hc (by decide)
        · constructor <;> omega
    · split at hc
      · exact absurd hc (by decide)
      · split at hc
        · exact absurd hc (by decide)
        · constructor <;> omega

/- The kinds' words. -/
def evNms : List (List UInt8) := [[], [102, 105, 114, 101], [112, 97, 115, 115], [112, 117, 116], [116, 97, 107, 101], [98, 97, 110, 101], [100, 117, 101], [103, 111, 110, 101], [102, 114, 101, 101]]
def evNm (k : Nat) : List UInt8 := evNms.getD k []
theorem evNm_len (k : Nat) : (evNm k).length ≤ 4 := by
  match k with
  | 0 | 1 | 2 | 3 | 4 | 5 | 6 | 7 | 8 => decide
  | k + 9 => simp [evNm, evNms]
def evFrom : Nat → Nat → List UInt8 → Nat
  | 0, _, _ => 0
  | m + 1, k, l => if evNm k == l then k else evFrom m (k + 1) l
/-- The kind of a word, or 0. -/
def evFind (l : List UInt8) : Nat := evFrom 8 1 l
/-- The last one of the first words that it is. -/
def evLast : Nat → List UInt8 → Nat
  | 0, _ => 0
  | i + 1, l => if l == evNm (i + 1) then i + 1 else evLast i l
theorem evLast_eq (l : List UInt8) : evLast 8 l = evFind l := by
  by_cases h : l = evNm 1 ∨ l = evNm 2 ∨ l = evNm 3 ∨ l = evNm 4 ∨ l = evNm 5 ∨ l = evNm 6 ∨ l = evNm 7 ∨ l = evNm 8
  · rcases h with rfl | rfl | rfl | rfl | rfl | rfl | rfl | rfl <;> decide
  · simp only [not_or] at h
    obtain ⟨h1, h2, h3, h4, h5, h6, h7, h8⟩ := h
    have e : ∀ {a b : List UInt8}, ¬ a = b → (a == b) = false := fun h => beq_eq_false_iff_ne.2 h
    simp only [evLast, evFind, evFrom, e h1, e h2, e h3, e h4, e h5, e h6, e h7, e h8, e (Ne.symm h1), e (Ne.symm h2), e (Ne.symm h3), e (Ne.symm h4), e (Ne.symm h5), e (Ne.symm h6), e (Ne.symm h7), e (Ne.symm h8)]
    rfl
theorem evFrom_bd : ∀ (m k : Nat) (l : List UInt8), evFrom m k l = 0 ∨ (k ≤ evFrom m k l ∧ evFrom m k l < k + m)
  | 0, _, _ => .inl rfl
  | m + 1, k, l => by
    unfold evFrom
    split
    · exact .inr ⟨Nat.le_refl _, by omega⟩
    · rcases evFrom_bd m (k + 1) l with h | ⟨h1, h2⟩
      · exact .inl h
      · exact .inr ⟨by omega, by omega⟩
theorem evFind_le (l : List UInt8) : evFind l ≤ 8 := by
  rcases evFrom_bd 8 1 l with h | ⟨_, h⟩
  · unfold evFind; omega
  · unfold evFind; omega
theorem evLast_le : ∀ (i : Nat) (l : List UInt8), evLast i l ≤ i
  | 0, _ => Nat.le_refl _
  | i + 1, l => by
    unfold evLast
    split
    · exact Nat.le_refl _
    · exact Nat.le_succ_of_le (evLast_le i l)
theorem evFind_nm (k : Nat) (h1 : 1 ≤ k) (h8 : k ≤ 8) : evFind (evNm k) = k := by
  match k with
  | 1 | 2 | 3 | 4 | 5 | 6 | 7 | 8 => decide
  | 0 => omega
  | k + 9 => omega

/- Texts. -/
def evD (n : Int) : List UInt8 := Lib.decDigits n.toNat
theorem evD_len {n : Int} (h1 : n ≤ 15) : (evD n).length ≤ 2 := dg_len 1 n.toNat (by omega)
theorem evD_plain (n : Int) : plainB (evD n) = true := dg_plain _
theorem evD_num (n : Int) (h : 0 ≤ n) : (numN 0 (evD n) : Int) = n := by
  unfold evD
  rw [dg_num]
  omega
theorem evD_itoa {n : Int} (h : 0 ≤ n) : Lib.itoa n = evD n := by
  unfold Lib.itoa evD
  rw [if_neg (by omega)]
def evAbt (k o h n : Int) : List UInt8 := if evLtr k = [] then evD h ++ ([46] ++ evD n) else evLtr k ++ evD o
def evTxt (k o h n : Int) : List UInt8 := if evChk k o h n = 0 then evNm k.toNat ++ ([32] ++ evAbt k o h n) else []
theorem evTxt_ok {k o h n : Int} (hc : evChk k o h n = 0) : evTxt k o h n = evNm k.toNat ++ ([32] ++ evAbt k o h n) := if_pos hc
theorem evTxt_no {k o h n : Int} (hc : evChk k o h n ≠ 0) : evTxt k o h n = [] := if_neg hc
theorem evAbt_len {k o h n : Int} (hf : EvFit k o h n) : (evAbt k o h n).length ≤ 5 := by
  have h1 := evD_len (n := o) (by have := hf.o1; omega)
  have h2 := evD_len (n := h) hf.h1
  have h3 := evD_len (n := n) (by have := hf.n1; omega)
  unfold evAbt
  split
  · simp only [List.length_append, List.length_cons, List.length_nil]; omega
  · have h4 : (evLtr k).length ≤ 1 := by
      rcases ltr_ways k with ⟨hl, _⟩ | ⟨hl, _⟩ | ⟨hl, _⟩ <;> rw [hl] <;> decide
    simp only [List.length_append]; omega
theorem evTxt_len (k o h n : Int) : (evTxt k o h n).length ≤ 10 := by
  unfold evTxt
  split
  · next hc =>
    have h1 := evAbt_len (evFit_of hc)
    have h2 := evNm_len k.toNat
    simp only [List.length_append, List.length_cons, List.length_nil]; omega
  · simp

/- What a text is read as. -/
/-- What stands ahead of the first c, and behind it. -/
def evA (c : UInt8) (l : List UInt8) : List UInt8 := l.takeWhile (fun x => !(x == c))
def evB (c : UInt8) (l : List UInt8) : List UInt8 := (l.dropWhile (fun x => !(x == c))).drop 1
theorem evA_none {c : UInt8} {l : List UInt8} (h : ∀ x ∈ l, x ≠ c) : evA c l = l ∧ evB c l = [] := by
  induction l with
  | nil => exact ⟨rfl, rfl⟩
  | cons a l ih =>
    have ha : (a == c) = false := beq_eq_false_iff_ne.2 (h a (by simp))
    obtain ⟨h1, h2⟩ := ih fun x hx => h x (by simp [hx])
    unfold evA evB at *
    simp only [List.takeWhile_cons, List.dropWhile_cons, ha, Bool.not_false, if_true]
    exact ⟨by rw [h1], h2⟩
theorem evA_some {c : UInt8} : ∀ {a b : List UInt8}, (∀ x ∈ a, x ≠ c) → evA c (a ++ c :: b) = a ∧ evB c (a ++ c :: b) = b
  | [], b, _ => by
    unfold evA evB
    simp
  | x :: a, b, h => by
    have hx : (x == c) = false := beq_eq_false_iff_ne.2 (h x (by simp))
    obtain ⟨h1, h2⟩ := evA_some (a := a) (b := b) fun y hy => h y (by simp [hy])
    unfold evA evB at *
    simp only [List.cons_append, List.takeWhile_cons, List.dropWhile_cons, hx, Bool.not_false, if_true]
    exact ⟨by rw [h1], h2⟩
theorem ix_cut (c : UInt8) : ∀ (l : List UInt8), (Lib.indexByte l c = -1 ∧ evA c l = l ∧ evB c l = []) ∨ (∃ i : Nat, Lib.indexByte l c = (i : Int) ∧ i < l.length ∧ evA c l = l.take i ∧ evB c l = l.drop (i + 1))
  | [] => .inl ⟨rfl, rfl, rfl⟩
  | a :: l => by
    by_cases h : (a == c) = true
    · refine .inr ⟨0, by simp [Lib.indexByte, h], by simp, ?_, ?_⟩
      · simp [evA, h]
      · simp [evB, h]
    · have h' : (a == c) = false := by simpa using h
      rcases ix_cut c l with ⟨h1, h2, h3⟩ | ⟨i, h1, h2, h3, h4⟩
      · refine .inl ⟨by simp [Lib.indexByte, h', h1], ?_, ?_⟩
        · simp only [evA, List.takeWhile_cons, h', Bool.not_false, if_true] at h2 ⊢
          rw [h2]
        · simpa only [evB, List.dropWhile_cons, h', Bool.not_false, if_true] using h3
      · refine .inr ⟨i + 1, ?_, by simp; omega, ?_, ?_⟩
        · have : ((i : Int) == -1) = false := by simp
          simp [Lib.indexByte, h', h1, this]
        · simp only [evA, List.takeWhile_cons, h', Bool.not_false, if_true, List.take_succ_cons] at h3 ⊢
          rw [h3]
        · simpa only [evB, List.dropWhile_cons, h', Bool.not_false, if_true, List.drop_succ_cons] using h4

/-- An event of a kind, as its rest tells it, where f tells a number of its digits; and whether it is of the form. -/
def evRead (f : List UInt8 → Int) (k : Nat) (b : List UInt8) : EV × Bool :=
  if k ≤ 4 then (⟨k, f (Lib.trimPrefix b (evLtr k)), 0, 0⟩, Lib.hasPrefix b (evLtr k) && plainB (Lib.trimPrefix b (evLtr k)))
  else (⟨k, 0, f (evA 46 b), f (evB 46 b)⟩, plainB (evA 46 b) && plainB (evB 46 b))
def evFin (e : EV) (x : Int) : EV × Int := if x = 0 then (e, 0) else (⟨0, 0, 0, 0⟩, x)
def evPar (f : List UInt8 → Int) (l : List UInt8) : EV × Int :=
  if evFind (evA 32 l) = 0 then (⟨0, 0, 0, 0⟩, 12)
  else if (evRead f (evFind (evA 32 l)) (evB 32 l)).2 = true then evFin (evRead f (evFind (evA 32 l)) (evB 32 l)).1 (evChk (evRead f (evFind (evA 32 l)) (evB 32 l)).1.k (evRead f (evFind (evA 32 l)) (evB 32 l)).1.o (evRead f (evFind (evA 32 l)) (evB 32 l)).1.h (evRead f (evFind (evA 32 l)) (evB 32 l)).1.n)
  else (⟨0, 0, 0, 0⟩, 3)
theorem evPar_kind {f : List UInt8 → Int} {l : List UInt8} (h : evFind (evA 32 l) = 0) : evPar f l = (⟨0, 0, 0, 0⟩, 12) := if_pos h
theorem evPar_form {f : List UInt8 → Int} {l : List UInt8} (h : evFind (evA 32 l) ≠ 0) (h' : (evRead f (evFind (evA 32 l)) (evB 32 l)).2 = false) : evPar f l = (⟨0, 0, 0, 0⟩, 3) := by
  unfold evPar
  rw [if_neg h, if_neg (by rw [h']; decide)]
theorem evPar_on {f : List UInt8 → Int} {l : List UInt8} {e : EV} (h : evFind (evA 32 l) ≠ 0) (h' : evRead f (evFind (evA 32 l)) (evB 32 l) = (e, true)) : evPar f l = evFin e (evChk e.k e.o e.h e.n) := by
  unfold evPar
  rw [if_neg h, h', if_pos rfl]

/-- What the program, and what the document tells of digits. -/
def evNP (l : List UInt8) : Int := if plainB l = true then (if (numN 0 l : Int) ≤ 2147483647 then (numN 0 l : Int) else 2147483647) else 0
theorem numV_min : ∀ (l : List UInt8) (n : Nat) (m : Int), l.all isDig = true → m = min (n : Int) 1000000000 → numV 1000000000 m l = min (numN n l : Int) 1000000000
  | [], n, m, _, h => h
  | c :: l, n, m, ha, h => by
    rw [List.all_cons, Bool.and_eq_true] at ha
    have hc := (isDig_iff c).1 ha.1
    rw [numN_cons]
    refine numV_min l (10 * n + (c.toNat - 48)) (numF 1000000000 m c) ha.2 ?_
    unfold numF
    omega
theorem two_nums (l : List UInt8) : (evNP l = plainV l ∧ 0 ≤ evNP l ∧ evNP l ≤ 1000000000) ∨ (1000000000 ≤ evNP l ∧ 1000000000 ≤ plainV l) := by
  cases h : plainB l
  · rw [plainV_no l h]
    unfold evNP
    rw [h]
    exact .inl ⟨rfl, by rw [if_neg (by decide)]; decide, by rw [if_neg (by decide)]; decide⟩
  · have e := numV_min l 0 0 (plain_all l h) (by decide)
    rw [plainV_of l h, e]
    unfold evNP
    rw [if_pos h]
    by_cases h1 : (numN 0 l : Int) ≤ 1000000000
    · rw [if_pos (by omega)]
      exact .inl ⟨by omega, by omega, h1⟩
    · refine .inr ⟨by split <;> omega, by omega⟩
theorem evFin_pos {e : EV} {x : Int} (h : x ≠ 0) : evFin e x = (⟨0, 0, 0, 0⟩, x) := if_neg h
theorem chk_big_low {k a h n : Int} (hk : 1 ≤ k) (h4 : k ≤ 4) (ha : 1000000000 ≤ a) : evChk k a h n = 8 := by
  unfold evChk
  rw [if_neg (by omega), if_pos h4, if_pos (by omega)]
theorem chk_big_high {k o h n : Int} (hk : 4 < k) (h8 : k ≤ 8) (ha : 1000000000 ≤ h ∨ 1000000000 ≤ n) : evChk k o h n = 8 := by
  unfold evChk
  rw [if_neg (by omega), if_neg (by omega), if_pos (by omega)]
theorem evPar_two (l : List UInt8) : evPar evNP l = evPar plainV l := by
  by_cases h0 : evFind (evA 32 l) = 0
  · rw [evPar_kind h0, evPar_kind h0]
  · have h8 := evFind_le (evA 32 l)
    obtain ⟨k, hk⟩ : ∃ k, evFind (evA 32 l) = k := ⟨_, rfl⟩
    rw [hk] at h0 h8
    have h1 : (1 : Int) ≤ k := by omega
    unfold evPar
    rw [hk, if_neg h0, if_neg h0]
    unfold evRead
    by_cases h4 : k ≤ 4
    · simp only [if_pos h4]
      split
      · rcases two_nums (Lib.trimPrefix (evB 32 l) (evLtr k)) with ⟨e, _⟩ | ⟨e1, e2⟩
        · rw [e]
        · rw [chk_big_low h1 (by omega) e1, chk_big_low h1 (by omega) e2, evFin_pos (by decide), evFin_pos (by decide)]
      · rfl
    · simp only [if_neg h4]
      split
      · rcases two_nums (evA 46 (evB 32 l)) with ⟨e, _⟩ | ⟨e1, e2⟩
        · rcases two_nums (evB 46 (evB 32 l)) with ⟨e', _⟩ | ⟨e1, e2⟩
          · rw [e, e']
          · rw [chk_big_high (by omega) (by omega) (.inr e1), chk_big_high (by omega) (by omega) (.inr e2), evFin_pos (by decide), evFin_pos (by decide)]
        · rw [chk_big_high (by omega) (by omega) (.inl e1), chk_big_high (by omega) (by omega) (.inl e2), evFin_pos (by decide), evFin_pos (by decide)]
      · rfl
theorem evNP_d {n : Int} (h0 : 0 ≤ n) (h1 : n ≤ 15) : evNP (evD n) = n := by
  unfold evNP
  rw [if_pos (evD_plain n), evD_num n h0, if_pos (by omega)]
theorem evNm_no32 (k : Nat) : ∀ x ∈ evNm k, x ≠ 32 := by
  match k with
  | 0 | 1 | 2 | 3 | 4 | 5 | 6 | 7 | 8 => decide
  | k + 9 => simp [evNm, evNms]
theorem dig_no46 {l : List UInt8} (h : l.all isDig = true) : ∀ x ∈ l, x ≠ 46 := by
  intro x hx e
  subst e
  exact absurd (List.all_eq_true.1 h _ hx) (by decide)
/-- An event comes back from its text. -/
theorem evPar_back {k o h n : Int} (hc : evChk k o h n = 0) : evPar evNP (evTxt k o h n) = (⟨k, o, h, n⟩, 0) := by
  have hf := evFit_of hc
  obtain ⟨j, rfl⟩ := Int.eq_ofNat_of_zero_le (a := k) (by have := hf.k0; omega)
  have hj1 : 1 ≤ j := by have := hf.k0; omega
  have hj8 : j ≤ 8 := by have := hf.k1; omega
  rw [evTxt_ok hc]
  simp only [Int.toNat_natCast]
  obtain ⟨a1, a2⟩ := evA_some (c := 32) (a := evNm j) (b := evAbt j o h n) (evNm_no32 j)
  have e : evNm j ++ ([32] ++ evAbt j o h n) = evNm j ++ 32 :: evAbt j o h n := rfl
  rw [e]
  have hr : evRead evNP j (evAbt j o h n) = (⟨j, o, h, n⟩, true) := by
    unfold evRead evAbt
    by_cases h4 : j ≤ 4
    · obtain ⟨r1, r2⟩ := hf.low (by omega)
      rw [if_pos h4]
      have hl : evLtr j ≠ [] ∧ Lib.hasPrefix (evLtr j ++ evD o) (evLtr j) = true ∧ Lib.trimPrefix (evLtr j ++ evD o) (evLtr j) = evD o := by
        rcases ltr_ways j with ⟨hl, _⟩ | ⟨hl, _⟩ | ⟨_, hl⟩
        · rw [hl]
          have hp : Lib.hasPrefix ([98] ++ evD o) [98] = true := by simp [Lib.hasPrefix]
          refine ⟨by decide, hp, ?_⟩
          unfold Lib.trimPrefix
          rw [if_pos hp]
          rfl
        · rw [hl]
          have hp : Lib.hasPrefix ([99] ++ evD o) [99] = true := by simp [Lib.hasPrefix]
          refine ⟨by decide, hp, ?_⟩
          unfold Lib.trimPrefix
          rw [if_pos hp]
          rfl
        · omega
      rw [if_neg hl.1, hl.2.1, hl.2.2, evD_plain, evNP_d hf.o0 (by have := hf.o1; omega), r1, r2]
      rfl
    · rw [if_neg h4]
      have hl : evLtr j = [] := by
        rcases ltr_ways j with ⟨hl, _⟩ | ⟨hl, _⟩ | ⟨hl, _⟩
        · omega
        · omega
        · exact hl
      rw [if_pos hl]
      obtain ⟨b1, b2⟩ := evA_some (c := 46) (a := evD h) (b := evD n) (dig_no46 (plain_all _ (evD_plain h)))
      have e2 : evD h ++ ([46] ++ evD n) = evD h ++ 46 :: evD n := rfl
      rw [e2, b1, b2, evD_plain, evD_plain, evNP_d hf.h0 hf.h1, evNP_d hf.n0 (by have := hf.n1; omega), hf.high (by omega)]
      rfl
  rw [evPar_on (e := ⟨j, o, h, n⟩) (by rw [a1, evFind_nm j hj1 hj8]; omega) (by rw [a1, a2, evFind_nm j hj1 hj8]; exact hr)]
  simp only [hc]
  rfl
end Go.Proofs.YtdiiilnebepfdaaGreatDoor

namespace Go.Proofs.YtdiiilnebepfdaaGreatDoor
open Go.RowKit

theorem ltr_1 : evLtr 1 = [98] := rfl
theorem ltr_c (k : Int) (h : k = 2 ∨ k = 3 ∨ k = 4) : evLtr k = [99] := by
  unfold evLtr
  rw [if_neg (by omega), if_pos h]
theorem ltr_n (k : Int) (h1 : k ≠ 1) (h : ¬ (k = 2 ∨ k = 3 ∨ k = 4)) : evLtr k = [] := by
  unfold evLtr
  rw [if_neg h1, if_neg h]

theorem rng_low {k o h n : Int} {c : UInt8} (hl : evLtr k = [c]) : evRng k o h n = evIn o 8 := by
  unfold evRng
  rw [if_neg (by rw [hl]; exact List.cons_ne_nil _ _)]
theorem rng_high {k o h n : Int} (hl : evLtr k = []) : evRng k o h n = (evIn h 16 && evIn n 6) := by
  unfold evRng
  rw [if_pos hl]

theorem oo_low {k o : Int} {c : UInt8} (hl : evLtr k = [c]) : evOo k o = o := by
  unfold evOo
  rw [if_neg (by rw [hl]; exact List.cons_ne_nil _ _)]
theorem oh_low {k o : Int} {c : UInt8} (hl : evLtr k = [c]) : evOh k o = 0 := by
  unfold evOh
  rw [if_neg (by rw [hl]; exact List.cons_ne_nil _ _)]
theorem oo_high {k o : Int} (hl : evLtr k = []) : evOo k o = 0 := by
  unfold evOo
  rw [if_pos hl]
theorem oh_high {k o : Int} (hl : evLtr k = []) : evOh k o = o := by
  unfold evOh
  rw [if_pos hl]

theorem eq_ev (d : Nat) (k o h n k' o' h' n' : Int) (w : World) : (Op.equalIn (d + 2) 32 (.agg #[.int .i64 k, .int .i64 o, .int .i64 h, .int .i64 n]) (.agg #[.int .i64 k', .int .i64 o', .int .i64 h', .int .i64 n'])).run Tryz.prog w = .ok ((k == k') && (o == o') && (h == h') && (n == n')) w := by
  have hS : Tryz.prog.underlying 32 = some (.struct (Tryz.prog.fieldsOf 32)) := by kernel_rfl
  have hp : Tryz.prog.stoodInHeld 32 = false := by kernel_rfl
  have p0 : ∀ (a b c e : Int) w, (part 3 #[.int .i64 a, .int .i64 b, .int .i64 c, .int .i64 e] 0).run Tryz.prog w = .ok (.int .i64 a) w := fun a b c e w => by kernel_rfl
  have p1 : ∀ (a b c e : Int) w, (part 3 #[.int .i64 a, .int .i64 b, .int .i64 c, .int .i64 e] 1).run Tryz.prog w = .ok (.int .i64 b) w := fun a b c e w => by kernel_rfl
  have p2 : ∀ (a b c e : Int) w, (part 3 #[.int .i64 a, .int .i64 b, .int .i64 c, .int .i64 e] 2).run Tryz.prog w = .ok (.int .i64 c) w := fun a b c e w => by kernel_rfl
  have p3 : ∀ (a b c e : Int) w, (part 3 #[.int .i64 a, .int .i64 b, .int .i64 c, .int .i64 e] 3).run Tryz.prog w = .ok (.int .i64 e) w := fun a b c e w => by kernel_rfl
  have q : ∀ (x y : Int) w, (Op.equalIn (d + 1) 3 (.int .i64 x) (.int .i64 y)).run Tryz.prog w = .ok (x == y) w := fun x y w => run_equalIn_int w d _ .i64 .i64 x y Tryz.underlying3
  rw [show d + 2 = (d + 1) + 1 from rfl, run_equalIn_agg w (d + 1) 32 _ _ hS hp]
  simp only [Program.fieldsOf, Tryz.underlying32]
  have a0 := p0 k o h n
  have a1 := p1 k o h n
  have a2 := p2 k o h n
  have a3 := p3 k o h n
  have b0 := p0 k' o' h' n'
  have b1 := p1 k' o' h' n'
  have b2 := p2 k' o' h' n'
  have b3 := p3 k' o' h' n'
  clear p0 p1 p2 p3
  generalize (#[.int .i64 k, .int .i64 o, .int .i64 h, .int .i64 n] : Array Value) = X at a0 a1 a2 a3 ⊢
  generalize (#[.int .i64 k', .int .i64 o', .int .i64 h', .int .i64 n'] : Array Value) = Y at b0 b1 b2 b3 ⊢
  cases e0 : (k == k') <;> cases e1 : (o == o') <;> cases e2 : (h == h') <;> cases e3 : (n == n') <;> simp [Op.eqFields, a0, a1, a2, a3, b0, b1, b2, b3, q, e0, e1, e2, e3]
theorem neq_ev (k o h n k' o' h' n' : Int) (w : World) : (binOp .neq 32 (.agg #[.int .i64 k, .int .i64 o, .int .i64 h, .int .i64 n]) (.agg #[.int .i64 k', .int .i64 o', .int .i64 h', .int .i64 n'])).run Tryz.prog w = .ok (.bool (!((k == k') && (o == o') && (h == h') && (n == n')))) w := by
  rw [run_neq_struct, eq_ev 9998]
  rfl
theorem eql_ev (k o h n k' o' h' n' : Int) (w : World) : (binOp .eql 32 (.agg #[.int .i64 k, .int .i64 o, .int .i64 h, .int .i64 n]) (.agg #[.int .i64 k', .int .i64 o', .int .i64 h', .int .i64 n'])).run Tryz.prog w = .ok (.bool ((k == k') && (o == o') && (h == h') && (n == n'))) w := by
  rw [run_eql_struct, eq_ev 9998]
  rfl

end Go.Proofs.YtdiiilnebepfdaaGreatDoor

namespace Go.Proofs.YtdiiilnebepfdaaGreatDoor
open Go.RowKit

theorem ei_ev : EI Tryz.prog 57 32 (.agg #[.int .i64 0, .int .i64 0, .int .i64 0, .int .i64 0]) 4 32 := ⟨Tryz.underlying57, by kernel_rfl, rfl, by omega, by omega⟩
/-- One event of a slice of them. -/
theorem RD.ev {w : World} {pl : Nat → Prop} {A : Option Addr} {n : Nat} {L : List EV} (h : RD w pl 4 A n (L.flatMap evC)) (k : Nat) (x : EV) (hx : L[k]? = some x) (hk : k < n) :
    ∃ b o, A = some ⟨b, o, none⟩ ∧ b < w.heap.size ∧ w.cell? ⟨b, o + k * 4, none⟩ = some (.int .i64 x.k) ∧ w.cell? ⟨b, o + k * 4 + 1, none⟩ = some (.int .i64 x.o) ∧ w.cell? ⟨b, o + k * 4 + 2, none⟩ = some (.int .i64 x.h) ∧ w.cell? ⟨b, o + k * 4 + 3, none⟩ = some (.int .i64 x.n) := by
  obtain ⟨b, o, e, _, h2, h3⟩ := h.at_ (by omega)
  have key : ∀ j u, j < 4 → (evC x)[j]? = some u → w.cell? ⟨b, o + k * 4 + j, none⟩ = some u := fun j u hj hu => by
    have := h3 (k * 4 + j) u (by rw [flat_get evC 4 evC_len L k j _ hx hj]; exact hu)
    rwa [← Nat.add_assoc] at this
  exact ⟨b, o, e, h2, key 0 _ (by omega) rfl, key 1 _ (by omega) rfl, key 2 _ (by omega) rfl, key 3 _ (by omega) rfl⟩
theorem RD.belowN {w w' : World} {n₀ size n : Nat} {A : Option Addr} {xs : List Value} (h : RD w (· < n₀) size A n xs) (hb : Below n₀ w w') : RD w' (· < n₀) size A n xs := by
  refine ⟨h.1, fun hn => ?_⟩
  obtain ⟨b, o, e, h1, h2, h3⟩ := h.2 hn
  exact ⟨b, o, e, h1, Nat.lt_of_lt_of_le h2 hb.size, fun j u hu => (hb.cell (p := ⟨b, o + j, none⟩) h1).trans (h3 j u hu)⟩
theorem ev_len (L : List EV) : (L.flatMap evC).length = L.length * 4 := by
  induction L with
  | nil => rfl
  | cons a l ih => rw [List.flatMap_cons, List.length_append, ih, evC_len, List.length_cons]; omega
theorem ev_take (L : List EV) (k : Nat) (x : EV) (h : L[k]? = some x) : L.take (k + 1) = L.take k ++ [x] := by
  rw [List.take_add_one, h]
  rfl
theorem ev_flat1 (L : List EV) (x : EV) : (L ++ [x]).flatMap evC = L.flatMap evC ++ [.int .i64 x.k, .int .i64 x.o, .int .i64 x.h, .int .i64 x.n] := by
  rw [List.flatMap_append]
  rfl
theorem info_ev : (Tryz.prog.info? 32).map (fun i => (i.zero, i.size, i.bytes)) = some (some (.agg #[.int .i64 0, .int .i64 0, .int .i64 0, .int .i64 0]), 4, 32) := by kernel_rfl
end Go.Proofs.YtdiiilnebepfdaaGreatDoor

namespace Go.Proofs.YtdiiilnebepfdaaGreatDoor
open Go.RowKit

theorem eq_rev (d : Nat) (k o h n k' o' h' n' : Int) (w : World) : (Op.equalIn (d + 2) 42 (.agg #[.int .i64 k, .int .i64 o, .int .i64 h, .int .i64 n]) (.agg #[.int .i64 k', .int .i64 o', .int .i64 h', .int .i64 n'])).run Tryz.prog w = .ok ((k == k') && (o == o') && (h == h') && (n == n')) w := by
  have hS : Tryz.prog.underlying 42 = some (.struct (Tryz.prog.fieldsOf 42)) := by kernel_rfl
  have hp : Tryz.prog.stoodInHeld 42 = false := by kernel_rfl
  have p0 : ∀ (a b c e : Int) w, (part 3 #[.int .i64 a, .int .i64 b, .int .i64 c, .int .i64 e] 0).run Tryz.prog w = .ok (.int .i64 a) w := fun a b c e w => by kernel_rfl
  have p1 : ∀ (a b c e : Int) w, (part 3 #[.int .i64 a, .int .i64 b, .int .i64 c, .int .i64 e] 1).run Tryz.prog w = .ok (.int .i64 b) w := fun a b c e w => by kernel_rfl
  have p2 : ∀ (a b c e : Int) w, (part 3 #[.int .i64 a, .int .i64 b, .int .i64 c, .int .i64 e] 2).run Tryz.prog w = .ok (.int .i64 c) w := fun a b c e w => by kernel_rfl
  have p3 : ∀ (a b c e : Int) w, (part 3 #[.int .i64 a, .int .i64 b, .int .i64 c, .int .i64 e] 3).run Tryz.prog w = .ok (.int .i64 e) w := fun a b c e w => by kernel_rfl
  have q : ∀ (x y : Int) w, (Op.equalIn (d + 1) 3 (.int .i64 x) (.int .i64 y)).run Tryz.prog w = .ok (x == y) w := fun x y w => run_equalIn_int w d _ .i64 .i64 x y Tryz.underlying3
  rw [show d + 2 = (d + 1) + 1 from rfl, run_equalIn_agg w (d + 1) 42 _ _ hS hp]
  simp only [Program.fieldsOf, Tryz.underlying42]
  have a0 := p0 k o h n
  have a1 := p1 k o h n
  have a2 := p2 k o h n
  have a3 := p3 k o h n
  have b0 := p0 k' o' h' n'
  have b1 := p1 k' o' h' n'
  have b2 := p2 k' o' h' n'
  have b3 := p3 k' o' h' n'
  clear p0 p1 p2 p3
  generalize (#[.int .i64 k, .int .i64 o, .int .i64 h, .int .i64 n] : Array Value) = X at a0 a1 a2 a3 ⊢
  generalize (#[.int .i64 k', .int .i64 o', .int .i64 h', .int .i64 n'] : Array Value) = Y at b0 b1 b2 b3 ⊢
  cases e0 : (k == k') <;> cases e1 : (o == o') <;> cases e2 : (h == h') <;> cases e3 : (n == n') <;> simp [Op.eqFields, a0, a1, a2, a3, b0, b1, b2, b3, q, e0, e1, e2, e3]
theorem neq_rev (k o h n k' o' h' n' : Int) (w : World) : (binOp .neq 42 (.agg #[.int .i64 k, .int .i64 o, .int .i64 h, .int .i64 n]) (.agg #[.int .i64 k', .int .i64 o', .int .i64 h', .int .i64 n'])).run Tryz.prog w = .ok (.bool (!((k == k') && (o == o') && (h == h') && (n == n')))) w := by
  rw [run_neq_struct, eq_rev 9998]
  rfl
theorem eql_rev (k o h n k' o' h' n' : Int) (w : World) : (binOp .eql 42 (.agg #[.int .i64 k, .int .i64 o, .int .i64 h, .int .i64 n]) (.agg #[.int .i64 k', .int .i64 o', .int .i64 h', .int .i64 n'])).run Tryz.prog w = .ok (.bool ((k == k') && (o == o') && (h == h') && (n == n'))) w := by
  rw [run_eql_struct, eq_rev 9998]
  rfl
end Go.Proofs.YtdiiilnebepfdaaGreatDoor
