/- Plain maths of guards: what is wrong with one, what its text is, what is wrong with a list of them. -/
import Derived.Test.YtniijkdlphkpkaaDoorGu
import Derived.Test.YtniijkdlphkpkaaDoorCa
import Derived.Test.YtniijkdlphkpkaaDoorWm
import Derived.Test.YtniijkdlphkpkaaDoorDm
import Derived.Lib.Join
namespace Go.Proofs.YtniijkdlphkpkaaDoor

def inB (n m : Int) : Bool := decide (0 ≤ n) && decide (n < m)
theorem inB_iff (n m : Int) : inB n m = true ↔ 0 ≤ n ∧ n < m := by unfold inB; simp
theorem inB_no {n m : Int} (h : inB n m = false) : n < 0 ∨ m ≤ n := by
  have : ¬ (0 ≤ n ∧ n < m) := fun k => by rw [(inB_iff n m).2 k] at h; cases h
  omega
def ownE (b : Bool) : Int := if b = true then 0 else 8
def othE (n : Int) : Int := if n = 0 then 0 else 3
theorem ownE_t : ownE true = 0 := rfl
theorem ownE_f : ownE false = 8 := rfl
theorem ownE_0 {b : Bool} (h : ownE b = 0) : b = true := by
  cases b
  · cases h
  · rfl
theorem othE_0 {n : Int} (h : othE n = 0) : n = 0 := by
  unfold othE at h
  split at h
  · assumption
  · cases h
theorem ownE_or (b : Bool) : ownE b = 0 ∨ ownE b = 8 := by cases b <;> simp [ownE]
theorem othE_or (n : Int) : othE n = 0 ∨ othE n = 3 := by
  unfold othE
  split
  · exact .inl rfl
  · exact .inr rfl
def kindB (k : Int) : Bool := decide (1 ≤ k) && decide (k ≤ 6)
theorem kindB_iff (k : Int) : kindB k = true ↔ 1 ≤ k ∧ k ≤ 6 := by unfold kindB; simp
def numE (n : Int) : Int := ownE (inB n 6)
def objE (k o : Int) : Int := if k = 1 ∨ k = 2 ∨ k = 3 then ownE (inB o 8) else othE o
def valE (k v : Int) : Int := if k = 2 ∨ k = 6 then ownE (fineW v) else if k = 4 then ownE (fineC v) else othE v
def regE (k r : Int) : Int := if k = 1 ∨ k = 6 then ownE (inB r 8) else othE r
def firstE (l : List Int) : Int := if 8 ∈ l then 8 else if 3 ∈ l then 3 else 0
/-- What is wrong with a guard of these fields. -/
def chkE (k o v r n : Int) : Int := if kindB k = true then firstE [numE n, objE k o, valE k v, regE k r] else 12
theorem chkE_no {k o v r n : Int} (h : kindB k = false) : chkE k o v r n = 12 := if_neg (by rw [h]; decide)
theorem chkE_of {k o v r n : Int} (h : kindB k = true) : chkE k o v r n = firstE [numE n, objE k o, valE k v, regE k r] := if_pos h
theorem firstE_0 {l : List Int} (h : firstE l = 0) : 8 ∉ l ∧ 3 ∉ l := by
  unfold firstE at h
  split at h
  · cases h
  · next h1 =>
    split at h
    · cases h
    · next h2 => exact ⟨h1, h2⟩
/-- A guard that may be. -/
structure Fit (k o v r n : Int) : Prop where
  k0 : 1 ≤ k
  k1 : k ≤ 6
  n0 : 0 ≤ n
  n1 : n < 6
  o0 : 0 ≤ o
  o1 : o < 8
  v0 : -2147483648 ≤ v
  v1 : v ≤ 1099511627776
  r0 : 0 ≤ r
  r1 : r < 8
  oz : k = 4 ∨ k = 5 ∨ k = 6 → o = 0
  vz : k = 1 ∨ k = 3 ∨ k = 5 → v = 0
  rz : k = 2 ∨ k = 3 ∨ k = 4 ∨ k = 5 → r = 0
theorem fit_of {k o v r n : Int} (h : chkE k o v r n = 0) : Fit k o v r n := by
  unfold chkE at h
  split at h
  case isFalse => cases h
  case isTrue hk =>
    obtain ⟨k0, k1⟩ := (kindB_iff k).1 hk
    obtain ⟨h8, h3⟩ := firstE_0 h
    simp only [List.mem_cons, List.not_mem_nil, or_false, not_or] at h8 h3
    obtain ⟨a8, b8, c8, d8⟩ := h8
    obtain ⟨_, b3, c3, d3⟩ := h3
    have hn := (inB_iff n 6).1 (ownE_0 ((ownE_or (inB n 6)).resolve_right fun e => a8 e.symm))
    have ho : (k = 1 ∨ k = 2 ∨ k = 3) ∧ (0 ≤ o ∧ o < 8) ∨ ¬ (k = 1 ∨ k = 2 ∨ k = 3) ∧ o = 0 := by
      unfold objE at b8 b3
      split at b8
      · next hc => exact .inl ⟨hc, (inB_iff o 8).1 (ownE_0 ((ownE_or (inB o 8)).resolve_right fun e => b8 e.symm))⟩
      · next hc =>
        rw [if_neg hc] at b3
        exact .inr ⟨hc, othE_0 ((othE_or o).resolve_right fun e => b3 e.symm)⟩
    have hr : (k = 1 ∨ k = 6) ∧ (0 ≤ r ∧ r < 8) ∨ ¬ (k = 1 ∨ k = 6) ∧ r = 0 := by
      unfold regE at d8 d3
      split at d8
      · next hc => exact .inl ⟨hc, (inB_iff r 8).1 (ownE_0 ((ownE_or (inB r 8)).resolve_right fun e => d8 e.symm))⟩
      · next hc =>
        rw [if_neg hc] at d3
        exact .inr ⟨hc, othE_0 ((othE_or r).resolve_right fun e => d3 e.symm)⟩
    have hv : ((k = 2 ∨ k = 6) ∧ (-2147483648 ≤ v ∧ v ≤ 2147483647)) ∨ (k = 4 ∧ 0 ≤ v ∧ v ≤ 1099511627776) ∨ (¬ (k = 2 ∨ k = 6) ∧ ¬ k = 4 ∧ v = 0) := by
      unfold valE at c8 c3
      split at c8
      · next hc => exact .inl ⟨hc, (fineW_iff v).1 (ownE_0 ((ownE_or (fineW v)).resolve_right fun e => c8 e.symm))⟩
      · next hc =>
        rw [if_neg hc] at c3
        split at c8
        · next hc2 => exact .inr (.inl ⟨hc2, (fineC_iff v).1 (ownE_0 ((ownE_or (fineC v)).resolve_right fun e => c8 e.symm))⟩)
        · next hc2 =>
          rw [if_neg hc2] at c3
          exact .inr (.inr ⟨hc, hc2, othE_0 ((othE_or v).resolve_right fun e => c3 e.symm)⟩)
    exact ⟨k0, k1, hn.1, hn.2, by omega, by omega, by omega, by omega, by omega, by omega, by omega, by omega, by omega⟩

/-- What a guard waits for, as text. -/
def wantL (k o v r : Int) : List UInt8 :=
  if k = 1 then [105, 110, 32, 99] ++ (Lib.itoa o ++ ([32, 114] ++ Lib.itoa r))
  else if k = 2 then [111, 117, 116, 32, 99] ++ (Lib.itoa o ++ ([32] ++ Lib.itoa v))
  else if k = 3 then [98, 97, 114, 32, 98] ++ Lib.itoa o
  else if k = 4 then [116, 105, 109, 101, 32] ++ Lib.itoa v
  else if k = 6 then [106, 111, 105, 110, 32] ++ (Lib.itoa v ++ ([32, 114] ++ Lib.itoa r))
  else [115, 107, 105, 112]
def textL (k o v r n : Int) : List UInt8 := Lib.itoa n ++ ([58, 32] ++ wantL k o v r)
theorem want1 (o v r : Int) : wantL 1 o v r = [105, 110, 32, 99] ++ (Lib.itoa o ++ ([32, 114] ++ Lib.itoa r)) := if_pos rfl
theorem want2 (o v r : Int) : wantL 2 o v r = [111, 117, 116, 32, 99] ++ (Lib.itoa o ++ ([32] ++ Lib.itoa v)) := by unfold wantL; rw [if_neg (by decide), if_pos rfl]
theorem want3 (o v r : Int) : wantL 3 o v r = [98, 97, 114, 32, 98] ++ Lib.itoa o := by unfold wantL; rw [if_neg (by decide), if_neg (by decide), if_pos rfl]
theorem want4 (o v r : Int) : wantL 4 o v r = [116, 105, 109, 101, 32] ++ Lib.itoa v := by unfold wantL; rw [if_neg (by decide), if_neg (by decide), if_neg (by decide), if_pos rfl]
theorem want6 (o v r : Int) : wantL 6 o v r = [106, 111, 105, 110, 32] ++ (Lib.itoa v ++ ([32, 114] ++ Lib.itoa r)) := by unfold wantL; rw [if_neg (by decide), if_neg (by decide), if_neg (by decide), if_neg (by decide), if_pos rfl]
theorem want5 (o v r : Int) : wantL 5 o v r = [115, 107, 105, 112] := by unfold wantL; rw [if_neg (by decide), if_neg (by decide), if_neg (by decide), if_neg (by decide), if_neg (by decide)]

/- Texts of numbers. -/
def sgB (c : UInt8) : Bool := isDig c || c == 45
theorem it_neg (n : Int) (h : n < 0) : Lib.itoa n = 45 :: Lib.decDigits (-n).toNat := by
  unfold Lib.itoa
  rw [if_pos h]
  congr 2
  omega
theorem it_pos (n : Int) (h : 0 ≤ n) : Lib.itoa n = Lib.decDigits n.toNat := by
  unfold Lib.itoa
  rw [if_neg (by omega)]
theorem it_sg (n : Int) : (Lib.itoa n).all sgB = true := by
  have key : ∀ m, (Lib.decDigits m).all sgB = true := fun m => by
    have := dg_all m
    rw [List.all_eq_true] at this ⊢
    intro c hc
    unfold sgB
    rw [this c hc]
    rfl
  by_cases h : n < 0
  · rw [it_neg n h, List.all_cons, key]
    rfl
  · rw [it_pos n (by omega)]
    exact key _
theorem dg_no45 (n : Nat) (l : List UInt8) : Lib.decDigits n ≠ 45 :: l := fun e => by
  have := dg_all n
  rw [e, List.all_cons] at this
  exact absurd this (by simp [isDig])
theorem it_inj {a b : Int} (h : Lib.itoa a = Lib.itoa b) : a = b := by
  by_cases ha : a < 0 <;> by_cases hb : b < 0
  · rw [it_neg a ha, it_neg b hb] at h
    have e := congrArg (numN 0) (List.cons.inj h).2
    rw [dg_num, dg_num] at e
    omega
  · rw [it_neg a ha, it_pos b (by omega)] at h
    exact absurd h.symm (dg_no45 _ _)
  · rw [it_pos a (by omega), it_neg b hb] at h
    exact absurd h (dg_no45 _ _)
  · rw [it_pos a (by omega), it_pos b (by omega)] at h
    have e := congrArg (numN 0) h
    rw [dg_num, dg_num] at e
    omega
theorem dg_len19 (n : Nat) (h : n ≤ 9223372036854775808) : (Lib.decDigits n).length ≤ 19 := dg_len 18 n (by omega)
theorem it_len {n : Int} (h0 : -9223372036854775808 ≤ n) (h1 : n ≤ 9223372036854775807) : (Lib.itoa n).length ≤ 20 := by
  by_cases h : n < 0
  · rw [it_neg n h, List.length_cons]
    have := dg_len19 (-n).toNat (by omega)
    omega
  · rw [it_pos n (by omega)]
    have := dg_len19 n.toNat (by omega)
    omega
/-- What goes ahead of the first byte of another sort. -/
theorem cut_at (p : UInt8 → Bool) : ∀ (x y : List UInt8) (c d : UInt8) (s t : List UInt8), x.all p = true → y.all p = true → p c = false → p d = false → x ++ c :: s = y ++ d :: t → x = y ∧ c :: s = d :: t
  | [], [], c, d, s, t, _, _, _, _, h => ⟨rfl, h⟩
  | [], b :: y, c, d, s, t, _, hy, hc, _, h => by
    rw [List.all_cons, Bool.and_eq_true] at hy
    rw [List.nil_append, List.cons_append] at h
    rw [(List.cons.inj h).1, hy.1] at hc
    cases hc
  | a :: x, [], c, d, s, t, hx, _, _, hd, h => by
    rw [List.all_cons, Bool.and_eq_true] at hx
    rw [List.nil_append, List.cons_append] at h
    rw [← (List.cons.inj h).1, hx.1] at hd
    cases hd
  | a :: x, b :: y, c, d, s, t, hx, hy, hc, hd, h => by
    rw [List.all_cons, Bool.and_eq_true] at hx hy
    rw [List.cons_append, List.cons_append] at h
    obtain ⟨rfl, h2⟩ := List.cons.inj h
    obtain ⟨rfl, h3⟩ := cut_at p x y c d s t hx.2 hy.2 hc hd h2
    exact ⟨rfl, h3⟩
theorem it_cut {a b : Int} {c d : UInt8} {s t : List UInt8} (hc : sgB c = false) (hd : sgB d = false) (h : Lib.itoa a ++ c :: s = Lib.itoa b ++ d :: t) : a = b ∧ s = t := by
  obtain ⟨h1, h2⟩ := cut_at sgB _ _ c d s t (it_sg a) (it_sg b) hc hd h
  exact ⟨it_inj h1, (List.cons.inj h2).2⟩
theorem kinds {k : Int} (h0 : 1 ≤ k) (h1 : k ≤ 6) : k = 1 ∨ k = 2 ∨ k = 3 ∨ k = 4 ∨ k = 5 ∨ k = 6 := by omega
theorem textL_inj {k o v r n k' o' v' r' n' : Int} (h : Fit k o v r n) (h' : Fit k' o' v' r' n') (e : textL k o v r n = textL k' o' v' r' n') : k = k' ∧ o = o' ∧ v = v' ∧ r = r' ∧ n = n' := by
  obtain ⟨rfl, e2⟩ := it_cut (by rfl) (by rfl) (show Lib.itoa n ++ 58 :: (32 :: wantL k o v r) = Lib.itoa n' ++ 58 :: (32 :: wantL k' o' v' r') from e)
  replace e2 := (List.cons.inj e2).2
  clear e
  rcases kinds h.k0 h.k1 with rfl | rfl | rfl | rfl | rfl | rfl <;> rcases kinds h'.k0 h'.k1 with rfl | rfl | rfl | rfl | rfl | rfl <;>
    simp only [want1, want2, want3, want4, want5, want6, List.cons_append, List.nil_append] at e2 <;>
    first
    | exact absurd (List.cons.inj e2).1 (by decide)
    | simp only [List.cons.injEq, true_and] at e2
    | skip
  · obtain ⟨rfl, e3⟩ := it_cut (by rfl) (by rfl) e2
    have e4 := it_inj (List.cons.inj e3).2
    exact ⟨rfl, rfl, by rw [h.vz (by omega), h'.vz (by omega)], e4, rfl⟩
  · obtain ⟨rfl, e3⟩ := it_cut (by rfl) (by rfl) e2
    exact ⟨rfl, rfl, it_inj e3, by rw [h.rz (by omega), h'.rz (by omega)], rfl⟩
  · exact ⟨rfl, it_inj e2, by rw [h.vz (by omega), h'.vz (by omega)], by rw [h.rz (by omega), h'.rz (by omega)], rfl⟩
  · exact ⟨rfl, by rw [h.oz (by omega), h'.oz (by omega)], it_inj e2, by rw [h.rz (by omega), h'.rz (by omega)], rfl⟩
  · exact ⟨rfl, by rw [h.oz (by omega), h'.oz (by omega)], by rw [h.vz (by omega), h'.vz (by omega)], by rw [h.rz (by omega), h'.rz (by omega)], rfl⟩
  · obtain ⟨rfl, e3⟩ := it_cut (by rfl) (by rfl) e2
    have e4 := it_inj (List.cons.inj e3).2
    exact ⟨rfl, by rw [h.oz (by omega), h'.oz (by omega)], rfl, e4, rfl⟩

/- Guards in lists. -/
def chkG (g : GD) : Int := chkE g.k g.o g.v g.r g.n
def txtG (g : GD) : List UInt8 := textL g.k g.o g.v g.r g.n
def badE : List GD → Int
  | [] => 0
  | g :: l => if chkG g = 0 then badE l else chkG g
def textsL (l : List GD) : List UInt8 := if badE l = 0 then Lib.join (l.map txtG) [44, 32] else []
theorem badE_app (l : List GD) (g : GD) : badE (l ++ [g]) = if badE l = 0 then chkG g else badE l := by
  induction l with
  | nil => show (if chkG g = 0 then 0 else chkG g) = if (0 : Int) = 0 then chkG g else 0
           rw [if_pos rfl]; split <;> simp_all
  | cons a l ih =>
    show (if chkG a = 0 then badE (l ++ [g]) else chkG a) = if (if chkG a = 0 then badE l else chkG a) = 0 then chkG g else (if chkG a = 0 then badE l else chkG a)
    by_cases h : chkG a = 0
    · rw [if_pos h, if_pos h]
      exact ih
    · rw [if_neg h, if_neg h, if_neg h]
theorem parted {l : List GD} {k : Nat} {g : GD} (hg : l[k]? = some g) : l = l.take k ++ g :: l.drop (k + 1) := by
  obtain ⟨hk, rfl⟩ := List.getElem?_eq_some_iff.1 hg
  rw [List.getElem_cons_drop, List.take_append_drop]
theorem badE_stop {l : List GD} {k : Nat} {g : GD} (hg : l[k]? = some g) (h0 : badE (l.take k) = 0) (hx : chkG g ≠ 0) : badE l = chkG g := by
  have key : ∀ (a b : List GD), badE a = 0 → badE (a ++ g :: b) = chkG g := by
    intro a
    induction a with
    | nil => intro b _; exact if_neg hx
    | cons c a ih =>
      intro b h
      have h1 : chkG c = 0 := by
        have h2 : (if chkG c = 0 then badE a else chkG c) = 0 := h
        split at h2 <;> assumption
      have h2 : badE a = 0 := by
        have h3 : (if chkG c = 0 then badE a else chkG c) = 0 := h
        rwa [if_pos h1] at h3
      show (if chkG c = 0 then badE (a ++ g :: b) else chkG c) = _
      rw [if_pos h1, ih b h2]
  rw [parted hg]
  exact key _ _ h0
def clsE (a o b p : Int) : Bool := (decide (1 ≤ a) && decide (a ≤ 3)) && ((a == b) && (o == p))
def clsB (a b : GD) : Bool := clsE a.k a.o b.k b.o
def lastN (l : List GD) : Int := match l.getLast? with | some g => g.n | none => -1
theorem lastN_nil : lastN [] = -1 := rfl
theorem lastN_take {l : List GD} {k : Nat} {g : GD} (h : l[k]? = some g) : lastN (l.take (k + 1)) = g.n := by
  unfold lastN
  rw [List.take_add_one, h]
  simp
def behE (a : List GD) (g : GD) : Int := if chkG g = 0 then (if g.n ≤ lastN a then 3 else if a.any (clsB · g) = true then 7 else 0) else chkG g
def allL : List GD → List GD → Int × Int
  | _, [] => (0, 0)
  | a, g :: r => if behE a g = 0 then allL (a ++ [g]) r else ((a.length : Int), behE a g)
def allG (l : List GD) : Int × Int := if l.length = 0 then (0, 11) else if 6 < l.length then (6, 5) else allL [] l
theorem allG_none {l : List GD} (h : l.length = 0) : allG l = (0, 11) := if_pos h
theorem allG_many {l : List GD} (h : 6 < l.length) : allG l = (6, 5) := by unfold allG; rw [if_neg (by omega), if_pos h]
theorem allG_few {l : List GD} (h : 0 < l.length) (h6 : l.length ≤ 6) : allG l = allL [] l := by unfold allG; rw [if_neg (by omega), if_neg (by omega)]
theorem allL_next {l : List GD} {k : Nat} {g : GD} (hg : l[k]? = some g) (hb : behE (l.take k) g = 0) : allL (l.take k) (l.drop k) = allL (l.take (k + 1)) (l.drop (k + 1)) := by
  obtain ⟨hk, rfl⟩ := List.getElem?_eq_some_iff.1 hg
  rw [List.drop_eq_getElem_cons hk]
  show (if behE (l.take k) l[k] = 0 then allL (l.take k ++ [l[k]]) (l.drop (k + 1)) else _) = _
  rw [if_pos hb, ← List.take_succ_eq_append_getElem hk]
theorem allL_stop {l : List GD} {k : Nat} {g : GD} {e : Int} (hg : l[k]? = some g) (hb : behE (l.take k) g = e) (he : e ≠ 0) : allL (l.take k) (l.drop k) = ((k : Int), e) := by
  subst hb
  obtain ⟨hk, rfl⟩ := List.getElem?_eq_some_iff.1 hg
  rw [List.drop_eq_getElem_cons hk]
  show (if behE (l.take k) l[k] = 0 then _ else (((l.take k).length : Int), behE (l.take k) l[k])) = _
  rw [if_neg he, List.length_take, Nat.min_eq_left (by omega)]
theorem allL_end {l : List GD} {k : Nat} (h : l.length ≤ k) : allL (l.take k) (l.drop k) = (0, 0) := by
  rw [List.drop_of_length_le h]
  rfl
theorem behE_chk {a : List GD} {g : GD} (h : chkG g ≠ 0) : behE a g = chkG g := if_neg h
theorem behE_no {a : List GD} {g : GD} (h : chkG g = 0) (h1 : g.n ≤ lastN a) : behE a g = 3 := by unfold behE; rw [if_pos h, if_pos h1]
theorem behE_cls {a : List GD} {g : GD} (h : chkG g = 0) (h1 : ¬ g.n ≤ lastN a) (h2 : a.any (clsB · g) = true) : behE a g = 7 := by unfold behE; rw [if_pos h, if_neg h1, if_pos h2]
theorem behE_ok {a : List GD} {g : GD} (h : chkG g = 0) (h1 : ¬ g.n ≤ lastN a) (h2 : a.any (clsB · g) = false) : behE a g = 0 := by unfold behE; rw [if_pos h, if_neg h1, if_neg (by rw [h2]; decide)]
/-- The numbers of guards that may be together rise. -/
theorem behE_0 {a : List GD} {g : GD} (h : behE a g = 0) : lastN a < g.n := by
  unfold behE at h
  split at h
  · split at h
    · cases h
    · omega
  · next h1 => exact absurd h h1
theorem allL_rise : ∀ (r a : List GD), (allL a r).2 = 0 → (∀ x ∈ a, x.n ≤ lastN a) → (∀ (i j : Nat) (x y : GD), (a ++ r)[i]? = some x → (a ++ r)[j]? = some y → i < j → a.length ≤ j → x.n < y.n)
  | [], a, _, _, i, j, x, y, _, hy, _, hj => by
    rw [List.append_nil] at hy
    have := (List.getElem?_eq_some_iff.1 hy).1
    omega
  | g :: r, a, h, ha, i, j, x, y, hx, hy, hij, hj => by
    have hb : behE a g = 0 := by
      have h1 : (if behE a g = 0 then allL (a ++ [g]) r else ((a.length : Int), behE a g)).2 = 0 := h
      split at h1
      · assumption
      · exact h1
    have hr : (allL (a ++ [g]) r).2 = 0 := by
      have h1 : (if behE a g = 0 then allL (a ++ [g]) r else ((a.length : Int), behE a g)).2 = 0 := h
      rwa [if_pos hb] at h1
    have hl := behE_0 hb
    have hlast : lastN (a ++ [g]) = g.n := by unfold lastN; simp
    rcases Nat.lt_or_ge a.length j with hlt | hge
    · refine allL_rise r (a ++ [g]) hr (fun z hz => ?_) i j x y (by simpa using hx) (by simpa using hy) hij (by simp; omega)
      rw [hlast]
      rcases List.mem_append.1 hz with hz | hz
      · have := ha z hz
        omega
      · rw [List.mem_singleton.1 hz]
        exact Int.le_refl _
    · obtain rfl : j = a.length := by omega
      rw [List.getElem?_append_right (Nat.le_refl _), Nat.sub_self] at hy
      obtain rfl : g = y := by simpa using hy
      rw [List.getElem?_append_left hij] at hx
      have := ha x (List.mem_of_getElem? hx)
      omega
theorem allG_rise {l : List GD} (h : (allG l).2 = 0) {i j : Nat} {x y : GD} (hx : l[i]? = some x) (hy : l[j]? = some y) (hij : i < j) : x.n < y.n := by
  have h6 : l.length ≤ 6 := by
    rcases Nat.lt_or_ge 6 l.length with h1 | h1
    · rw [allG_many h1] at h; cases h
    · exact h1
  have h0 : 0 < l.length := by
    rcases Nat.eq_zero_or_pos l.length with h1 | h1
    · rw [allG_none h1] at h; cases h
    · exact h1
  rw [allG_few h0 h6] at h
  exact allL_rise l [] h (fun x hx => absurd hx (by simp)) i j x y hx hy hij (Nat.zero_le _)

/- The least deadline, and the guard of a number. -/
def earS (s : Int × Bool) (g : GD) : Int × Bool := if g.k = 4 ∧ (s.2 = false ∨ g.v < s.1) then (g.v, true) else s
def earL (l : List GD) : Int × Bool := l.foldl earS (0, false)
theorem earL_next {l : List GD} {k : Nat} {g : GD} (h : l[k]? = some g) : earL (l.take (k + 1)) = earS (earL (l.take k)) g := by
  unfold earL
  rw [List.take_add_one, h, List.foldl_append]
  rfl
def gdZ : GD := ⟨0, 0, 0, 0, 0⟩
def fidx (p : GD → Bool) (l : List GD) : Int := if l.any p = true then (l.findIdx p : Int) else -1
theorem any_findIdx {p : GD → Bool} {l : List GD} : l.any p = true ↔ l.findIdx p < l.length := by rw [List.findIdx_lt_length, List.any_eq_true]
theorem fidx_no {p : GD → Bool} {l : List GD} (h : l.any p = false) : fidx p l = -1 := if_neg (by rw [h]; decide)
theorem fidx_at {p : GD → Bool} {l : List GD} {k : Nat} {g : GD} (hg : l[k]? = some g) (h0 : (l.take k).any p = false) (h : p g = true) : fidx p l = k := by
  obtain ⟨hk, rfl⟩ := List.getElem?_eq_some_iff.1 hg
  unfold fidx
  rw [if_pos (List.any_eq_true.2 ⟨_, List.getElem_mem hk, h⟩)]
  congr 1
  rw [List.findIdx_eq hk]
  refine ⟨h, fun j hj => ?_⟩
  rw [List.any_eq_false] at h0
  have := h0 l[j] (by
    rw [List.mem_iff_getElem?]
    exact ⟨j, by rw [List.getElem?_take, if_pos hj, List.getElem?_eq_getElem (by omega)]⟩)
  simpa using this
theorem fidx_geq (p : GD → Bool) (l : List GD) : decide (0 ≤ fidx p l) = l.any p := by
  unfold fidx
  split
  · next h => rw [h]; simp
  · next h => rw [Bool.not_eq_true] at h; rw [h]; rfl
theorem any_next {p : GD → Bool} {l : List GD} {k : Nat} {g : GD} (hg : l[k]? = some g) (h0 : (l.take k).any p = false) (h : p g = false) : (l.take (k + 1)).any p = false := by
  rw [List.take_add_one, hg, List.any_append, h0]
  simp [h]
theorem any_first {p : GD → Bool} : ∀ {l : List GD}, l.any p = true → ∃ k g, l[k]? = some g ∧ p g = true ∧ (l.take k).any p = false
  | [], h => by simp at h
  | a :: l, h => by
    cases ha : p a
    · rw [List.any_cons, ha, Bool.false_or] at h
      obtain ⟨k, g, h1, h2, h3⟩ := any_first h
      exact ⟨k + 1, g, by simpa using h1, h2, by rw [List.take_succ_cons, List.any_cons, ha, h3]; rfl⟩
    · exact ⟨0, a, rfl, ha, rfl⟩
def fndG (l : List GD) (no : Int) : GD × Bool := match l.find? (fun g => g.n == no) with | some g => (g, true) | none => (gdZ, false)
theorem fnd_no {l : List GD} {no : Int} (h : l.any (fun g => g.n == no) = false) : fndG l no = (gdZ, false) := by
  unfold fndG
  have : l.find? (fun g => g.n == no) = none := by
    rw [List.find?_eq_none]
    intro x hx he
    rw [List.any_eq_false] at h
    exact h x hx he
  rw [this]
theorem fnd_at {l : List GD} {no : Int} {k : Nat} {g : GD} (hg : l[k]? = some g) (h0 : (l.take k).any (fun g => g.n == no) = false) (h : g.n = no) : fndG l no = (g, true) := by
  unfold fndG
  have : l.find? (fun g => g.n == no) = some g := by
    rw [parted hg, List.find?_append]
    have h1 : (l.take k).find? (fun g => g.n == no) = none := by
      rw [List.find?_eq_none]
      intro x hx he
      rw [List.any_eq_false] at h0
      exact h0 x hx he
    rw [h1, List.find?_cons_of_pos (by simpa using h)]
    rfl
  rw [this]
/-- Of guards that may be together each one is found by its number. -/
theorem all_fnd {l : List GD} (h : (allG l).2 = 0) {k : Nat} {g : GD} (hg : l[k]? = some g) : fndG l g.n = (g, true) := by
  refine fnd_at hg ?_ rfl
  rw [List.any_eq_false]
  intro x hx he
  obtain ⟨i, hi⟩ := List.getElem?_of_mem hx
  rw [List.getElem?_take] at hi
  split at hi
  · next hik =>
    have := allG_rise h hi hg hik
    have e : x.n = g.n := by simpa using he
    omega
  · cases hi
end Go.Proofs.YtniijkdlphkpkaaDoor
