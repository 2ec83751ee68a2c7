/- Reading a handle out of a text, as plain functions: the document's way by the first dot, and a reading sign by sign, with the proof that the two agree, and that a handle's own text is read as that handle. -/
import Derived.Test.YtmdpcpefkenicaaDoorHm
namespace Go.Proofs.YtmdpcpefkenicaaDoor

def isDig (c : UInt8) : Bool := decide (48 ≤ c.toNat ∧ c.toNat ≤ 57)
def plainB (l : List UInt8) : Bool := !l.isEmpty && (!(l.headD 0 == 48 && decide (1 < l.length)) && l.all isDig)
def numF (C : Int) (n : Int) (c : UInt8) : Int := min (10 * n + ((c.toNat : Int) - 48)) C
def numV (C : Int) (n : Int) (l : List UInt8) : Int := l.foldl (numF C) n
def headP (l : List UInt8) : List UInt8 := l.takeWhile (· != 46)
def tailP (l : List UInt8) : List UInt8 := l.drop ((headP l).length + 1)
def parseB (l : List UInt8) : Bool := decide ((headP l).length < l.length) && (plainB (headP l) && plainB (tailP l))
def parseH (l : List UInt8) : Int := if parseB l = true then makeH (numV 1000000000 0 (headP l)) (numV 1000000000 0 (tailP l)) else 0
def parseE (l : List UInt8) : Int := if parseB l = true then makeE (numV 1000000000 0 (headP l)) (numV 1000000000 0 (tailP l)) else 3

/- Sign by sign. -/
def takeB (v : Int) (b : Bool) (c : UInt8) : Bool := isDig c && !(b && v == 0)
def rd : List UInt8 → Int → Bool → Option (Int × Bool)
  | [], v, b => some (v, b)
  | c :: l, v, b => if takeB v b c = true then rd l (numF 65536 v c) true else none
theorem rd_cons (c : UInt8) (l : List UInt8) (v : Int) (b : Bool) : rd (c :: l) v b = if takeB v b c = true then rd l (numF 65536 v c) true else none := rfl
def scan : List UInt8 → Bool → Int → Bool → Int → Bool → Option (Int × Bool × Int × Bool)
  | [], _, v0, b0, v1, b1 => some (v0, b0, v1, b1)
  | c :: l, false, v0, b0, v1, b1 => if (c == 46) = true then scan l true v0 b0 v1 b1 else if takeB v0 b0 c = true then scan l false (numF 65536 v0 c) true v1 b1 else none
  | c :: l, true, v0, b0, v1, b1 => if takeB v1 b1 c = true then scan l true v0 b0 (numF 65536 v1 c) true else none

theorem scan_f (c : UInt8) (l : List UInt8) (v0 : Int) (b0 : Bool) (v1 : Int) (b1 : Bool) : scan (c :: l) false v0 b0 v1 b1 = if (c == 46) = true then scan l true v0 b0 v1 b1 else if takeB v0 b0 c = true then scan l false (numF 65536 v0 c) true v1 b1 else none := rfl
theorem scan_t (c : UInt8) (l : List UInt8) (v0 : Int) (b0 : Bool) (v1 : Int) (b1 : Bool) : scan (c :: l) true v0 b0 v1 b1 = if takeB v1 b1 c = true then scan l true v0 b0 (numF 65536 v1 c) true else none := rfl
theorem numF_bd (C n : Int) (c : UInt8) (hn : 0 ≤ n) (hC : 0 ≤ C) (h : isDig c = true) : 0 ≤ numF C n c ∧ numF C n c ≤ C := by
  unfold isDig at h
  have := of_decide_eq_true h
  unfold numF
  omega
theorem numF_pos (C n : Int) (c : UInt8) (hn : 1 ≤ n) (hC : 1 ≤ C) (h : isDig c = true) : 1 ≤ numF C n c := by
  unfold isDig at h
  have := of_decide_eq_true h
  unfold numF
  omega

theorem numV_cap (C : Int) (hC : 0 ≤ C) : ∀ (l : List UInt8) (n : Nat), l.all isDig = true → ∃ m : Nat, ∀ D : Int, 0 ≤ D → numV D (min (n : Int) D) l = min (m : Int) D
  | [], n, _ => ⟨n, fun D _ => rfl⟩
  | c :: l, n, h => by
    rw [List.all_cons, Bool.and_eq_true] at h
    have hc := of_decide_eq_true h.1
    obtain ⟨m, hm⟩ := numV_cap C hC l (10 * n + (c.toNat - 48)) h.2
    refine ⟨m, fun D hD => ?_⟩
    rw [← hm D hD]
    show numV D (numF D (min n D) c) l = _
    congr 1
    unfold numF
    omega

theorem scan_true : ∀ (l : List UInt8) (v0 : Int) (b0 : Bool) (v1 : Int) (b1 : Bool), scan l true v0 b0 v1 b1 = (rd l v1 b1).map fun x => (v0, b0, x.1, x.2)
  | [], _, _, _, _ => rfl
  | c :: l, v0, b0, v1, b1 => by
    unfold scan rd
    split
    · exact scan_true l v0 b0 _ true
    · rfl

theorem scan_false : ∀ (l : List UInt8) (v0 : Int) (b0 : Bool) (v1 : Int) (b1 : Bool),
    scan l false v0 b0 v1 b1 = (rd (headP l) v0 b0).bind fun x => if (headP l).length < l.length then (rd (tailP l) v1 b1).map fun y => (x.1, x.2, y.1, y.2) else some (x.1, x.2, v1, b1)
  | [], _, _, _, _ => rfl
  | c :: l, v0, b0, v1, b1 => by
    rw [scan_f]
    by_cases h : (c == 46) = true
    · have e : headP (c :: l) = [] := by unfold headP; rw [List.takeWhile_cons, if_neg (by simpa using h)]
      rw [if_pos h, scan_true]
      unfold tailP
      rw [e]
      simp [rd]
    · have e : headP (c :: l) = c :: headP l := by unfold headP; rw [List.takeWhile_cons, if_pos (by simpa using h)]
      have e2 : tailP (c :: l) = tailP l := by unfold tailP; rw [e]; rfl
      rw [if_neg h, e, e2]
      unfold rd
      by_cases ht : takeB v0 b0 c = true
      · rw [if_pos ht, if_pos ht, scan_false l]
        simp only [List.length_cons, Nat.add_lt_add_iff_right]
        cases tailP l <;> rfl
      · rw [if_neg ht, if_neg ht]
        rfl

theorem rd_on : ∀ (l : List UInt8) (v : Int), 1 ≤ v → rd l v true = if l.all isDig = true then some (numV 65536 v l, true) else none
  | [], _, _ => rfl
  | c :: l, v, hv => by
    unfold rd
    have e : takeB v true c = isDig c := by
      unfold takeB
      have : (v == 0) = false := beq_eq_false_iff_ne.2 (by omega)
      rw [this]
      simp
    rw [e, List.all_cons]
    cases hc : isDig c
    · rfl
    · rw [if_pos rfl, rd_on l _ (numF_pos 65536 v c hv (by omega) hc)]
      rfl

theorem rd_zero (l : List UInt8) : rd l 0 true = if l.isEmpty = true then some (0, true) else none := by
  cases l with
  | nil => rfl
  | cons c l =>
    unfold rd
    have e : takeB 0 true c = false := by unfold takeB; simp
    rw [e]
    rfl

theorem rd_start (l : List UInt8) : rd l 0 false = if l.isEmpty = true then some (0, false) else if plainB l = true then some (numV 65536 0 l, true) else none := by
  cases l with
  | nil => rfl
  | cons c l =>
    unfold rd plainB
    have e : takeB 0 false c = isDig c := by unfold takeB; simp
    rw [e]
    simp only [List.isEmpty_cons, Bool.not_false, Bool.true_and, List.headD_cons, List.length_cons, List.all_cons]
    cases hc : isDig c
    · simp
    · have hb := of_decide_eq_true hc
      by_cases h48 : (c == 48) = true
      · have hc48 : c = 48 := by simpa using h48
        subst hc48
        have e0 : numF 65536 0 48 = 0 := rfl
        rw [if_pos rfl, e0, rd_zero]
        cases l with
        | nil => rfl
        | cons d l => simp
      · have hne : c.toNat ≠ 48 := fun hh => h48 (by rw [beq_iff_eq]; exact UInt8.toNat_inj.1 hh)
        have h1 : 1 ≤ numF 65536 0 c := by unfold numF; omega
        rw [if_pos rfl, rd_on l _ h1]
        simp only [Bool.not_eq_true] at h48
        simp only [h48, Bool.false_and, Bool.not_false, Bool.true_and]
        rfl

theorem numV_two (l : List UInt8) (h : l.all isDig = true) : ∃ m : Nat, numV 65536 0 l = min (m : Int) 65536 ∧ numV 1000000000 0 l = min (m : Int) 1000000000 := by
  obtain ⟨m, hm⟩ := numV_cap 0 (by omega) l 0 h
  exact ⟨m, hm 65536 (by omega), hm 1000000000 (by omega)⟩

theorem made_cap (a b : Nat) : madeB (min a 65536) (min b 65536) = madeB (min a 1000000000) (min b 1000000000) := by
  unfold madeB
  rw [decide_eq_decide]
  omega
theorem makeH_cap (a b : Nat) : makeH (min a 65536) (min b 65536) = makeH (min a 1000000000) (min b 1000000000) := by
  unfold makeH
  rw [made_cap]
  cases e : madeB (min a 1000000000) (min b 1000000000)
  · rfl
  · have := (made_iff _ _).1 e
    simp only [if_true]
    omega
theorem makeE_cap (a b : Nat) : makeE (min a 65536) (min b 65536) = makeE (min a 1000000000) (min b 1000000000) := by
  unfold makeE
  rw [made_cap]

theorem plain_all (l : List UInt8) (h : plainB l = true) : l.all isDig = true := by
  unfold plainB at h
  rw [Bool.and_eq_true, Bool.and_eq_true] at h
  exact h.2.2
theorem plain_ne (l : List UInt8) (h : plainB l = true) : l.isEmpty = false := by
  unfold plainB at h
  rw [Bool.and_eq_true] at h
  simpa using h.1

/- What the reading sign by sign comes to. -/
theorem scan_none (l : List UInt8) (h : scan l false 0 false 0 false = none) : parseB l = false := by
  cases e : parseB l
  · rfl
  · unfold parseB at e
    rw [Bool.and_eq_true, Bool.and_eq_true] at e
    obtain ⟨e1, e2, e3⟩ := e
    rw [scan_false, rd_start, if_neg (by rw [plain_ne _ e2]; decide), if_pos e2, Option.bind_some, if_pos (of_decide_eq_true e1), rd_start, if_neg (by rw [plain_ne _ e3]; decide), if_pos e3] at h
    cases h
theorem scan_some (l : List UInt8) (v0 : Int) (b0 : Bool) (v1 : Int) (b1 : Bool) (h : scan l false 0 false 0 false = some (v0, b0, v1, b1)) :
    ((b0 && b1) = false → parseB l = false) ∧ ((b0 && b1) = true → parseB l = true ∧ parseH l = makeH v0 v1 ∧ parseE l = makeE v0 v1) := by
  rw [scan_false, rd_start] at h
  by_cases h1 : (headP l).isEmpty = true
  · rw [if_pos h1, Option.bind_some] at h
    have hp : parseB l = false := by
      unfold parseB plainB
      rw [h1]
      simp
    have hb0 : b0 = false := by
      split at h
      · rw [Option.map_eq_some_iff] at h
        obtain ⟨y, _, hy⟩ := h
        simp only [Prod.mk.injEq] at hy
        exact hy.2.1.symm
      · simp only [Option.some.injEq, Prod.mk.injEq] at h
        exact h.2.1.symm
    subst hb0
    exact ⟨fun _ => hp, fun hh => by cases hh⟩
  · rw [if_neg h1] at h
    by_cases h2 : plainB (headP l) = true
    · rw [if_pos h2, Option.bind_some] at h
      by_cases h3 : (headP l).length < l.length
      · rw [if_pos h3, rd_start] at h
        by_cases h4 : (tailP l).isEmpty = true
        · rw [if_pos h4] at h
          simp only [Option.map_some, Option.some.injEq, Prod.mk.injEq] at h
          obtain ⟨_, _, _, rfl⟩ := h
          refine ⟨fun _ => ?_, fun hh => by simp at hh⟩
          unfold parseB
          have : plainB (tailP l) = false := by unfold plainB; rw [h4]; rfl
          rw [this]
          simp
        · rw [if_neg h4] at h
          by_cases h5 : plainB (tailP l) = true
          · rw [if_pos h5] at h
            simp only [Option.map_some, Option.some.injEq, Prod.mk.injEq] at h
            obtain ⟨rfl, rfl, rfl, rfl⟩ := h
            have hp : parseB l = true := by unfold parseB; rw [h2, h5]; simpa using h3
            refine ⟨fun hh => by simp at hh, fun _ => ⟨hp, ?_, ?_⟩⟩
            · unfold parseH
              rw [if_pos hp]
              obtain ⟨a, ha1, ha2⟩ := numV_two _ (plain_all _ h2)
              obtain ⟨b, hb1, hb2⟩ := numV_two _ (plain_all _ h5)
              rw [ha1, ha2, hb1, hb2]
              exact (makeH_cap a b).symm
            · unfold parseE
              rw [if_pos hp]
              obtain ⟨a, ha1, ha2⟩ := numV_two _ (plain_all _ h2)
              obtain ⟨b, hb1, hb2⟩ := numV_two _ (plain_all _ h5)
              rw [ha1, ha2, hb1, hb2]
              exact (makeE_cap a b).symm
          · rw [if_neg h5] at h
            cases h
      · rw [if_neg h3] at h
        simp only [Option.some.injEq, Prod.mk.injEq] at h
        obtain ⟨_, _, _, rfl⟩ := h
        refine ⟨fun _ => ?_, fun hh => by simp at hh⟩
        unfold parseB
        rw [decide_eq_false h3]
        rfl
    · rw [if_neg h2] at h
      cases h

/- A handle's own text. -/
theorem digits_all (n : Nat) : (Lib.decDigits n).all isDig = true := by
  induction n using Nat.strongRecOn with
  | _ n ih =>
    rw [Lib.decDigits]
    split
    · rename_i h
      simp only [List.all_cons, List.all_nil, Bool.and_true]
      unfold isDig
      rw [decide_eq_true_iff, UInt8.toNat_ofNat']
      omega
    · rename_i h
      rw [List.all_append, ih (n / 10) (by omega)]
      simp only [List.all_cons, List.all_nil, Bool.and_true, Bool.true_and]
      unfold isDig
      rw [decide_eq_true_iff, UInt8.toNat_ofNat']
      omega
theorem digits_ne (n : Nat) : Lib.decDigits n ≠ [] := by
  rw [Lib.decDigits]
  split <;> simp
theorem digits_head (n : Nat) (h : 1 ≤ n) : (Lib.decDigits n).headD 0 ≠ 48 := by
  induction n using Nat.strongRecOn with
  | _ n ih =>
    rw [Lib.decDigits]
    split
    · rename_i h'
      simp only [List.headD_cons]
      intro e
      have := congrArg UInt8.toNat e
      rw [UInt8.toNat_ofNat'] at this
      simp at this
      omega
    · rename_i h'
      have h1 := ih (n / 10) (by omega) (by omega)
      cases hd : Lib.decDigits (n / 10) with
      | nil => exact absurd hd (digits_ne _)
      | cons c l => rw [hd] at h1; simpa using h1
theorem digits_plain (n : Nat) : plainB (Lib.decDigits n) = true := by
  unfold plainB
  rw [digits_all]
  have h1 : (Lib.decDigits n).isEmpty = false := by
    cases hd : Lib.decDigits n with
    | nil => exact absurd hd (digits_ne _)
    | cons c l => rfl
  rw [h1]
  by_cases h : n < 10
  · rw [Lib.decDigits_one h]
    simp
  · have h2 := digits_head n (by omega)
    have h3 : ((Lib.decDigits n).headD 0 == 48) = false := beq_eq_false_iff_ne.2 h2
    rw [h3]
    rfl
theorem numV_app (C n : Int) (a b : List UInt8) : numV C n (a ++ b) = numV C (numV C n a) b := by
  unfold numV
  rw [List.foldl_append]
theorem digits_num (n : Nat) (h : n ≤ 1000000000) : numV 1000000000 0 (Lib.decDigits n) = n := by
  induction n using Nat.strongRecOn with
  | _ n ih =>
    rw [Lib.decDigits]
    split
    · rename_i h'
      show numF 1000000000 0 _ = _
      unfold numF
      rw [UInt8.toNat_ofNat']
      omega
    · rename_i h'
      rw [numV_app, ih (n / 10) (by omega) (by omega)]
      show numF 1000000000 _ _ = _
      unfold numF
      rw [UInt8.toNat_ofNat']
      omega
theorem takeWhile_app (p : UInt8 → Bool) : ∀ (a b : List UInt8), a.all p = true → b.takeWhile p = [] → (a ++ b).takeWhile p = a
  | [], b, _, hb => by simpa using hb
  | c :: a, b, ha, hb => by
    rw [List.all_cons, Bool.and_eq_true] at ha
    rw [List.cons_append, List.takeWhile_cons, if_pos ha.1, takeWhile_app p a b ha.2 hb]
theorem headP_text (a b : Nat) : headP (Lib.decDigits a ++ 46 :: Lib.decDigits b) = Lib.decDigits a := by
  unfold headP
  refine takeWhile_app _ _ _ ?_ (by rw [List.takeWhile_cons]; rfl)
  rw [List.all_eq_true]
  intro x hx
  have h := List.all_eq_true.1 (digits_all a) x hx
  have hb := of_decide_eq_true h
  rw [bne_iff_ne]
  intro e
  subst e
  have : (46 : UInt8).toNat = 46 := rfl
  omega
theorem tailP_text (a b : Nat) : tailP (Lib.decDigits a ++ 46 :: Lib.decDigits b) = Lib.decDigits b := by
  unfold tailP
  rw [headP_text]
  have : Lib.decDigits a ++ 46 :: Lib.decDigits b = (Lib.decDigits a ++ [46]) ++ Lib.decDigits b := by simp
  rw [this, List.drop_append_of_le_length (by simp), List.drop_of_length_le (by simp)]
  rfl
theorem parse_text (a b : Nat) (ha : a ≤ 1000000000) (hb : b ≤ 1000000000) :
    parseH (Lib.decDigits a ++ 46 :: Lib.decDigits b) = makeH a b ∧ parseE (Lib.decDigits a ++ 46 :: Lib.decDigits b) = makeE a b := by
  have hp : parseB (Lib.decDigits a ++ 46 :: Lib.decDigits b) = true := by
    unfold parseB
    rw [headP_text, tailP_text, digits_plain, digits_plain]
    simp
  unfold parseH parseE
  rw [if_pos hp, if_pos hp, headP_text, tailP_text, digits_num a ha, digits_num b hb]
  exact ⟨rfl, rfl⟩

def plainV (l : List UInt8) : Int := if plainB l = true then numV 1000000000 0 l else 0
theorem plainV_of (l : List UInt8) (h : plainB l = true) : plainV l = numV 1000000000 0 l := if_pos h
theorem plainV_no (l : List UInt8) (h : plainB l = false) : plainV l = 0 := if_neg (by rw [h]; decide)
theorem plain_nil : plainB [] = false := rfl
theorem plain_zero (l : List UInt8) (h : (l.headD 0 == 48) = true) (h1 : 1 < l.length) : plainB l = false := by
  unfold plainB
  rw [h, decide_eq_true h1]
  simp
theorem plain_else (l : List UInt8) (h0 : l ≠ []) (h : (l.headD 0 == 48) = false ∨ l.length = 1) : plainB l = l.all isDig := by
  unfold plainB
  have e : l.isEmpty = false := by cases l; exact absurd rfl h0; rfl
  rw [e]
  rcases h with h | h
  · rw [h]; rfl
  · rw [h]; simp
theorem numV_bd : ∀ (l : List UInt8) (n : Int), 0 ≤ n → n ≤ 1000000000 → l.all isDig = true → 0 ≤ numV 1000000000 n l ∧ numV 1000000000 n l ≤ 1000000000
  | [], n, h0, h1, _ => ⟨h0, h1⟩
  | c :: l, n, h0, h1, h => by
    rw [List.all_cons, Bool.and_eq_true] at h
    have hb := numF_bd 1000000000 n c h0 (by omega) h.1
    exact numV_bd l _ hb.1 hb.2 h.2
theorem take_snoc (s : ByteArray) (k : Nat) (h : k < s.size) : s.data.toList.take (k + 1) = s.data.toList.take k ++ [s[k]] := by
  rw [List.take_succ_eq_append_getElem (by simpa using h)]; rfl
theorem drop_cons (s : ByteArray) (k : Nat) (h : k < s.size) : s.data.toList.drop k = s[k] :: s.data.toList.drop (k + 1) := by
  rw [List.drop_eq_getElem_cons (by simpa using h)]; rfl

theorem headP_at (l : List UInt8) (k : Nat) (h : (l.take k).all (· != 46) = true) (e : l.drop k = [] ∨ ∃ r, l.drop k = 46 :: r) : headP l = l.take k := by
  unfold headP
  conv => lhs; rw [← List.take_append_drop k l]
  refine takeWhile_app _ _ _ h ?_
  rcases e with e | ⟨r, e⟩
  · rw [e]; rfl
  · rw [e, List.takeWhile_cons]; rfl
theorem parseB_none (l : List UInt8) (h : headP l = l) : parseB l = false := by
  unfold parseB
  rw [h]
  simp
theorem parseB_mid (l : List UInt8) (h : (headP l).length < l.length) : parseB l = (plainB (headP l) && plainB (tailP l)) := by
  unfold parseB
  rw [decide_eq_true h]
  rfl
theorem parseH_no (l : List UInt8) (h : parseB l = false) : parseH l = 0 := if_neg (by rw [h]; decide)
theorem parseE_no (l : List UInt8) (h : parseB l = false) : parseE l = 3 := if_neg (by rw [h]; decide)
theorem parseH_of (l : List UInt8) (h : parseB l = true) : parseH l = makeH (plainV (headP l)) (plainV (tailP l)) := by
  unfold parseH
  rw [if_pos h]
  unfold parseB at h
  rw [Bool.and_eq_true, Bool.and_eq_true] at h
  rw [plainV_of _ h.2.1, plainV_of _ h.2.2]
theorem parseE_of (l : List UInt8) (h : parseB l = true) : parseE l = makeE (plainV (headP l)) (plainV (tailP l)) := by
  unfold parseE
  rw [if_pos h]
  unfold parseB at h
  rw [Bool.and_eq_true, Bool.and_eq_true] at h
  rw [plainV_of _ h.2.1, plainV_of _ h.2.2]
end Go.Proofs.YtmdpcpefkenicaaDoor
