/- Plain maths of choices: what may be, their bytes, what stands in bytes. -/
import Derived.Test.YtpbjfadandnhaaaK
import Derived.Lib.Strings
namespace Go.Proofs.Ytpbjfadandnhaaa

/-- A choice: its kind, and its two numbers. -/
structure CH where
  k : Int
  v : Int
  w : Int
def chC (x : CH) : List Value := [.int .i64 x.k, .int .i64 x.v, .int .i64 x.w]
theorem chC_len (x : CH) : (chC x).length = 3 := rfl
theorem chC_one (x : CH) : ∀ v ∈ chC x, v.oneCell' = true := by
  intro v hv
  simp only [chC, List.mem_cons, List.not_mem_nil, or_false] at hv
  rcases hv with rfl | rfl | rfl <;> rfl
theorem ch_len (L : List CH) : (L.flatMap chC).length = L.length * 3 := by
  induction L with
  | nil => rfl
  | cons a l ih => rw [List.flatMap_cons, List.length_append, ih, chC_len, List.length_cons]; omega
theorem ls_take {α : Type} (L : List α) (k : Nat) (x : α) (h : L[k]? = some x) : L.take (k + 1) = L.take k ++ [x] := by
  rw [List.take_add_one, h]
  rfl
theorem ch_flat1 (L : List CH) (x : CH) : (L ++ [x]).flatMap chC = L.flatMap chC ++ [.int .i64 x.k, .int .i64 x.v, .int .i64 x.w] := by
  rw [List.flatMap_append]
  rfl

/-- What is wrong with one. -/
def chIn (v w a b : Int) : Int := if v < 0 ∨ a < v ∨ w < 0 ∨ b < w then 8 else 0
def chChk (k v w : Int) : Int := if k = 0 then chIn v w 255 255 else if k = 1 then chIn v w 65535 0 else 12
def CH.chk (x : CH) : Int := chChk x.k x.v x.w
/-- The first one that may not be. -/
def chFirst : Nat → List CH → Int × Int
  | _, [] => (0, 0)
  | i, x :: t => if x.chk = 0 then chFirst (i + 1) t else ((i : Int), x.chk)
def chAll (L : List CH) : Int × Int := if 2000 < L.length then (2000, 5) else chFirst 0 L
/-- Choices with their places. -/
def numL : Nat → List CH → List (Nat × CH)
  | _, [] => []
  | i, x :: t => (i, x) :: numL (i + 1) t
theorem numL_len : ∀ (i : Nat) (L : List CH), (numL i L).length = L.length
  | _, [] => rfl
  | i, _ :: t => congrArg (· + 1) (numL_len (i + 1) t)
theorem numL_get : ∀ (i : Nat) (L : List CH) (k : Nat) (x : CH), L[k]? = some x → (numL i L)[k]? = some (i + k, x)
  | _, [], k, x, h => by simp at h
  | i, y :: t, 0, x, h => by
    obtain rfl : y = x := by simpa using h
    rfl
  | i, y :: t, k + 1, x, h => by
    have := numL_get (i + 1) t k x (by simpa using h)
    rw [show numL i (y :: t) = (i, y) :: numL (i + 1) t from rfl, List.getElem?_cons_succ, this]
    congr 2
    omega
theorem first_none : ∀ (i : Nat) (L : List CH), (∀ p ∈ numL i L, p.2.chk = 0) → chFirst i L = (0, 0)
  | _, [], _ => rfl
  | i, x :: t, h => by
    rw [chFirst, if_pos (h (i, x) (List.mem_cons_self ..))]
    exact first_none (i + 1) t fun p hp => h p (List.mem_cons_of_mem _ hp)
theorem first_stop : ∀ (q : List (Nat × CH)) (i : Nat) (L : List CH) (j : Nat) (x : CH) (r : List (Nat × CH)), numL i L = q ++ (j, x) :: r → (∀ p ∈ q, p.2.chk = 0) → x.chk ≠ 0 → chFirst i L = ((j : Int), x.chk)
  | [], i, [], j, x, r, e, _, _ => by simp [numL] at e
  | [], i, y :: t, j, x, r, e, _, hx => by
    simp only [numL, List.nil_append, List.cons.injEq, Prod.mk.injEq] at e
    obtain ⟨⟨rfl, rfl⟩, _⟩ := e
    rw [chFirst, if_neg hx]
  | p :: q, i, [], j, x, r, e, _, _ => by simp [numL] at e
  | p :: q, i, y :: t, j, x, r, e, hq, hx => by
    simp only [numL, List.cons_append, List.cons.injEq] at e
    obtain ⟨rfl, e⟩ := e
    rw [chFirst, if_pos (hq (i, y) (List.mem_cons_self ..))]
    exact first_stop q (i + 1) t j x r e (fun p hp => hq p (List.mem_cons_of_mem _ hp)) hx
theorem first_at : ∀ (L : List CH) (i k : Nat) (x : CH), (∀ y ∈ L.take k, y.chk = 0) → L[k]? = some x → x.chk ≠ 0 → chFirst i L = (((i + k : Nat) : Int), x.chk)
  | [], _, k, x, _, h, _ => by simp at h
  | y :: t, i, 0, x, _, h, hx => by
    obtain rfl : y = x := by simpa using h
    rw [chFirst, if_neg hx]
    rfl
  | y :: t, i, k + 1, x, hq, h, hx => by
    rw [chFirst, if_pos (hq y (by rw [List.take_succ_cons]; exact List.mem_cons_self ..)), first_at t (i + 1) k x (fun z hz => hq z (by rw [List.take_succ_cons]; exact List.mem_cons_of_mem _ hz)) (by simpa using h) hx]
    congr 2
    omega
theorem first_all : ∀ (L : List CH) (i : Nat), (∀ y ∈ L, y.chk = 0) → chFirst i L = (0, 0)
  | [], _, _ => rfl
  | y :: t, i, h => by
    rw [chFirst, if_pos (h y (List.mem_cons_self ..))]
    exact first_all t (i + 1) fun z hz => h z (List.mem_cons_of_mem _ hz)
theorem first_ok : ∀ (L : List CH) (i : Nat), (chFirst i L).2 = 0 → ∀ y ∈ L, y.chk = 0
  | [], _, _, y, hy => by simp at hy
  | x :: t, i, h, y, hy => by
    rw [chFirst] at h
    by_cases hx : x.chk = 0
    · rw [if_pos hx] at h
      rcases List.mem_cons.1 hy with rfl | hy
      · exact hx
      · exact first_ok t (i + 1) h y hy
    · rw [if_neg hx] at h
      exact absurd h hx
theorem all_ok {L : List CH} (h : (chAll L).2 = 0) : L.length ≤ 2000 ∧ ∀ y ∈ L, y.chk = 0 := by
  unfold chAll at h
  split at h
  · simp at h
  · exact ⟨by omega, first_ok L 0 h⟩
theorem all_of {L : List CH} (hl : L.length ≤ 2000) (h : ∀ y ∈ L, y.chk = 0) : chAll L = (0, 0) := by
  unfold chAll
  rw [if_neg (by omega), first_all L 0 h]
theorem in_ok {v w a b : Int} (h : chIn v w a b = 0) : 0 ≤ v ∧ v ≤ a ∧ 0 ≤ w ∧ w ≤ b := by
  unfold chIn at h
  split at h
  · omega
  · omega
/-- A choice that may be is a pick or a tick. -/
theorem chk_ways {x : CH} (h : x.chk = 0) : (x.k = 0 ∧ 0 ≤ x.v ∧ x.v ≤ 255 ∧ 0 ≤ x.w ∧ x.w ≤ 255) ∨ (x.k = 1 ∧ 0 ≤ x.v ∧ x.v ≤ 65535 ∧ x.w = 0) := by
  unfold CH.chk chChk at h
  split at h
  · next hk => exact .inl ⟨hk, in_ok h⟩
  · split at h
    · next hk =>
      obtain ⟨h1, h2, h3, h4⟩ := in_ok h
      exact .inr ⟨hk, h1, h2, by omega⟩
    · omega

/-- A number of 0 to 255, as a byte. -/
def u8 (i : Int) : UInt8 := UInt8.ofNat i.toNat
theorem u8_nat {i : Int} (h0 : 0 ≤ i) (h : i < 256) : ((u8 i).toNat : Int) = i := by
  unfold u8
  rw [UInt8.toNat_ofNat']
  omega
theorem u8_of (b : UInt8) : u8 (b.toNat : Int) = b := by
  unfold u8
  rw [Int.toNat_natCast]
  exact UInt8.ofNat_toNat
/-- A number's two bytes; a choice's three; choices' bytes. -/
def chPair (n : Int) : List UInt8 := [u8 (n / 256), u8 (n % 256)]
def chEnc (x : CH) : List UInt8 := if x.k = 1 then [1, u8 (x.v / 256), u8 (x.v % 256)] else [0, u8 x.v, u8 x.w]
def chBytes (L : List CH) : List UInt8 := if (chAll L).2 = 0 then chPair L.length ++ L.flatMap chEnc else []
theorem bytes_no {L : List CH} (h : (chAll L).2 ≠ 0) : chBytes L = [] := if_neg h
theorem bytes_yes {L : List CH} (h : (chAll L).2 = 0) : chBytes L = chPair L.length ++ L.flatMap chEnc := if_pos h
theorem enc_len (x : CH) : (chEnc x).length = 3 := by
  unfold chEnc
  split <;> rfl
theorem encs_len (L : List CH) : (L.flatMap chEnc).length = 3 * L.length := by
  induction L with
  | nil => rfl
  | cons a l ih => rw [List.flatMap_cons, List.length_append, ih, enc_len, List.length_cons]; omega
theorem bytes_len (L : List CH) : (chBytes L).length ≤ 2 + 3 * L.length := by
  unfold chBytes
  split
  · rw [List.length_append, encs_len]
    exact Nat.le_refl _
  · exact Nat.zero_le _

/-- The choice with which bytes begin, and what is wrong with it. -/
def chRaw (a b c : UInt8) : CH := if a = 1 then ⟨1, 256 * (b.toNat : Int) + c.toNat, 0⟩ else ⟨a.toNat, b.toNat, c.toNat⟩
def chOne : List UInt8 → CH × Int
  | a :: b :: c :: _ => (chRaw a b c, (chRaw a b c).chk)
  | _ => (⟨0, 0, 0⟩, 4)
/-- As many choices as bytes are to begin with, up to the first that is wrong. -/
def chTold : Nat → List UInt8 → List (CH × Int)
  | 0, _ => []
  | n + 1, s => chOne s :: if (chOne s).2 = 0 then chTold n (s.drop 3) else []
def chErr : List (CH × Int) → Int
  | [] => 0
  | x :: t => if x.2 = 0 then chErr t else x.2
def chRd (t : List UInt8) (at_ : Int) : List CH × Int × Int :=
  match t with
  | a :: b :: r => if 2000 < 256 * (a.toNat : Int) + b.toNat then ([], 0, 5) else
    if chErr (chTold (256 * a.toNat + b.toNat) r) = 0 then ((chTold (256 * a.toNat + b.toNat) r).map Prod.fst, at_ + 2 + 3 * (256 * (a.toNat : Int) + b.toNat), 0) else ([], 0, chErr (chTold (256 * a.toNat + b.toNat) r))
  | _ => ([], 0, 4)
/-- The choices at a place of bytes, the place behind them, and what is wrong. -/
def chRead (s : List UInt8) (at_ : Int) : List CH × Int × Int := if at_ < 0 ∨ (s.length : Int) < at_ then ([], 0, 8) else chRd (s.drop at_.toNat) at_

theorem one_short {s : List UInt8} (h : s.length < 3) : chOne s = (⟨0, 0, 0⟩, 4) := by
  match s, h with
  | [], _ => rfl
  | [_], _ => rfl
  | [_, _], _ => rfl
theorem one_long {s : List UInt8} (h : ¬ s.length < 3) : chOne s = (chRaw s[0] s[1] s[2], (chRaw s[0] s[1] s[2]).chk) := by
  match s, h with
  | [], h => exact absurd (by simp) h
  | [_], h => exact absurd (by simp) h
  | [_, _], h => exact absurd (by simp) h
  | a :: b :: c :: r, _ => rfl
theorem one_ok {s : List UInt8} (h : (chOne s).2 = 0) : 3 ≤ s.length := by
  rcases Nat.lt_or_ge s.length 3 with h' | h'
  · rw [one_short h'] at h
    simp at h
  · exact h'
theorem told_ne (n : Nat) (s : List UInt8) : chTold (n + 1) s = chOne s :: if (chOne s).2 = 0 then chTold n (s.drop 3) else [] := rfl
theorem told_yes {n : Nat} {s : List UInt8} (h : (chOne s).2 = 0) : chTold (n + 1) s = chOne s :: chTold n (s.drop 3) := by rw [told_ne, if_pos h]
theorem told_no {n : Nat} {s : List UInt8} (h : (chOne s).2 ≠ 0) : chTold (n + 1) s = [chOne s] := by rw [told_ne, if_neg h]
theorem told_len : ∀ (n : Nat) (s : List UInt8), (chTold n s).length ≤ n
  | 0, _ => Nat.le_refl _
  | n + 1, s => by
    rw [told_ne, List.length_cons]
    split
    · exact Nat.succ_le_succ (told_len n _)
    · simp
theorem err_stop : ∀ (q : List (CH × Int)) (x : CH × Int) (r : List (CH × Int)), (∀ p ∈ q, p.2 = 0) → x.2 ≠ 0 → chErr (q ++ x :: r) = x.2
  | [], x, r, _, hx => by rw [List.nil_append, chErr, if_neg hx]
  | p :: q, x, r, hq, hx => by
    rw [List.cons_append, chErr, if_pos (hq p (List.mem_cons_self ..))]
    exact err_stop q x r (fun y hy => hq y (List.mem_cons_of_mem _ hy)) hx
theorem err_none : ∀ (q : List (CH × Int)), (∀ p ∈ q, p.2 = 0) → chErr q = 0
  | [], _ => rfl
  | p :: q, hq => by
    rw [chErr, if_pos (hq p (List.mem_cons_self ..))]
    exact err_none q fun y hy => hq y (List.mem_cons_of_mem _ hy)
/-- What comes back from a choice's bytes. -/
theorem one_enc {x : CH} (h : x.chk = 0) (r : List UInt8) : chOne (chEnc x ++ r) = (x, 0) := by
  obtain ⟨k, v, w⟩ := x
  rcases chk_ways h with ⟨hk, h1, h2, h3, h4⟩ | ⟨hk, h1, h2, h3⟩
  · simp only at hk h1 h2 h3 h4
    subst hk
    have e : chRaw 0 (u8 v) (u8 w) = ⟨0, v, w⟩ := by
      unfold chRaw
      rw [if_neg (by decide), u8_nat h1 (by omega), u8_nat h3 (by omega)]
      rfl
    show (chRaw 0 (u8 v) (u8 w), (chRaw 0 (u8 v) (u8 w)).chk) = _
    rw [e, h]
  · simp only at hk h1 h2 h3
    subst hk h3
    have e : chRaw 1 (u8 (v / 256)) (u8 (v % 256)) = ⟨1, v, 0⟩ := by
      unfold chRaw
      rw [if_pos rfl, u8_nat (by omega) (by omega), u8_nat (by omega) (by omega)]
      congr 1
      omega
    show (chRaw 1 (u8 (v / 256)) (u8 (v % 256)), (chRaw 1 (u8 (v / 256)) (u8 (v % 256))).chk) = _
    rw [e, h]
theorem told_enc : ∀ (L : List CH) (r : List UInt8), (∀ y ∈ L, y.chk = 0) → chTold L.length (L.flatMap chEnc ++ r) = L.map fun x => (x, 0)
  | [], _, _ => rfl
  | x :: t, r, h => by
    have hx := h x (List.mem_cons_self ..)
    have e := one_enc hx (t.flatMap chEnc ++ r)
    rw [List.flatMap_cons, List.append_assoc, List.length_cons, told_yes (by rw [e]), e, List.map_cons]
    have hd : (chEnc x ++ (t.flatMap chEnc ++ r)).drop 3 = t.flatMap chEnc ++ r := by
      rw [← enc_len x, List.drop_left]
    rw [hd, told_enc t r fun z hz => h z (List.mem_cons_of_mem _ hz)]
/-- What is read has just these bytes. -/
theorem one_back {s : List UInt8} (h : (chOne s).2 = 0) : chEnc (chOne s).1 = s.take 3 := by
  match s, h with
  | [], h => simp [chOne] at h
  | [_], h => simp [chOne] at h
  | [_, _], h => simp [chOne] at h
  | a :: b :: c :: r, h =>
    show chEnc (chRaw a b c) = [a, b, c]
    have h : (chRaw a b c).chk = 0 := h
    unfold chRaw at h ⊢
    have hb := b.toNat_lt
    have hc := c.toNat_lt
    by_cases ha : a = 1
    · subst ha
      rw [if_pos rfl]
      unfold chEnc
      rw [if_pos rfl]
      have e1 : (256 * (b.toNat : Int) + c.toNat) / 256 = b.toNat := by omega
      have e2 : (256 * (b.toNat : Int) + c.toNat) % 256 = c.toNat := by omega
      show [1, u8 ((256 * (b.toNat : Int) + c.toNat) / 256), u8 ((256 * (b.toNat : Int) + c.toNat) % 256)] = _
      rw [e1, e2, u8_of, u8_of]
    · rw [if_neg ha] at h ⊢
      have h0 : a = 0 := by
        rcases chk_ways h with ⟨hk, _⟩ | ⟨hk, _⟩
        · have : a.toNat = 0 := by simpa using hk
          exact UInt8.toNat_inj.1 this
        · have : a.toNat = 1 := by
            have hk : (a.toNat : Int) = 1 := hk
            omega
          exact absurd (UInt8.toNat_inj.1 this) ha
      subst h0
      unfold chEnc
      rw [if_neg (show ¬ ((0 : UInt8).toNat : Int) = 1 by decide)]
      show [0, u8 (b.toNat : Int), u8 (c.toNat : Int)] = _
      rw [u8_of, u8_of]
theorem told_back : ∀ (n : Nat) (s : List UInt8), chErr (chTold n s) = 0 → ((chTold n s).map Prod.fst).length = n ∧ 3 * n ≤ s.length ∧ (∀ y ∈ (chTold n s).map Prod.fst, y.chk = 0) ∧ ((chTold n s).map Prod.fst).flatMap chEnc = s.take (3 * n)
  | 0, s, _ => ⟨rfl, Nat.zero_le _, fun y hy => by simp [chTold] at hy, by simp [chTold]⟩
  | n + 1, s, h => by
    have h0 : (chOne s).2 = 0 := by
      by_cases h0 : (chOne s).2 = 0
      · exact h0
      · rw [told_no h0, chErr, if_neg h0] at h
        exact h
    rw [told_yes h0, chErr, if_pos h0] at h
    obtain ⟨h1, h2, h3, h4⟩ := told_back n (s.drop 3) h
    have h5 := one_ok h0
    rw [List.length_drop] at h2
    rw [told_yes h0, List.map_cons]
    refine ⟨by rw [List.length_cons, h1], by omega, ?_, ?_⟩
    · intro y hy
      rcases List.mem_cons.1 hy with rfl | hy
      · rw [one_long (by omega)] at h0 ⊢
        exact h0
      · exact h3 y hy
    · rw [List.flatMap_cons, one_back h0, h4, show 3 * (n + 1) = 3 + 3 * n by omega, List.take_add]
/-- Choices come back from their bytes. -/
theorem read_bytes {L : List CH} (h : (chAll L).2 = 0) (a : List UInt8) : chRead (a ++ chBytes L) (a.length : Int) = (L, (a.length : Int) + 2 + 3 * L.length, 0) := by
  obtain ⟨hl, hok⟩ := all_ok h
  unfold chRead
  rw [if_neg (by rw [List.length_append]; omega), Int.toNat_natCast, List.drop_left, bytes_yes h]
  have e1 := u8_nat (i := (L.length : Int) / 256) (by omega) (by omega)
  have e2 := u8_nat (i := (L.length : Int) % 256) (by omega) (by omega)
  have e3 : 256 * (u8 ((L.length : Int) / 256)).toNat + (u8 ((L.length : Int) % 256)).toNat = L.length := by omega
  have et := told_enc L [] hok
  rw [List.append_nil] at et
  show chRd (u8 ((L.length : Int) / 256) :: u8 ((L.length : Int) % 256) :: L.flatMap chEnc) _ = _
  unfold chRd
  simp only
  rw [if_neg (by omega), e3, et, if_pos (err_none _ (by intro p hp; obtain ⟨x, _, rfl⟩ := List.mem_map.1 hp; rfl))]
  congr 1
  · rw [List.map_map]
    exact List.map_id L
  · congr 1
    omega
/-- Nothing else has these bytes. -/
theorem bytes_read {s : List UInt8} {L : List CH} {e : Int} (h : chRead s 0 = (L, e, 0)) : 0 ≤ e ∧ e ≤ s.length ∧ chBytes L = s.take e.toNat ∧ L.length ≤ 2000 := by
  unfold chRead at h
  rw [if_neg (by omega)] at h
  simp only [Int.toNat_zero, List.drop_zero] at h
  match s, h with
  | [], h => simp [chRd] at h
  | [_], h => simp [chRd] at h
  | a :: b :: r, h =>
    unfold chRd at h
    simp only at h
    have ha := a.toNat_lt
    have hb := b.toNat_lt
    split at h
    · simp at h
    · next hm =>
      split at h
      · next he =>
        obtain ⟨h1, h2, h3, h4⟩ := told_back _ _ he
        simp only [Prod.mk.injEq] at h
        obtain ⟨rfl, rfl, _⟩ := h
        have hall := all_of (by omega) h3
        refine ⟨by omega, by rw [List.length_cons, List.length_cons]; omega, ?_, by omega⟩
        rw [bytes_yes (by rw [hall]), h4, h1]
        have e1 : ((256 * a.toNat + b.toNat : Nat) : Int) / 256 = a.toNat := by omega
        have e2 : ((256 * a.toNat + b.toNat : Nat) : Int) % 256 = b.toNat := by omega
        have e3 : (0 + 2 + 3 * (256 * (a.toNat : Int) + b.toNat)).toNat = 3 * (256 * a.toNat + b.toNat) + 1 + 1 := by omega
        show u8 _ :: u8 _ :: _ = _
        rw [e1, e2, e3, u8_of, u8_of, List.take_succ_cons, List.take_succ_cons]
        rfl
      · simp only [Prod.mk.injEq] at h
        next he => exact absurd h.2.2 he
end Go.Proofs.Ytpbjfadandnhaaa
