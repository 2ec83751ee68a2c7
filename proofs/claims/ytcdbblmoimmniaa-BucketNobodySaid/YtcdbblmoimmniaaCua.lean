/- Buckets as lists of numbers: plain maths. -/
import Derived.Test.YtcdbblmoimmniaaK
import Derived.Test.YtcdbblmoimmniaaQa
namespace Go.Proofs.Ytcdbblmoimmniaa
open Go.RowKit

/-- What is wrong with asking n buckets for one. -/
def lkE (n : Nat) (k : Int) : Int := if k < 0 ∨ (n : Int) ≤ k then 8 else 0
/-- The first bucket that has p, or how many there are. -/
def whN : List (List Int) → Int → Nat
  | [], _ => 0
  | l :: L, p => if p ∈ l then 0 else whN L p + 1
def whB (L : List (List Int)) (p : Int) : Bool := decide (whN L p < L.length)
def whK (L : List (List Int)) (p : Int) : Int := if whN L p < L.length then (whN L p : Int) else 0
def liL (L : List (List Int)) (k : Int) : List Int := if k < 0 then [] else L.getD k.toNat []
def flE (L : List (List Int)) (k p : Int) : Int := if k < 0 ∨ (L.length : Int) ≤ k ∨ p < 0 ∨ 16 ≤ p then 8 else if whB L p = true then 7 else 0
def flL (L : List (List Int)) (k p : Int) : List (List Int) := if flE L k p = 0 then L.set k.toNat (liL L k ++ [p]) else L
def fuL (L : List (List Int)) (k : Int) : List (List Int) := if lkE L.length k = 0 then L.set k.toNat [] else L

theorem whN_le : ∀ (L : List (List Int)) (p : Int), whN L p ≤ L.length
  | [], _ => Nat.le_refl _
  | l :: L, p => by
    unfold whN
    have := whN_le L p
    split
    · omega
    · rw [List.length_cons]; omega
/-- The first one that has p is known by those ahead of it. -/
theorem whN_of : ∀ (L : List (List Int)) (p : Int) (k : Nat) (l : List Int), L[k]? = some l → p ∈ l → (∀ j m, j < k → L[j]? = some m → p ∉ m) → whN L p = k
  | [], _, k, l, h, _, _ => by simp at h
  | a :: L, p, 0, l, h, hp, _ => by
    obtain rfl : a = l := by simpa using h
    unfold whN
    rw [if_pos hp]
  | a :: L, p, k + 1, l, h, hp, hn => by
    have h0 := hn 0 a (by omega) rfl
    have ih := whN_of L p k l (by simpa using h) hp fun j m hj hm => hn (j + 1) m (by omega) (by simpa using hm)
    unfold whN
    rw [if_neg h0, ih]
theorem whN_no : ∀ (L : List (List Int)) (p : Int), (∀ j m, j < L.length → L[j]? = some m → p ∉ m) → whN L p = L.length
  | [], _, _ => rfl
  | a :: L, p, hn => by
    have h0 := hn 0 a (by simp) rfl
    have ih := whN_no L p fun j m hj hm => hn (j + 1) m (by simpa using hj) (by simpa using hm)
    unfold whN
    rw [if_neg h0, ih, List.length_cons]
theorem whN_at : ∀ (L : List (List Int)) (p : Int) (k : Nat) (l : List Int), L[k]? = some l → whN L p = k → p ∈ l
  | [], _, k, l, h, _ => by simp at h
  | a :: L, p, 0, l, h, hk => by
    obtain rfl : a = l := by simpa using h
    unfold whN at hk
    by_cases hp : p ∈ a
    · exact hp
    · rw [if_neg hp] at hk; omega
  | a :: L, p, k + 1, l, h, hk => by
    unfold whN at hk
    by_cases hp : p ∈ a
    · rw [if_pos hp] at hk; omega
    · rw [if_neg hp] at hk
      exact whN_at L p k l (by simpa using h) (by omega)
/-- Nobody has p. -/
theorem whB_no {L : List (List Int)} {p : Int} (h : whB L p = false) : ∀ l ∈ L, p ∉ l := by
  intro l hl hp
  obtain ⟨k, hk, rfl⟩ := List.getElem_of_mem hl
  have : whN L p ≤ k := by
    clear h hl
    induction L generalizing k with
    | nil => simp at hk
    | cons a L ih =>
      unfold whN
      by_cases ha : p ∈ a
      · rw [if_pos ha]; omega
      · rw [if_neg ha]
        cases k with
        | zero => exact absurd hp ha
        | succ k =>
          have := ih k (by simpa using hk) (by simpa using hp)
          omega
  have h2 := of_decide_eq_false h
  omega
theorem whB_yes {L : List (List Int)} {p : Int} (h : whB L p = true) : ∃ l ∈ L, p ∈ l := by
  have h2 := of_decide_eq_true h
  exact ⟨_, List.getElem_mem h2, whN_at L p _ _ (List.getElem?_eq_getElem h2) rfl⟩
theorem whB_iff (L : List (List Int)) (p : Int) : whB L p = true ↔ ∃ l ∈ L, p ∈ l := by
  refine ⟨whB_yes, fun ⟨l, hl, hp⟩ => ?_⟩
  cases h : whB L p
  · exact absurd hp (whB_no h l hl)
  · rfl

/-- Numbers from 0 to n - 1, each once: n at most. -/
theorem few_of : ∀ (n : Nat) (L : List Int), (∀ z ∈ L, 0 ≤ z ∧ z < (n : Int)) → L.Nodup → L.length ≤ n := by
  intro n
  induction n with
  | zero =>
    intro L h _
    cases L with
    | nil => simp
    | cons x L => have := h x (by simp); omega
  | succ n ih =>
    intro L h hd
    have h1 := ih (L.filter (· ≠ (n : Int))) (fun z hz => by
      have hz' := List.mem_filter.1 hz
      have := h z hz'.1
      have hn : z ≠ n := by simpa using hz'.2
      omega) (List.Pairwise.filter _ hd)
    have h2 : ∀ M : List Int, M.Nodup → M.length ≤ (M.filter (· ≠ (n : Int))).length + 1 := by
      intro M
      induction M with
      | nil => simp
      | cons x M ihM =>
        intro hM
        rw [List.nodup_cons] at hM
        by_cases hx : x = (n : Int)
        · have : M.filter (· ≠ (n : Int)) = M := List.filter_eq_self.2 fun z hz => by
            have : z ≠ (n : Int) := fun e => hM.1 (by rw [hx, ← e]; exact hz)
            simpa using this
          rw [List.filter_cons_of_neg (by simp [hx]), this, List.length_cons]
          exact Nat.le_refl _
        · have := ihM hM.2
          rw [List.filter_cons_of_pos (by simpa using hx), List.length_cons, List.length_cons]
          omega
    have := h2 L hd
    omega

/-- Each process is in one bucket at most. -/
structure BG (L : List (List Int)) : Prop where
  few : L.length ≤ 4
  rng : ∀ l ∈ L, ∀ x ∈ l, 0 ≤ x ∧ x < 16
  nd : ∀ l ∈ L, l.Nodup
  dj : ∀ (j k : Nat) (l m : List Int), L[j]? = some l → L[k]? = some m → j ≠ k → ∀ x ∈ l, x ∉ m
theorem flat_nodup : ∀ (L : List (List Int)), (∀ l ∈ L, l.Nodup) → (∀ (j k : Nat) (l m : List Int), L[j]? = some l → L[k]? = some m → j ≠ k → ∀ x ∈ l, x ∉ m) → L.flatten.Nodup
  | [], _, _ => by simp
  | a :: L, h1, h2 => by
    rw [List.flatten_cons, List.nodup_append]
    refine ⟨h1 a (by simp), flat_nodup L (fun l hl => h1 l (by simp [hl])) fun j k l m hj hk hne x hx => h2 (j + 1) (k + 1) l m (by simpa using hj) (by simpa using hk) (by omega) x hx, ?_⟩
    intro x hx y hy e
    subst e
    obtain ⟨l, hl, hxl⟩ := List.mem_flatten.1 hy
    obtain ⟨k, hk, rfl⟩ := List.getElem_of_mem hl
    exact h2 0 (k + 1) a _ rfl (by simp [hk]) (by omega) x hx hxl
theorem sum_flat : ∀ L : List (List Int), sumlen L = L.flatten.length
  | [] => rfl
  | l :: L => by
    have := sum_flat L
    simp only [sumlen, List.map_cons, List.sum_cons] at this ⊢
    rw [this]
    simp
section
variable {L : List (List Int)}
theorem BG.sum (h : BG L) : sumlen L ≤ 16 := by
  rw [sum_flat]
  refine few_of 16 _ (fun z hz => ?_) (flat_nodup L h.nd h.dj)
  obtain ⟨l, hl, hz⟩ := List.mem_flatten.1 hz
  exact h.rng l hl z hz
/-- Who is in none finds room. -/
theorem BG.room (h : BG L) {p : Int} (h0 : 0 ≤ p) (h1 : p < 16) (hp : ∀ l ∈ L, p ∉ l) : sumlen L ≤ 15 := by
  rw [sum_flat]
  have := few_of 16 (p :: L.flatten) (fun z hz => by
    rcases List.mem_cons.1 hz with rfl | hz
    · omega
    · obtain ⟨l, hl, hz⟩ := List.mem_flatten.1 hz
      exact h.rng l hl z hz) (List.nodup_cons.2 ⟨fun hz => by
        obtain ⟨l, hl, hz⟩ := List.mem_flatten.1 hz
        exact hp l hl hz, flat_nodup L h.nd h.dj⟩)
  rw [List.length_cons] at this
  omega
theorem BG.lens (h : BG L) {k : Nat} {l : List Int} (hl : L[k]? = some l) : l.length ≤ 16 := by
  have := sumlen_le L k l hl
  have := h.sum
  omega
theorem BG.len' (h : BG L) {l : List Int} (hl : l ∈ L) : l.length ≤ 16 := by
  obtain ⟨k, hk, rfl⟩ := List.getElem_of_mem hl
  exact h.lens (List.getElem?_eq_getElem hk)
theorem BG.put (h : BG L) {k : Nat} {l : List Int} (hl : L[k]? = some l) {p : Int} (h0 : 0 ≤ p) (h1 : p < 16) (hp : ∀ l ∈ L, p ∉ l) : BG (L.set k (l ++ [p])) := by
  have hlt := (List.getElem?_eq_some_iff.1 hl).1
  have hlm := List.mem_of_getElem? hl
  have hset : ∀ (j : Nat) (m : List Int), (L.set k (l ++ [p]))[j]? = some m → (j = k ∧ m = l ++ [p]) ∨ (j ≠ k ∧ L[j]? = some m) := by
    intro j m hm
    by_cases e : j = k
    · subst e
      rw [List.getElem?_set_self hlt] at hm
      exact .inl ⟨rfl, by simpa using hm.symm⟩
    · rw [List.getElem?_set_ne (Ne.symm e)] at hm
      exact .inr ⟨e, hm⟩
  refine ⟨by rw [List.length_set]; exact h.few, ?_, ?_, ?_⟩
  · intro m hm x hx
    rcases List.mem_or_eq_of_mem_set hm with hm | rfl
    · exact h.rng m hm x hx
    · rcases List.mem_append.1 hx with hx | hx
      · exact h.rng l hlm x hx
      · obtain rfl : x = p := by simpa using hx
        exact ⟨h0, h1⟩
  · intro m hm
    rcases List.mem_or_eq_of_mem_set hm with hm | rfl
    · exact h.nd m hm
    · rw [List.nodup_append]
      exact ⟨h.nd l hlm, by simp, fun x hx y hy e => hp l hlm (by
        obtain rfl : y = p := by simpa using hy
        exact e ▸ hx)⟩
  · intro i j m m' hi hj hne x hx hx'
    rcases hset i m hi with ⟨e1, e2⟩ | ⟨_, gi⟩
    · rcases hset j m' hj with ⟨e3, _⟩ | ⟨_, gj⟩
      · exact hne (e1.trans e3.symm)
      · rw [e2] at hx
        rcases List.mem_append.1 hx with hx | hx
        · exact h.dj i j l m' (e1 ▸ hl) gj hne x hx hx'
        · have e : x = p := by simpa using hx
          exact hp m' (List.mem_of_getElem? gj) (e ▸ hx')
    · rcases hset j m' hj with ⟨e3, e4⟩ | ⟨_, gj⟩
      · rw [e4] at hx'
        rcases List.mem_append.1 hx' with hx' | hx'
        · exact h.dj i j m l gi (e3 ▸ hl) hne x hx hx'
        · have e : x = p := by simpa using hx'
          exact hp m (List.mem_of_getElem? gi) (e ▸ hx)
      · exact h.dj i j m m' gi gj hne x hx hx'
theorem BG.out (h : BG L) (k : Nat) : BG (L.set k []) := by
  have hset : ∀ (j : Nat) (m : List Int), (L.set k [])[j]? = some m → m = [] ∨ L[j]? = some m := by
    intro j m hm
    rw [List.getElem?_set] at hm
    split at hm
    · split at hm
      · exact .inl (by simpa using hm.symm)
      · cases hm
    · exact .inr hm
  refine ⟨by rw [List.length_set]; exact h.few, ?_, ?_, ?_⟩
  · intro m hm x hx
    rcases List.mem_or_eq_of_mem_set hm with hm | rfl
    · exact h.rng m hm x hx
    · cases hx
  · intro m hm
    rcases List.mem_or_eq_of_mem_set hm with hm | rfl
    · exact h.nd m hm
    · simp
  · intro i j m m' hi hj hne x hx hx'
    rcases hset i m hi with rfl | hi
    · cases hx
    · rcases hset j m' hj with rfl | hj
      · cases hx'
      · exact h.dj i j m m' hi hj hne x hx hx'
end
theorem BG.less {L : List (List Int)} {k : Nat} {m m' : List Int} (h : BG (L.set k m')) (hs : m.Sublist m') : BG (L.set k m) := by
  have key : ∀ (j : Nat) (l : List Int), (L.set k m)[j]? = some l → ∃ l', (L.set k m')[j]? = some l' ∧ l.Sublist l' := by
    intro j l hl
    rw [List.getElem?_set] at hl ⊢
    split at hl
    · next e =>
      split at hl
      · next e2 =>
        obtain rfl : m = l := by simpa using hl
        exact ⟨m', by rw [if_pos e, if_pos e2], hs⟩
      · cases hl
    · next e => exact ⟨l, by rw [if_neg e]; exact hl, List.Sublist.refl _⟩
  have mem : ∀ l ∈ L.set k m, ∃ l' ∈ L.set k m', l.Sublist l' := by
    intro l hl
    obtain ⟨j, hj, rfl⟩ := List.getElem_of_mem hl
    obtain ⟨l', h1, h2⟩ := key j _ (List.getElem?_eq_getElem hj)
    exact ⟨l', List.mem_of_getElem? h1, h2⟩
  refine ⟨by have := h.few; rwa [List.length_set] at this ⊢, ?_, ?_, ?_⟩
  · intro l hl x hx
    obtain ⟨l', h1, h2⟩ := mem l hl
    exact h.rng l' h1 x (h2.subset hx)
  · intro l hl
    obtain ⟨l', h1, h2⟩ := mem l hl
    exact (h.nd l' h1).sublist h2
  · intro i j l n hi hj hne x hx hx'
    obtain ⟨l', h1, h2⟩ := key i l hi
    obtain ⟨n', h3, h4⟩ := key j n hj
    exact h.dj i j l' n' h1 h3 hne x (h2.subset hx) (h4.subset hx')
theorem BG.new (n : Nat) (h : n ≤ 4) : BG (List.replicate n []) := by
  have hm : ∀ l ∈ List.replicate n ([] : List Int), l = [] := fun l hl => List.eq_of_mem_replicate hl
  refine ⟨by simpa using h, ?_, ?_, ?_⟩
  · intro l hl x hx
    rw [hm l hl] at hx
    cases hx
  · intro l hl
    rw [hm l hl]
    simp
  · intro j k l m hj _ _ x hx
    rw [hm l (List.mem_of_getElem? hj)] at hx
    cases hx

theorem lk_ok {n : Nat} {k : Int} (h : lkE n k = 0) : ∃ j : Nat, k = j ∧ j < n := by
  unfold lkE at h
  split at h
  · cases h
  · exact ⟨k.toNat, by omega, by omega⟩
theorem lk_no {n : Nat} {k : Int} (h : lkE n k ≠ 0) : lkE n k = 8 ∧ (k < 0 ∨ (n : Int) ≤ k) := by
  unfold lkE at h ⊢
  split
  · next h1 => exact ⟨rfl, h1⟩
  · next h1 => rw [if_neg h1] at h; exact absurd rfl h
theorem lk_at {n j : Nat} (h : j < n) : lkE n (j : Int) = 0 := if_neg (by omega)
theorem lk_off {n : Nat} {k : Int} (h : k < 0 ∨ (n : Int) ≤ k) : lkE n k = 8 := if_pos h
theorem li_at {L : List (List Int)} {j : Nat} {l : List Int} (h : L[j]? = some l) : liL L (j : Int) = l := by
  unfold liL
  rw [if_neg (by omega), Int.toNat_natCast, List.getD_eq_getElem?_getD, h]
  rfl
theorem li_no {L : List (List Int)} {k : Int} (h : k < 0 ∨ (L.length : Int) ≤ k) : liL L k = [] := by
  unfold liL
  split
  · rfl
  · rw [List.getD_eq_getElem?_getD, List.getElem?_eq_none (by omega)]
    rfl
/-- What Fall does, in its three ways. -/
theorem fall_range {L : List (List Int)} {k p : Int} (h : k < 0 ∨ (L.length : Int) ≤ k ∨ p < 0 ∨ 16 ≤ p) : flE L k p = 8 ∧ flL L k p = L := by
  have h1 : flE L k p = 8 := if_pos h
  exact ⟨h1, by unfold flL; rw [h1]; rfl⟩
theorem fall_there {L : List (List Int)} {k p : Int} (h : ¬ (k < 0 ∨ (L.length : Int) ≤ k ∨ p < 0 ∨ 16 ≤ p)) (hw : whB L p = true) : flE L k p = 7 ∧ flL L k p = L := by
  have h1 : flE L k p = 7 := by unfold flE; rw [if_neg h, if_pos hw]
  exact ⟨h1, by unfold flL; rw [h1]; rfl⟩
theorem fall_ok {L : List (List Int)} {j : Nat} {p : Int} {l : List Int} (h : ¬ ((j : Int) < 0 ∨ (L.length : Int) ≤ j ∨ p < 0 ∨ 16 ≤ p)) (hw : whB L p = false) (hl : L[j]? = some l) : flE L j p = 0 ∧ flL L j p = L.set j (l ++ [p]) := by
  have h1 : flE L j p = 0 := by unfold flE; rw [if_neg h, if_neg (by rw [hw]; decide)]
  refine ⟨h1, ?_⟩
  unfold flL
  rw [if_pos h1, li_at hl, Int.toNat_natCast]
theorem flush_ok {L : List (List Int)} {j : Nat} (h : j < L.length) : fuL L j = L.set j [] := by
  unfold fuL
  rw [if_pos (lk_at h), Int.toNat_natCast]
theorem flush_no {L : List (List Int)} {k : Int} (h : k < 0 ∨ (L.length : Int) ≤ k) : fuL L k = L := by
  unfold fuL
  rw [lk_off h]
  rfl
theorem BG.fall {L : List (List Int)} (h : BG L) (k p : Int) : BG (flL L k p) := by
  by_cases hr : k < 0 ∨ (L.length : Int) ≤ k ∨ p < 0 ∨ 16 ≤ p
  · rw [(fall_range hr).2]; exact h
  · cases hw : whB L p
    · obtain ⟨j, rfl⟩ : ∃ j : Nat, k = j := ⟨k.toNat, by omega⟩
      obtain ⟨l, hl⟩ : ∃ l, L[j]? = some l := ⟨_, List.getElem?_eq_getElem (by omega)⟩
      rw [(fall_ok hr hw hl).2]
      exact h.put hl (by omega) (by omega) (whB_no hw)
    · rw [(fall_there hr hw).2]; exact h
theorem BG.flush {L : List (List Int)} (h : BG L) (k : Int) : BG (fuL L k) := by
  unfold fuL
  split
  · exact h.out _
  · exact h
theorem flL_len (L : List (List Int)) (k p : Int) : (flL L k p).length = L.length := by
  unfold flL
  split
  · rw [List.length_set]
  · rfl
theorem fuL_len (L : List (List Int)) (k : Int) : (fuL L k).length = L.length := by
  unfold fuL
  split
  · rw [List.length_set]
  · rfl
end Go.Proofs.Ytcdbblmoimmniaa
