/- Choices as plain data: what may be, what is taken, whose turn it is. -/
import Derived.Test.YtlnnmigoonbbjaaK
namespace Go.Proofs.Ytlnnmigoonbbjaa

/-- Is it the number of one of so many guards, and may there be so many? -/
def chNum (no m : Int) : Bool := decide (0 ≤ no) && (decide (no < m) && decide (m ≤ 6))
theorem chNum_iff (no m : Int) : chNum no m = true ↔ 0 ≤ no ∧ no < m ∧ m ≤ 6 := by
  unfold chNum
  simp
theorem chNum_no {no m : Int} (h : chNum no m = false) : no < 0 ∨ m ≤ no ∨ 6 < m := by
  have : ¬ (0 ≤ no ∧ no < m ∧ m ≤ 6) := fun e => by rw [(chNum_iff no m).2 e] at h; cases h
  omega
/-- May z stand behind numbers below l? -/
def chStep (l m z : Int) : Bool := decide (l ≤ z) && chNum z m
theorem chStep_low {l m z : Int} (h : z < l) : chStep l m z = false := by
  unfold chStep
  rw [decide_eq_false (by omega)]
  rfl
theorem chStep_no {l m z : Int} (h : chNum z m = false) : chStep l m z = false := by
  unfold chStep
  rw [h, Bool.and_false]
theorem chStep_ok {l m z : Int} (h : l ≤ z) (h' : chNum z m = true) : chStep l m z = true := by
  unfold chStep
  rw [h', decide_eq_true h]
  rfl
def chRis (m : Int) : Int → List Int → Bool
  | _, [] => true
  | l, z :: L => chStep l m z && chRis m (z + 1) L
/-- What the next one may be at least. -/
def chNxt : Int → List Int → Int
  | l, [] => l
  | _, z :: L => chNxt (z + 1) L
theorem chRis_app (m : Int) : ∀ (L M : List Int) (l : Int), chRis m l (L ++ M) = (chRis m l L && chRis m (chNxt l L) M)
  | [], M, l => by simp [chRis, chNxt]
  | a :: L, M, l => by
    rw [List.cons_append, chRis, chRis_app m L, ← Bool.and_assoc]
    rfl
theorem chNxt_snoc : ∀ (L : List Int) (l z : Int), chNxt l (L ++ [z]) = z + 1
  | [], _, _ => rfl
  | a :: L, _, z => chNxt_snoc L (a + 1) z
theorem chNxt_bd (m : Int) : ∀ (L : List Int) (l : Int), chRis m l L = true → 0 ≤ l → l ≤ 6 → 0 ≤ chNxt l L ∧ chNxt l L ≤ 6
  | [], l, _, h0, h1 => ⟨h0, h1⟩
  | a :: L, l, h, h0, h1 => by
    rw [chRis, Bool.and_eq_true] at h
    have hs := h.1
    unfold chStep at hs
    rw [Bool.and_eq_true, chNum_iff] at hs
    exact chNxt_bd m L (a + 1) h.2 (by omega) (by omega)
theorem ch_take {L : List Int} {k : Nat} {z : Int} (h : L[k]? = some z) : L.take (k + 1) = L.take k ++ [z] := by
  rw [List.take_add_one, h]
  rfl
theorem ris_next {L : List Int} {k : Nat} {z m : Int} (h : L[k]? = some z) (hF : chRis m 0 (L.take k) = true) (hs : chStep (chNxt 0 (L.take k)) m z = true) : chRis m 0 (L.take (k + 1)) = true := by
  rw [ch_take h, chRis_app, hF]
  simp [chRis, hs]
theorem nxt_next {L : List Int} {k : Nat} {z : Int} (h : L[k]? = some z) : chNxt 0 (L.take (k + 1)) = z + 1 := by rw [ch_take h, chNxt_snoc]
theorem ris_bad {L : List Int} {k : Nat} {z m : Int} (h : L[k]? = some z) (hs : chStep (chNxt 0 (L.take k)) m z = false) : chRis m 0 L = false := by
  rw [← List.take_append_drop (k + 1) L, chRis_app, ch_take h, chRis_app]
  simp [chRis, hs]
theorem ris_all {L : List Int} {k : Nat} {m : Int} (hk : L.length = k) (h : chRis m 0 (L.take k) = true) : chRis m 0 L = true := by
  rwa [← hk, List.take_length] at h

/-- May the choice be? -/
def chFine (mode m t : Int) (L : List Int) : Bool := decide (0 ≤ mode) && (decide (mode < 3) && (chNum t m && chRis m 0 L))
/-- The first one's place that is not below t; how many there are, if none is. -/
def chIx (t : Int) (L : List Int) : Nat := L.findIdx fun z => decide (t ≤ z)
def chFair (t : Int) (L : List Int) : Nat := if chIx t L < L.length then chIx t L else 0
/-- The place in Ready of the guard that is taken. -/
def chPl (mode t : Int) (L : List Int) (w : Int) : Nat := if mode = 1 then chFair t L else if mode = 2 then (w % (L.length : Int)).toNat else 0
theorem chPl_lt (mode t : Int) (L : List Int) (w : Int) (h : 0 < L.length) : chPl mode t L w < L.length := by
  unfold chPl chFair
  split
  · split <;> assumption
  · split
    · have := Int.emod_lt_of_pos w (show (0 : Int) < L.length by omega)
      have := Int.emod_nonneg w (show (L.length : Int) ≠ 0 by omega)
      omega
    · exact h
def chV (mode m t : Int) (L : List Int) (w : Int) : Int := if chFine mode m t L = true then L.getD (chPl mode t L w) 0 else 0
def chE (mode m t : Int) (L : List Int) : Int := if chFine mode m t L = true then (if L = [] then 6 else 0) else 1
/-- Whose turn it is next. -/
def chTurn (no m : Int) : Int := if chNum no m = true then (if no = m - 1 then 0 else no + 1) else 0

theorem chIx_of {t : Int} {L : List Int} {k : Nat} {z : Int} (hg : L[k]? = some z) (hz : t ≤ z) (hF : (L.take k).any (fun z => decide (t ≤ z)) = false) : chIx t L = k := by
  obtain ⟨hk, e⟩ := List.getElem?_eq_some_iff.1 hg
  unfold chIx
  refine (List.findIdx_eq hk).2 ⟨by rw [e]; exact decide_eq_true hz, fun j hj => ?_⟩
  have hm : L[j]'(by omega) ∈ L.take k := by
    rw [List.mem_take_iff_getElem]
    exact ⟨j, by omega, rfl⟩
  have := List.any_eq_false.1 hF _ hm
  simpa using this
theorem chIx_none {t : Int} {L : List Int} (hF : L.any (fun z => decide (t ≤ z)) = false) : chIx t L = L.length := by
  unfold chIx
  refine List.findIdx_eq_length.2 fun x hx => ?_
  have := List.any_eq_false.1 hF x hx
  simpa using this
theorem ch_any_next {t : Int} {L : List Int} {k : Nat} {z : Int} (hg : L[k]? = some z) (hF : (L.take k).any (fun z => decide (t ≤ z)) = false) (hz : decide (t ≤ z) = false) : (L.take (k + 1)).any (fun z => decide (t ≤ z)) = false := by
  rw [ch_take hg, List.any_append, hF]
  simp [hz]
/-- slices.IndexFunc's answer. -/
def chAt (t : Int) (L : List Int) : Int := if chIx t L < L.length then (chIx t L : Int) else -1
theorem chAt_of {t : Int} {L : List Int} {k : Nat} {z : Int} (hg : L[k]? = some z) (hz : t ≤ z) (hF : (L.take k).any (fun z => decide (t ≤ z)) = false) : chAt t L = k := by
  have hk := (List.getElem?_eq_some_iff.1 hg).1
  unfold chAt
  rw [chIx_of hg hz hF, if_pos hk]
theorem chAt_none {t : Int} {L : List Int} (hF : L.any (fun z => decide (t ≤ z)) = false) : chAt t L = -1 := by
  unfold chAt
  rw [chIx_none hF, if_neg (by omega)]
theorem chAt_max (t : Int) (L : List Int) : (0 ≤ chAt t L ∧ chAt t L = chFair t L) ∨ (chAt t L = -1 ∧ chFair t L = 0) := by
  unfold chAt chFair
  split
  · exact .inl ⟨by omega, rfl⟩
  · exact .inr ⟨rfl, rfl⟩
/-- The place by Any, as Go's quotients make it. -/
theorem any_place (w : Int) (n : Nat) (h0 : 0 < n) : -(n : Int) < w.tmod n ∧ w.tmod n < n ∧ (w.tmod n + n).tmod n = ((w % (n : Int)).toNat : Int) ∧ (0 ≤ w.tmod n → w.tmod n = ((w % (n : Int)).toNat : Int)) ∧ (w.tmod n < 0 → w.tmod n + n = ((w % (n : Int)).toNat : Int)) := by
  have hp : (0 : Int) < n := by omega
  have a := Int.lt_tmod_of_pos w hp
  have b := Int.tmod_lt_of_pos w hp
  have e0 := Int.emod_nonneg w (show (n : Int) ≠ 0 by omega)
  have e1 := Int.emod_lt_of_pos w hp
  have hq := Int.mul_tdiv_add_tmod w n
  have key : (w.tmod n + n) % (n : Int) = w % (n : Int) := by
    rw [Int.add_emod_right]
    conv => rhs; rw [← hq]
    rw [Int.mul_add_emod_self_left]
  have e2 : (w.tmod n + n).tmod n = (w.tmod n + n) % (n : Int) := Int.tmod_eq_emod_of_nonneg (by omega)
  rw [key] at e2
  refine ⟨a, b, by rw [e2]; omega, fun h => ?_, fun h => ?_⟩
  · have : (w.tmod n) % (n : Int) = w.tmod n := Int.emod_eq_of_lt h b
    rw [Int.add_emod_right, this] at key
    omega
  · have : (w.tmod n + n) % (n : Int) = w.tmod n + n := Int.emod_eq_of_lt (by omega) (by omega)
    rw [this] at key
    omega
end Go.Proofs.Ytlnnmigoonbbjaa
