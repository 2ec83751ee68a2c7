/- Plain maths of the law ClaimsServe: a line, and when each came. -/
import Derived.Test.YtoimcbdajmghkaaLa
namespace Go.Proofs.Ytoimcbdajmghkaa

def getC (C : List Int) (p : Nat) : Int := C.getD p 0
theorem getC_set (C : List Int) (p q : Nat) (v : Int) (hp : p < C.length) : getC (C.set p v) q = if q = p then v else getC C q := by
  unfold getC
  rw [List.getD_eq_getElem?_getD, List.getD_eq_getElem?_getD, List.getElem?_set]
  by_cases h : p = q
  · subst h
    simp [hp]
  · rw [if_neg h, if_neg (fun e => h e.symm)]
theorem leave_filter (L : List Int) (hd : L.Nodup) (p : Int) : L.take (ixN L p) ++ L.drop (ixN L p + 1) = L.filter (· ≠ p) := by
  induction L with
  | nil => rfl
  | cons x L ih =>
    rw [List.nodup_cons] at hd
    by_cases hx : x = p
    · subst hx
      have e : L.filter (· ≠ x) = L := List.filter_eq_self.2 fun z hz => by
        have : z ≠ x := fun e => hd.1 (e ▸ hz)
        simpa using this
      rw [List.filter_cons_of_neg (by simp), e]
      simp [ixN]
    · have e : ixN (x :: L) p = ixN L p + 1 := by rw [ixN, if_neg hx]
      rw [e, List.filter_cons_of_pos (by simpa using hx), ← ih hd.2]
      rfl
/-- Who waits, and when each of the sixteen came; at most k have come by now. -/
structure SV (L C : List Int) (k : Int) : Prop where
  good : lnGood L = true
  len : C.length = 16
  on : ∀ p : Nat, p < 16 → (0 < getC C p ↔ (p : Int) ∈ L)
  nn : ∀ p : Nat, 0 ≤ getC C p ∧ getC C p ≤ k
  rise : L.Pairwise (fun a b => getC C a.toNat < getC C b.toNat)
theorem SV.start : SV [] (List.replicate 16 0) 0 where
  good := rfl
  len := rfl
  on := by
    intro p hp
    have : getC (List.replicate 16 0) p = 0 := by
      unfold getC
      rw [List.getD_eq_getElem?_getD, List.getElem?_replicate]
      split <;> rfl
    rw [this]
    simp
  nn := by
    intro p
    have : getC (List.replicate 16 0) p = 0 := by
      unfold getC
      rw [List.getD_eq_getElem?_getD, List.getElem?_replicate]
      split <;> rfl
    rw [this]
    omega
  rise := List.Pairwise.nil
theorem SV.mono {L C : List Int} {k k' : Int} (h : SV L C k) (hk : k ≤ k') : SV L C k' := ⟨h.good, h.len, h.on, fun p => by have := h.nn p; omega, h.rise⟩
theorem SV.fine {L C : List Int} {k : Int} (h : SV L C k) : lnFine true L = true := by unfold lnFine; rw [h.good]; rfl
theorem SV.few {L C : List Int} {k : Int} (h : SV L C k) : L.length ≤ 16 := lnFine_few h.fine
theorem SV.there {L C : List Int} {k : Int} (h : SV L C k) (p : Nat) (hp : p < 16) : lnThere true L p = decide (0 < getC C p) := by
  unfold lnThere
  rw [h.fine, Bool.true_and]
  exact decide_eq_decide.2 (h.on p hp).symm
theorem SV.leave {L C : List Int} {k k' : Int} (h : SV L C k) (p : Nat) (hp : p < 16) (hk : k ≤ k') : SV (lnLeaveL true L p) (C.set p 0) k' := by
  have hg := (lnGood_iff L).1 h.good
  have hL : lnLeaveL true L p = L.filter (· ≠ (p : Int)) := by
    unfold lnLeaveL
    by_cases ht : lnThere true L p = true
    · rw [if_pos ht, leave_filter L hg.2]
    · rw [if_neg ht]
      have hno : (p : Int) ∉ L := by
        intro hm
        apply ht
        unfold lnThere
        rw [h.fine]
        simp [hm]
      exact (List.filter_eq_self.2 fun z hz => by
        have : z ≠ (p : Int) := fun e => hno (e ▸ hz)
        simpa using this).symm
  have hs := fun q => getC_set C p q 0 (by rw [h.len]; exact hp)
  rw [hL]
  refine ⟨?_, by rw [List.length_set]; exact h.len, ?_, ?_, ?_⟩
  · rw [lnGood_iff]
    exact ⟨fun z hz => hg.1 z (List.mem_filter.1 hz).1, List.Pairwise.filter _ hg.2⟩
  · intro q hq
    rw [hs q, List.mem_filter]
    by_cases e : q = p
    · subst e
      simp
    · rw [if_neg e, h.on q hq]
      have : (q : Int) ≠ p := by omega
      simp [this]
  · intro q
    rw [hs q]
    have := h.nn q
    split <;> omega
  · refine (List.Pairwise.filter _ h.rise).imp_of_mem ?_
    intro a b ha hb hab
    have ha' := List.mem_filter.1 ha
    have hb' := List.mem_filter.1 hb
    have h1 := hg.1 a ha'.1
    have h2 := hg.1 b hb'.1
    have n1 : a ≠ p := by simpa using ha'.2
    have n2 : b ≠ p := by simpa using hb'.2
    rw [hs, hs, if_neg (by omega), if_neg (by omega)]
    exact hab
theorem SV.joinE {L C : List Int} {k : Int} (h : SV L C k) (p : Nat) (hp : p < 16) : lnJoinE true L p = if 0 < getC C p then 7 else 0 := by
  unfold lnJoinE
  have h1 : lnP (p : Int) = true := (lnP_iff _).2 (by omega)
  rw [h.fine, h1]
  by_cases hm : (p : Int) ∈ L
  · rw [if_pos ((h.on p hp).2 hm)]
    simp [hm]
  · rw [if_neg (fun e => hm ((h.on p hp).1 e))]
    simp [hm]
theorem SV.join {L C : List Int} {k k' : Int} (h : SV L C k) (p : Nat) (hp : p < 16) (hk0 : 0 ≤ k) (hk : k < k') (hno : getC C p = 0) : lnJoinL true L p = L ++ [(p : Int)] ∧ SV (L ++ [(p : Int)]) (C.set p k') k' := by
  have hm : (p : Int) ∉ L := fun e => by have := (h.on p hp).2 e; omega
  have hg := (lnGood_iff L).1 h.good
  have hs := fun q => getC_set C p q k' (by rw [h.len]; exact hp)
  refine ⟨?_, ?_, by rw [List.length_set]; exact h.len, ?_, ?_, ?_⟩
  · unfold lnJoinL
    rw [h.joinE p hp, hno]
    rfl
  · rw [lnGood_snoc, h.good, (lnP_iff (p : Int)).2 (by omega)]
    simp [hm]
  · intro q hq
    rw [hs q, List.mem_append, List.mem_singleton]
    by_cases e : q = p
    · subst e
      simp
      omega
    · have e' : ¬ (q : Int) = p := by omega
      simp only [if_neg e, h.on q hq, e', or_false]
  · intro q
    rw [hs q]
    have := h.nn q
    split <;> omega
  · rw [List.pairwise_append]
    refine ⟨?_, List.pairwise_singleton _ _, ?_⟩
    · refine h.rise.imp_of_mem ?_
      intro a b ha hb hab
      have h1 := hg.1 a ha
      have h2 := hg.1 b hb
      have n1 : a ≠ p := fun e => hm (e ▸ ha)
      have n2 : b ≠ p := fun e => hm (e ▸ hb)
      rw [hs, hs, if_neg (by omega), if_neg (by omega)]
      exact hab
    · intro a ha b hb
      obtain rfl : b = p := by simpa using hb
      have h1 := hg.1 a ha
      have n1 : a ≠ p := fun e => hm (e ▸ ha)
      have := (h.nn a.toNat).2
      rw [hs, hs, if_neg (by omega), if_pos (by omega)]
      omega
/-- Behind all steps: those that wait came behind 'last'. -/
structure SD (L C : List Int) (last : Int) : Prop where
  sv : ∃ k, SV L C k
  late : ∀ z ∈ L, last < getC C z.toNat
theorem SV.done {L C : List Int} {k : Int} (h : SV L C k) : SD L C 0 := ⟨⟨k, h⟩, fun z hz => by
  have hg := ((lnGood_iff L).1 h.good).1 z hz
  have := (h.on z.toNat (by omega)).2 (by rw [Int.toNat_of_nonneg hg.1]; exact hz)
  exact this⟩
theorem SD.some {L C : List Int} {last : Int} (h : SD L C last) : lnSome true L = decide (0 < L.length) := by
  obtain ⟨k, hk⟩ := h.sv
  unfold lnSome
  rw [hk.fine, Bool.true_and]
theorem SD.head {x : Int} {L C : List Int} {last : Int} (h : SD (x :: L) C last) : lnHead true (x :: L) = x ∧ 0 ≤ x ∧ x < 16 ∧ last < getC C x.toNat := by
  obtain ⟨k, hk⟩ := h.sv
  have hg := ((lnGood_iff _).1 hk.good).1 x (by simp)
  refine ⟨?_, hg.1, hg.2, h.late x (by simp)⟩
  unfold lnHead
  rw [h.some]
  rfl
theorem SD.next {p : Nat} {L C : List Int} {last : Int} (h : SD ((p : Int) :: L) C last) : lnLeaveL true ((p : Int) :: L) p = L ∧ SD L (C.set p 0) (getC C p) := by
  obtain ⟨k, hk⟩ := h.sv
  have hg := (lnGood_iff _).1 hk.good
  have hp : p < 16 := by have := hg.1 p (by simp); omega
  have hnd := List.nodup_cons.1 hg.2
  have e : lnLeaveL true ((p : Int) :: L) p = L := by
    unfold lnLeaveL
    have ht : lnThere true ((p : Int) :: L) p = true := by
      unfold lnThere
      rw [hk.fine]
      simp
    rw [if_pos ht]
    simp [ixN]
  refine ⟨e, ⟨k, ?_⟩, ?_⟩
  · have := hk.leave p hp (Int.le_refl k)
    rwa [e] at this
  · intro z hz
    have h1 := hg.1 z (by simp [hz])
    have hne : z ≠ p := fun e => hnd.1 (e ▸ hz)
    rw [getC_set C p _ 0 (by rw [hk.len]; exact hp), if_neg (by omega)]
    have := (List.pairwise_cons.1 hk.rise).1 z hz
    simpa using this
theorem SD.none {C : List Int} {last : Int} (h : SD [] C last) : C = List.replicate 16 0 := by
  obtain ⟨k, hk⟩ := h.sv
  apply List.ext_getElem
  · rw [hk.len]; rfl
  · intro i h1 h2
    have hi : i < 16 := by rw [← hk.len]; exact h1
    have h3 := (hk.on i hi)
    have h4 := (hk.nn i).1
    have h5 : ¬ 0 < getC C i := fun e => by have := h3.1 e; simp at this
    have h6 : getC C i = C[i] := by unfold getC; rw [List.getD_eq_getElem?_getD, List.getElem?_eq_getElem h1]; rfl
    rw [List.getElem_replicate, ← h6]
    omega
end Go.Proofs.Ytoimcbdajmghkaa
