/- Timers in order, and a heap that has the same ones: plain maths. -/
import Derived.Test.YtbfmcdjnjnfdlaaTa
namespace Go.Proofs.Ytbfmcdjnjnfdlaa

def SortT (L : List Tm) : Prop := L.Pairwise ltT
/-- How many of those ahead are due no later than a: where the document puts a new one. -/
def ixI (a : Int) : List Tm → Nat
  | [] => 0
  | x :: l => if x.at_ ≤ a then ixI a l + 1 else 0
theorem ixI_le (a : Int) : ∀ l, ixI a l ≤ l.length
  | [] => Nat.le_refl _
  | x :: l => by unfold ixI; split; exact Nat.succ_le_succ (ixI_le a l); exact Nat.zero_le _
theorem ixI_lt {a : Int} : ∀ {l : List Tm} {k : Nat} {t : Tm}, k < ixI a l → l[k]? = some t → t.at_ ≤ a
  | x :: l, 0, t, h, e => by
    obtain rfl : x = t := by simpa using e
    unfold ixI at h
    split at h
    · assumption
    · omega
  | x :: l, k + 1, t, h, e => by
    unfold ixI at h
    split at h
    · exact ixI_lt (l := l) (k := k) (by omega) (by simpa using e)
    · omega
theorem ixI_at {a : Int} : ∀ {l : List Tm} {t : Tm}, l[ixI a l]? = some t → a < t.at_
  | x :: l, t, e => by
    unfold ixI at e
    split at e
    · exact ixI_at (l := l) (by simpa using e)
    · obtain rfl : x = t := by simpa using e
      omega
def insT (L : List Tm) (t : Tm) : List Tm := L.take (ixI t.at_ L) ++ t :: L.drop (ixI t.at_ L)
theorem insT_len (L : List Tm) (t : Tm) : (insT L t).length = L.length + 1 := by
  have := ixI_le t.at_ L
  simp [insT]
  omega
theorem insT_perm (L : List Tm) (t : Tm) : (insT L t).Perm (t :: L) := by
  unfold insT
  have h := List.perm_middle (a := t) (l₁ := L.take (ixI t.at_ L)) (l₂ := L.drop (ixI t.at_ L))
  rwa [List.take_append_drop] at h
theorem insT_sort {L : List Tm} {t : Tm} (h : SortT L) (hn : ∀ x ∈ L, x.no < t.no) : SortT (insT L t) := by
  unfold SortT insT at *
  have hd : ∀ b ∈ L.drop (ixI t.at_ L), t.at_ < b.at_ := by
    rcases hdr : L.drop (ixI t.at_ L) with _ | ⟨y, r⟩
    · intro b hb; cases hb
    · have hy : L[ixI t.at_ L]? = some y := by
        have := congrArg (·[0]?) hdr
        simpa [List.getElem?_drop] using this
      have h1 := ixI_at hy
      have hs := h.sublist (List.drop_sublist (ixI t.at_ L) L)
      rw [hdr] at hs
      intro b hb
      rcases List.mem_cons.1 hb with rfl | hb
      · exact h1
      · have := (List.pairwise_cons.1 hs).1 b hb
        unfold ltT at this
        omega
  rw [List.pairwise_append]
  refine ⟨h.sublist (List.take_sublist _ _), List.pairwise_cons.2 ⟨fun b hb => .inl (hd b hb), h.sublist (List.drop_sublist _ _)⟩, fun x hx y hy => ?_⟩
  have hxa : x.at_ ≤ t.at_ := by
    obtain ⟨k, hk, e⟩ := List.getElem_of_mem hx
    rw [List.length_take] at hk
    exact ixI_lt (l := L) (k := k) (by omega) (by rw [List.getElem_take] at e; rw [List.getElem?_eq_getElem (by omega), e])
  rcases List.mem_cons.1 hy with rfl | hy
  · have := hn x (List.mem_of_mem_take hx)
    unfold ltT
    omega
  · have := hd y hy
    unfold ltT
    omega

/-- No two have one number. -/
def UniqT (L : List Tm) : Prop := ∀ a ∈ L, ∀ b ∈ L, a.no = b.no → a = b

/-- The document's list L, and the program's heap xs, whose last number is n. -/
structure TS (L xs : List Tm) (n : Nat) : Prop where
  perm : xs.Perm L
  heap : Heap xs.length xs
  sort : SortT L
  nos : ∀ t ∈ L, t.no ≤ n
  uniq : UniqT L
theorem TS.len {L xs : List Tm} {n : Nat} (h : TS L xs n) : xs.length = L.length := h.perm.length_eq
theorem sort_nodup : ∀ {L : List Tm}, SortT L → L.Nodup := fun h => h.imp fun {a b} hl => by
  rintro rfl
  unfold ltT at hl
  omega
/-- The first of a heap is the first of those in order. -/
theorem root_head {xs L : List Tm} {t : Tm} (hp : xs.Perm (t :: L)) (hh : Heap xs.length xs) (hs : SortT (t :: L)) : gt xs 0 = t := by
  have hl : 0 < xs.length := by rw [hp.length_eq]; simp
  have hm : gt xs 0 ∈ xs := by rw [gt_of (List.getElem?_eq_getElem hl)]; exact List.getElem_mem hl
  rcases List.mem_cons.1 (hp.mem_iff.1 hm) with h | h
  · exact h
  · have h1 := (List.pairwise_cons.1 hs).1 _ h
    obtain ⟨k, hk, e⟩ := List.getElem_of_mem (hp.mem_iff.2 (List.mem_cons_self (a := t) (l := L)))
    have h2 := hh.root k hk
    rw [gt_of ((List.getElem?_eq_getElem hk).trans (congrArg some e))] at h2
    exact absurd h1 h2
theorem TS.first {L xs : List Tm} {t : Tm} {n : Nat} (h : TS (t :: L) xs n) : gt xs 0 = t := root_head h.perm h.heap h.sort
theorem TS.add {L xs ys : List Tm} {n : Nat} {t : Tm} (h : TS L xs n) (ht : t.no = n + 1) (hp : ys.Perm (xs ++ [t])) (hh : Heap ys.length ys) : TS (insT L t) ys (n + 1) where
  perm := hp.trans (((List.perm_append_singleton t xs).trans (h.perm.cons t)).trans (insT_perm L t).symm)
  heap := hh
  sort := insT_sort h.sort fun x hx => by have := h.nos x hx; omega
  nos := fun x hx => by
    rcases List.mem_cons.1 ((insT_perm L t).mem_iff.1 hx) with rfl | hx
    · omega
    · have := h.nos x hx
      omega
  uniq := fun a ha b hb e => by
    rcases List.mem_cons.1 ((insT_perm L t).mem_iff.1 ha) with ha' | ha' <;> rcases List.mem_cons.1 ((insT_perm L t).mem_iff.1 hb) with hb' | hb'
    · rw [ha', hb']
    · have := h.nos b hb'; rw [ha'] at e; omega
    · have := h.nos a ha'; rw [hb'] at e; omega
    · exact h.uniq a ha' b hb' e
theorem erase_perm : ∀ {L : List Tm} {i : Nat} {t : Tm}, L[i]? = some t → (t :: L.eraseIdx i).Perm L
  | x :: l, 0, t, h => by
    obtain rfl : x = t := by simpa using h
    exact List.Perm.refl _
  | x :: l, i + 1, t, h => by
    rw [List.eraseIdx_cons_succ]
    exact (List.Perm.swap x t _).trans ((erase_perm (L := l) (i := i) (by simpa using h)).cons x)
theorem TS.drop {L xs ys : List Tm} {n i j : Nat} {t : Tm} (h : TS L xs n) (hi : L[i]? = some t) (hj : xs[j]? = some t) (hp : (gt xs j :: ys).Perm xs) (hh : Heap ys.length ys) : TS (L.eraseIdx i) ys n where
  perm := by
    have h1 := erase_perm hi
    rw [gt_of hj] at hp
    exact (hp.trans (h.perm.trans h1.symm)).cons_inv
  heap := hh
  sort := h.sort.sublist (List.eraseIdx_sublist L i)
  nos := fun x hx => h.nos x ((List.eraseIdx_sublist L i).mem hx)
  uniq := fun a ha b hb e => h.uniq a ((List.eraseIdx_sublist L i).mem ha) b ((List.eraseIdx_sublist L i).mem hb) e
/-- Where the first of that number is. -/
def noIx (no : Int) (L : List Tm) : Option Nat := L.findIdx? fun t => t.no == no
theorem nil_ts : TS [] [] 0 := ⟨List.Perm.refl _, heap_nil, List.Pairwise.nil, fun _ h => (by cases h), fun _ h => by cases h⟩
end Go.Proofs.Ytbfmcdjnjnfdlaa
