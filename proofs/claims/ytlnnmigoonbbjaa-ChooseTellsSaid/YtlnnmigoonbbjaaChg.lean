/- The law's lists of guards as plain data; what is chosen among them. -/
import Derived.Test.YtlnnmigoonbbjaaCha
namespace Go.Proofs.Ytlnnmigoonbbjaa

theorem chRis_ge (m : Int) : ∀ (L : List Int) (l : Int), chRis m l L = true → ∀ z ∈ L, l ≤ z ∧ chNum z m = true
  | [], _, _, _, h => by cases h
  | a :: L, l, h, z, hz => by
    rw [chRis, Bool.and_eq_true] at h
    have hs := h.1
    unfold chStep at hs
    rw [Bool.and_eq_true, decide_eq_true_eq] at hs
    rcases List.mem_cons.1 hz with rfl | hz
    · exact hs
    · have := chRis_ge m L (a + 1) h.2 z hz
      exact ⟨by omega, this.2⟩
theorem chRis_up (m : Int) : ∀ (L : List Int) (l : Int), chRis m l L = true → L.Pairwise (· < ·)
  | [], _, _ => List.Pairwise.nil
  | a :: L, l, h => by
    rw [chRis, Bool.and_eq_true] at h
    refine List.Pairwise.cons (fun z hz => ?_) (chRis_up m L (a + 1) h.2)
    have := (chRis_ge m L (a + 1) h.2 z hz).1
    omega
theorem up_get {L : List Int} (h : L.Pairwise (· < ·)) {i j : Nat} (hi : i < L.length) (hj : j < L.length) (hij : i < j) : L[i] < L[j] := List.pairwise_iff_getElem.1 h i j hi hj hij

/-- The guard that is taken by Fair. -/
theorem fair_is {m t v : Int} {L : List Int} (hF : chFine 1 m t L = true) (h0 : 0 < L.length) :
    chV 1 m t L v ∈ L ∧ ((t ≤ chV 1 m t L v ∧ ∀ z ∈ L, t ≤ z → chV 1 m t L v ≤ z) ∨ ((∀ z ∈ L, z < t) ∧ ∀ z ∈ L, chV 1 m t L v ≤ z)) := by
  have hR : chRis m 0 L = true := by
    unfold chFine at hF
    rw [Bool.and_eq_true, Bool.and_eq_true, Bool.and_eq_true] at hF
    exact hF.2.2.2
  have hU := chRis_up m L 0 hR
  have hv : chV 1 m t L v = L.getD (chFair t L) 0 := by unfold chV; rw [if_pos hF]; rfl
  rw [hv]
  by_cases hk : chIx t L < L.length
  · have e : chFair t L = chIx t L := if_pos hk
    rw [e, List.getD_eq_getElem?_getD, List.getElem?_eq_getElem hk, Option.getD_some]
    have hx : t ≤ L[chIx t L] ∧ ∀ j (hj : j < chIx t L), decide (t ≤ L[j]'(by omega)) = false := by
      have := (List.findIdx_eq hk).1 (show L.findIdx (fun z => decide (t ≤ z)) = chIx t L from rfl)
      exact ⟨by simpa using this.1, this.2⟩
    refine ⟨List.getElem_mem hk, .inl ⟨hx.1, fun z hz htz => ?_⟩⟩
    obtain ⟨j, hj, rfl⟩ := List.getElem_of_mem hz
    rcases Nat.lt_trichotomy j (chIx t L) with h | h | h
    · have := hx.2 j h
      simp at this
      omega
    · have : ∀ i (hi : i < L.length), i = chIx t L → L[chIx t L] = L[i] := by rintro i hi rfl; rfl
      rw [this j hj h]
      exact Int.le_refl _
    · have := up_get hU hk hj h
      omega
  · have e : chFair t L = 0 := if_neg hk
    rw [e, List.getD_eq_getElem?_getD, List.getElem?_eq_getElem h0, Option.getD_some]
    have hx : ∀ z ∈ L, z < t := by
      have hle : chIx t L = L.length := by
        have : chIx t L ≤ L.length := List.findIdx_le_length
        omega
      have := List.findIdx_eq_length.1 hle
      intro z hz
      have := this z hz
      simp at this
      omega
    refine ⟨List.getElem_mem h0, .inr ⟨hx, fun z hz => ?_⟩⟩
    obtain ⟨j, hj, rfl⟩ := List.getElem_of_mem hz
    rcases Nat.eq_zero_or_pos j with h | h
    · have : ∀ i (hi : i < L.length), i = 0 → L[0] = L[i] := by rintro i hi rfl; rfl
      rw [this j hj h]
      exact Int.le_refl _
    · have := up_get hU h0 hj h
      omega
/-- How far it is from t round to g. -/
def chWay (t g n : Int) : Int := if t ≤ g then g - t else g - t + n
theorem way_bd {t g n : Int} (t0 : 0 ≤ t) (t1 : t < n) (g0 : 0 ≤ g) (g1 : g < n) : 0 ≤ chWay t g n ∧ chWay t g n < n := by
  unfold chWay
  split <;> omega
theorem turn_in {a n : Int} (a0 : 0 ≤ a) (a1 : a < n) (n1 : n ≤ 6) : chTurn a n = (if a = n - 1 then 0 else a + 1) := by
  unfold chTurn
  rw [if_pos ((chNum_iff a n).2 ⟨a0, a1, n1⟩)]
/-- With each choice that does not take g the way to it is shorter. -/
theorem way_less {t g n a : Int} {L : List Int} (hg : g ∈ L) (t1 : t < n) (g0 : 0 ≤ g) (g1 : g < n) (a0 : 0 ≤ a) (a1 : a < n) (n1 : n ≤ 6) (hne : a ≠ g)
    (h : (t ≤ a ∧ ∀ z ∈ L, t ≤ z → a ≤ z) ∨ ((∀ z ∈ L, z < t) ∧ ∀ z ∈ L, a ≤ z)) : chWay (chTurn a n) g n + 1 ≤ chWay t g n := by
  rw [turn_in a0 a1 n1]
  unfold chWay
  rcases h with ⟨h1, h2⟩ | ⟨h1, h2⟩
  · have := h2 g hg
    by_cases hn : a = n - 1
    · rw [if_pos hn]
      split <;> split <;> omega
    · rw [if_neg hn]
      split <;> split <;> omega
  · have := h1 g hg
    have := h2 g hg
    by_cases hn : a = n - 1
    · rw [if_pos hn]
      split <;> split <;> omega
    · rw [if_neg hn]
      split <;> split <;> omega
theorem turn_bd {a n : Int} (a0 : 0 ≤ a) (a1 : a < n) (n1 : n ≤ 6) : 0 ≤ chTurn a n ∧ chTurn a n < n := by
  rw [turn_in a0 a1 n1]
  split <;> omega

/-- The bit of a byte at a place. -/
def chBit (b : Int) (k : Nat) : Bool := bits BinOp.and IntKind.u8 (b / 2 ^ k) 1 == 1
/-- The guards that a byte's bits tell, below a number, and one more. -/
def chSome (b g : Int) : Nat → List Int
  | 0 => []
  | k + 1 => if (chBit b k || ((k : Int) == g)) = true then chSome b g k ++ [(k : Int)] else chSome b g k
theorem some_yes {b g : Int} {k : Nat} (h : (chBit b k || ((k : Int) == g)) = true) : chSome b g (k + 1) = chSome b g k ++ [(k : Int)] := if_pos h
theorem some_no {b g : Int} {k : Nat} (h : (chBit b k || ((k : Int) == g)) = false) : chSome b g (k + 1) = chSome b g k := by
  rw [chSome, h]
  rfl
theorem some_len (b g : Int) : ∀ k, (chSome b g k).length ≤ k
  | 0 => Nat.le_refl _
  | k + 1 => by
    have := some_len b g k
    cases h : (chBit b k || ((k : Int) == g))
    · rw [some_no h]; omega
    · rw [some_yes h]; simp; omega
theorem some_ris (b g m : Int) (hm : m ≤ 6) : ∀ (k : Nat), (k : Int) ≤ m → chRis m 0 (chSome b g k) = true ∧ chNxt 0 (chSome b g k) ≤ k
  | 0, _ => ⟨rfl, Int.le_refl _⟩
  | k + 1, hk => by
    have ih := some_ris b g m hm k (by omega)
    cases h : (chBit b k || ((k : Int) == g))
    · rw [some_no h]
      exact ⟨ih.1, by have := ih.2; omega⟩
    · rw [some_yes h, chRis_app, chNxt_snoc, ih.1]
      refine ⟨?_, by omega⟩
      rw [Bool.true_and, chRis, chRis, Bool.and_true]
      exact chStep_ok ih.2 ((chNum_iff _ _).2 (by omega))
theorem some_mem (b g : Int) (g0 : 0 ≤ g) : ∀ (k : Nat), g < k → g ∈ chSome b g k
  | 0, h => absurd h (by omega)
  | k + 1, h => by
    by_cases e : (k : Int) = g
    · rw [some_yes (by rw [e]; simp)]
      simp [e]
    · have ih := some_mem b g g0 k (by omega)
      cases q : (chBit b k || ((k : Int) == g))
      · rw [some_no q]; exact ih
      · rw [some_yes q]; exact List.mem_append_left _ ih
theorem some_fine {b g m t d : Int} {n : Nat} (hn : (n : Int) = m) (hm : m ≤ 6) (t0 : 0 ≤ t) (t1 : t < m) (d0 : 0 ≤ d) (d1 : d < 3) : chFine d m t (chSome b g n) = true := by
  unfold chFine
  rw [(chNum_iff t m).2 ⟨t0, t1, hm⟩, (some_ris b g m hm n (by omega)).1, decide_eq_true d0, decide_eq_true d1]
  rfl
theorem fine_e {d m t : Int} {L : List Int} (hF : chFine d m t L = true) (h : 0 < L.length) : chE d m t L = 0 := by
  unfold chE
  rw [if_pos hF, if_neg (fun e => by rw [e] at h; simp at h)]
/-- What each of the ways takes. -/
theorem pri_v {m t v : Int} {L : List Int} (hF : chFine 0 m t L = true) (h : 0 < L.length) : L[0]? = some (chV 0 m t L v) := by
  have hv : chV 0 m t L v = L.getD 0 0 := by unfold chV; rw [if_pos hF]; rfl
  rw [hv, List.getD_eq_getElem?_getD, List.getElem?_eq_getElem h]
  rfl
theorem any_v {m t v : Int} {L : List Int} (hF : chFine 2 m t L = true) (h : 0 < L.length) : chV 2 m t L v ∈ L := by
  have hv : chV 2 m t L v = L.getD (chPl 2 t L v) 0 := by unfold chV; rw [if_pos hF]
  have hk := chPl_lt 2 t L v h
  rw [hv, List.getD_eq_getElem?_getD, List.getElem?_eq_getElem hk]
  exact List.getElem_mem hk
theorem any_at {m t z : Int} {L : List Int} {k : Nat} (hF : chFine 2 m t L = true) (hz : L[k]? = some z) : chV 2 m t L (k : Int) = z := by
  have hk := (List.getElem?_eq_some_iff.1 hz).1
  have hv : chV 2 m t L (k : Int) = L.getD (chPl 2 t L k) 0 := by unfold chV; rw [if_pos hF]
  have hp : chPl 2 t L (k : Int) = k := by
    show ((k : Int) % (L.length : Int)).toNat = k
    rw [Int.emod_eq_of_lt (by omega) (by omega)]
    omega
  rw [hv, hp, List.getD_eq_getElem?_getD, hz]
  rfl
end Go.Proofs.Ytlnnmigoonbbjaa
