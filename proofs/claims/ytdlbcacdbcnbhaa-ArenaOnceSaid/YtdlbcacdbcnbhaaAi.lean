/- What holds of the handles that were given, and of the table's slots: plain maths. -/
import Derived.Test.YtdlbcacdbcnbhaaAw
import Derived.Test.YtdlbcacdbcnbhaaNb
import Derived.IntWalk
import Derived.Laws.Bits64
namespace Go.Proofs.Ytdlbcacdbcnbhaa
open Go.RowKit

def Look (τ : List Slot) (p : Step) : Prop :=
  ∃ (k : Nat) (g : Int) (o : Option (Nat × Int)), slotF p.2.1 = k ∧ τ[k]? = some (g, o) ∧ genF p.2.1 ≤ g ∧ ((p.1 = 1 ∧ g = genF p.2.1 ∧ ∃ b, o = some (b, p.2.2)) ∨ (p.1 = 0 ∧ (o = none ∨ g ≠ genF p.2.1)))
structure Inv (τ : List Slot) (G : List Step) : Prop where
  look : ∀ p ∈ G, Look τ p
  nodup : (G.map (·.2.1)).Nodup
  cnt : (lenT τ : Int) = (G.map (·.1)).sum

theorem slot_fine (h : Int) (k : Nat) (e : slotF h = k) : fineB h = true := by
  cases hf : fineB h
  · rw [slotF_no h hf] at e; omega
  · rfl
theorem handle_eq (h : Int) (k : Nat) (e : slotF h = k) : h = 4096 * genF h + k := by
  have hf := slot_fine h k e
  rw [slotF_of h hf] at e
  rw [genF_of h hf]
  omega
theorem handle_i64 (h : Int) (k : Nat) (e : slotF h = k) : I64 h := by
  have hf := (fine_iff h).1 (slot_fine h k e)
  unfold I64
  omega
theorem made_parts (k : Nat) (g : Int) (hk : (k : Int) ≤ 4095) (h0 : 1 ≤ g) (h1 : g ≤ 65535) : slotF (4096 * g + k) = k ∧ genF (4096 * g + k) = g := by
  have hf : fineB (4096 * g + k) = true := fine_of _ (by omega) (by omega)
  rw [slotF_of _ hf, genF_of _ hf]
  constructor <;> omega

theorem lenT_add (τ : List Slot) (k : Nat) (g g' : Int) (b : Nat) (y : Int) (hk : τ[k]? = some (g, none)) : lenT (τ.set k (g', some (b, y))) = lenT τ + 1 := by
  have hlt := (List.getElem?_eq_some_iff.1 hk).1
  rw [← thingsF_len _ 0, ← thingsF_len τ 0, things_set τ k hlt, things_split τ k g none hk]
  simp [oneT]
  omega
theorem sum_set (G : List Int) (i : Nat) (a b : Int) (h : G[i]? = some a) : (G.set i b).sum = G.sum - a + b := by
  induction G generalizing i with
  | nil => simp at h
  | cons x G ih =>
    cases i with
    | zero =>
      have : x = a := by simpa using h
      subst this
      simp
      omega
    | succ i =>
      have := ih i (by simpa using h)
      simp [this]
      omega

theorem pick_ix (h : Int) (n : Nat) (h0 : 0 < n) (h1 : n ≤ 100000) : ∃ k : Nat, wrap64 ((IntKind.u64.wrap h).tmod (n : Int)) = k ∧ k < n := by
  have hm : 0 ≤ IntKind.u64.wrap h := by rw [IntKind.wrap_u64]; omega
  generalize IntKind.u64.wrap h = m at hm
  rw [Int.tmod_eq_emod_of_nonneg hm]
  have a := Int.emod_nonneg m (show (n : Int) ≠ 0 by omega)
  have b := Int.emod_lt_of_pos m (show (0 : Int) < n by omega)
  generalize m % (n : Int) = z at a b
  refine ⟨z.toNat, ?_, by omega⟩
  rw [← IntWalk.i64_left, IntWalk.i64_in _ (by omega)]
  omega
theorem nodup_get : ∀ (l : List Int), l.Nodup → ∀ (i j : Nat) (x : Int), l[i]? = some x → l[j]? = some x → i = j
  | [], _, i, _, _, h, _ => by simp at h
  | a :: l, hn, 0, 0, _, _, _ => rfl
  | a :: l, hn, 0, j + 1, x, h1, h2 => by
    obtain rfl : a = x := by simpa using h1
    exact absurd (List.mem_of_getElem? (by simpa using h2)) (List.nodup_cons.1 hn).1
  | a :: l, hn, i + 1, 0, x, h1, h2 => by
    obtain rfl : a = x := by simpa using h2
    exact absurd (List.mem_of_getElem? (by simpa using h1)) (List.nodup_cons.1 hn).1
  | a :: l, hn, i + 1, j + 1, x, h1, h2 => by
    rw [nodup_get l (List.nodup_cons.1 hn).2 i j x (by simpa using h1) (by simpa using h2)]
theorem Inv.nil (n : Nat) : Inv (List.replicate n (0, none)) [] := ⟨by simp, by simp, by rw [lenT_rep]; rfl⟩
theorem Inv.drop {τ : List Slot} {G : List Step} (I : Inv τ G) (i k : Nat) (h x : Int) (b : Nat) (hi : G[i]? = some (1, h, x)) (hk : slotF h = k) (hs : τ[k]? = some (genF h, some (b, x))) : Inv (τ.set k (genF h, none)) (G.set i (0, h, x)) := by
  have hil := (List.getElem?_eq_some_iff.1 hi).1
  have hkl := (List.getElem?_eq_some_iff.1 hs).1
  refine ⟨?_, ?_, ?_⟩
  · intro p hp
    obtain ⟨j, hj⟩ := List.getElem?_of_mem hp
    by_cases hji : i = j
    · subst hji
      rw [List.getElem?_set_self (by omega)] at hj
      cases hj
      exact ⟨k, genF h, none, hk, by simp [hkl], Int.le_refl _, .inr ⟨rfl, .inl rfl⟩⟩
    · rw [List.getElem?_set_ne hji] at hj
      obtain ⟨k', g', o', e1, e2, e3, e4⟩ := I.look p (List.mem_of_getElem? hj)
      by_cases hkk : k = k'
      · subst hkk
        rw [hs] at e2
        cases e2
        rcases e4 with ⟨a1, a2, b', a3⟩ | ⟨a1, a2⟩
        · exfalso
          have hh : p.2.1 = h := by rw [handle_eq _ _ e1, handle_eq _ _ hk, a2]
          have hjl := (List.getElem?_eq_some_iff.1 hj).1
          have h1 : (G.map (·.2.1))[i]? = some h := by simp [hi]
          have h2 : (G.map (·.2.1))[j]? = some h := by simp [hj, hh]
          exact hji (nodup_get _ I.nodup i j h h1 h2)
        · refine ⟨k, genF h, none, e1, by simp [hkl], e3, .inr ⟨a1, .inl rfl⟩⟩
      · exact ⟨k', g', o', e1, by rw [List.getElem?_set_ne hkk]; exact e2, e3, e4⟩
  · have : (G.set i (0, h, x)).map (·.2.1) = G.map (·.2.1) := by
      rw [List.map_set]
      apply List.ext_getElem?
      intro j
      by_cases hji : i = j
      · subst hji
        rw [List.getElem?_set_self (by simpa using hil)]
        simp [hi]
      · rw [List.getElem?_set_ne hji]
    rw [this]
    exact I.nodup
  · rw [List.map_set, sum_set _ i 1 0 (by simp [hi]), ← I.cnt]
    have := lenT_out τ k _ b x hs
    omega
theorem Inv.add {τ : List Slot} {G : List Step} (I : Inv τ G) (k : Nat) (g : Int) (b : Nat) (y : Int) (hk : τ[k]? = some (g, none)) (hk1 : (k : Int) ≤ 4095) (g0 : 0 ≤ g) (g1 : g + 1 ≤ 65535) :
    Inv (τ.set k (g + 1, some (b, y))) (G ++ [(1, 4096 * (g + 1) + k, y)]) ∧ ∀ p ∈ G, p.2.1 ≠ 4096 * (g + 1) + k := by
  have hkl := (List.getElem?_eq_some_iff.1 hk).1
  obtain ⟨m1, m2⟩ := made_parts k (g + 1) hk1 (by omega) g1
  have hne : ∀ p ∈ G, p.2.1 ≠ 4096 * (g + 1) + k := by
    intro p hp e
    obtain ⟨k', g', o', e1, e2, e3, e4⟩ := I.look p hp
    rw [e, m1] at e1
    obtain rfl : k = k' := by omega
    rw [hk] at e2
    cases e2
    rw [e, m2] at e3
    omega
  refine ⟨⟨?_, ?_, ?_⟩, hne⟩
  · intro p hp
    rcases List.mem_append.1 hp with hp | hp
    · obtain ⟨k', g', o', e1, e2, e3, e4⟩ := I.look p hp
      by_cases hkk : k = k'
      · subst hkk
        rw [hk] at e2
        cases e2
        rcases e4 with ⟨a1, a2, b', a3⟩ | ⟨a1, a2⟩
        · cases a3
        · exact ⟨k, g + 1, some (b, y), e1, by simp [hkl], by omega, .inr ⟨a1, .inr (by omega)⟩⟩
      · exact ⟨k', g', o', e1, by rw [List.getElem?_set_ne hkk]; exact e2, e3, e4⟩
    · obtain rfl : p = _ := by simpa using hp
      exact ⟨k, g + 1, some (b, y), m1, by simp [hkl], by rw [m2]; omega, .inl ⟨rfl, m2.symm, b, rfl⟩⟩
  · rw [List.map_append, List.nodup_append]
    refine ⟨I.nodup, by simp, ?_⟩
    intro a ha b' hb' e
    obtain ⟨p, hp, rfl⟩ := List.mem_map.1 ha
    have : b' = 4096 * (g + 1) + k := by simpa using hb'
    subst this
    exact hne p hp e
  · rw [lenT_add τ k g _ b y hk, List.map_append, List.sum_append]
    have := I.cnt
    simp
    omega
theorem Inv.drop0 {τ : List Slot} {G : List Step} (I : Inv τ G) (i : Nat) (h x : Int) (hi : G[i]? = some (0, h, x)) : Inv τ (G.set i (0, h, x)) := by
  have : G.set i (0, h, x) = G := by
    apply List.ext_getElem?
    intro j
    by_cases hji : i = j
    · subst hji
      rw [List.getElem?_set_self (List.getElem?_eq_some_iff.1 hi).1, hi]
    · rw [List.getElem?_set_ne hji]
  rw [this]
  exact I
theorem Inv.do01 {τ : List Slot} {G : List Step} (I : Inv τ G) : ∀ p ∈ G, 0 ≤ p.1 ∧ p.1 ≤ 1 := fun p hp => by
  obtain ⟨_, _, _, _, _, _, ⟨h, _⟩ | ⟨h, _⟩⟩ := I.look p hp <;> omega
def sumQ (G : List Step) (q : Nat) : Int := ((G.take q).map (·.1)).sum
theorem sumQ_next (G : List Step) (q : Nat) (p : Step) (h : G[q]? = some p) : sumQ G (q + 1) = sumQ G q + p.1 := by
  unfold sumQ
  rw [take_next G q p h, List.map_append, List.sum_append]
  simp
theorem sumQ_bd (G : List Step) (hG : ∀ p ∈ G, 0 ≤ p.1 ∧ p.1 ≤ 1) : ∀ q, 0 ≤ sumQ G q ∧ sumQ G q ≤ q := by
  intro q
  induction q with
  | zero => simp [sumQ]
  | succ q ih =>
    rcases hq : G[q]? with _ | p
    · have : G.take (q + 1) = G.take q := by
        have hl := List.getElem?_eq_none_iff.1 hq
        rw [List.take_of_length_le (by omega), List.take_of_length_le (by omega)]
      unfold sumQ at ih ⊢
      rw [this]
      omega
    · rw [sumQ_next G q p hq]
      have := hG p (List.mem_of_getElem? hq)
      omega
theorem sumQ_all (G : List Step) : sumQ G G.length = (G.map (·.1)).sum := by simp [sumQ]
/-- Get of a handle that was given. -/
theorem get_given {t S : Nat} {last : Int} {τ : List Slot} {G : List Step} (I : Inv τ G) (i : Nat) (gd gh gx : Int) (hi : G[i]? = some (gd, gh, gx)) :
    ∃ y er, ((gd = 1 ∧ er = 0 ∧ y = gx) ∨ (gd = 0 ∧ er = 9)) ∧ ∀ W, AT W t S last τ → Calls Try.prog 16 #[.pointer (some ⟨t, 0, none⟩), .int .i64 gh] W fun e w' => e = .returned (.tuple #[.int .i64 y, .int .i64 er]) ∧ Drew W w' := by
  obtain ⟨k, g, o, e1, e2, e3, e4⟩ := I.look _ (List.mem_of_getElem? hi)
  simp only at e1 e3 e4
  rcases e4 with ⟨rfl, rfl, b, rfl⟩ | ⟨rfl, hst⟩
  · exact ⟨gx, 0, .inl ⟨rfl, rfl, rfl⟩, fun W H => c_get_ok H gh (handle_i64 gh k e1) k e1 b gx e2⟩
  · exact ⟨0, 9, .inr ⟨rfl, rfl⟩, fun W H => c_get_stale H gh (handle_i64 gh k e1) k e1 g o e2 hst⟩
/-- Drop of a handle that was given. -/
theorem drop_given {w : World} {t S : Nat} {last : Int} {τ : List Slot} {G : List Step} (H : AT w t S last τ) (gb : GB last τ) (I : Inv τ G) (i : Nat) (gd gh gx : Int) (hi : G[i]? = some (gd, gh, gx)) :
    ∃ er τ', ((er = 0 ∧ gd = 1) ∨ (er = 9 ∧ gd = 0)) ∧ Inv τ' (G.set i (0, gh, gx)) ∧ GB last τ' ∧ Calls Try.prog 11 #[.pointer (some ⟨t, 0, none⟩), .int .i64 gh] w fun e w' => e = .returned (.int .i64 er) ∧ AT w' t S last τ' ∧ Only (· = S) w w' := by
  obtain ⟨k, g, o, e1, e2, e3, e4⟩ := I.look _ (List.mem_of_getElem? hi)
  simp only at e1 e3 e4
  rcases e4 with ⟨rfl, rfl, b, rfl⟩ | ⟨rfl, hst⟩
  · have hm := gb _ (List.mem_of_getElem? e2)
    exact ⟨0, _, .inl ⟨rfl, rfl⟩, I.drop i k gh gx b hi e1 e2, gb.set k _ hm.1 hm.2.1 (fun p e => by cases e), c_drop_ok H gh (handle_i64 gh k e1) k e1 b gx e2⟩
  · exact ⟨9, τ, .inr ⟨rfl, rfl⟩, I.drop0 i gh gx hi, gb, (c_drop_stale H gh (handle_i64 gh k e1) k e1 g o e2 hst).mono fun _ _ ⟨a, b⟩ => ⟨a, H.below b.below, Only.of_below b.below⟩⟩
/-- Add: a new handle, or the table is full. -/
theorem add_given {w : World} {t S : Nat} {last : Int} {τ : List Slot} {G : List Step} (H : AT w t S last τ) (gb : GB last τ) (I : Inv τ G) (hl : last ≤ 65535) (y : Int) :
    (∃ hd τ', Inv τ' (G ++ [(1, hd, y)]) ∧ (∀ p ∈ G, p.2.1 ≠ hd) ∧ GB last τ' ∧ Calls Try.prog 13 #[.pointer (some ⟨t, 0, none⟩), .int .i64 y] w fun e w' => e = .returned (.tuple #[.int .i64 hd, .int .i64 0]) ∧ AT w' t S last τ' ∧ Only (· = S) w w') ∨
    (Calls Try.prog 13 #[.pointer (some ⟨t, 0, none⟩), .int .i64 y] w fun e w' => e = .returned (.tuple #[.int .i64 0, .int .i64 10]) ∧ Below w.heap.size w w') := by
  rcases first_free last τ with h | ⟨k, g, hk, hgl, hno⟩
  · exact .inr (c_add_no H y h)
  · have hm := gb _ (List.mem_of_getElem? hk)
    have h0 : 0 ≤ g := hm.1
    have hkl := (List.getElem?_eq_some_iff.1 hk).1
    have hf := H.few
    obtain ⟨a, b⟩ := I.add k g w.heap.size y hk (by omega) h0 (by omega)
    exact .inl ⟨_, _, a, b, gb.set k _ (by simp only; omega) (by simp only; omega) (fun p _ => by simp only; omega), c_add H y k g hk hgl h0 hl hno⟩
end Go.Proofs.Ytdlbcacdbcnbhaa
