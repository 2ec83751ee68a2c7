/- Slices of structs of any make as arguments, or as parts of them: rows/XOw's texts under names of their own, for seats without Ta. -/
import Derived.Test.YtpbjfadandnhaaaOS
namespace Go.Proofs.Ytpbjfadandnhaaa
open Go.ChangeShapes Go.WideShapes Go.Deep Go.ChangeAt Go.RowKit

theorem flatG {α β : Type} (f : α → List β) (m : Nat) (hf : ∀ a, (f a).length = m) : ∀ l : List α, (l.flatMap f).length = l.length * m
  | [] => by simp
  | a :: l => by rw [List.flatMap_cons, List.length_append, hf, flatG f m hf l, List.length_cons, Nat.succ_mul]; omega
section
variable {H : Type} {enc : TypeId × Value → H} {P : Program} {w : World} {base : Nat} {spare : Nat → Bool} {held : Bool}
/-- A slice of elements of m cells each, read as data: it reads as a list. -/
theorem trodG_rows {α : Type} [Inhabited α] (f : α → List Value) (m : Nat) (good : α → Prop) (hf : ∀ a, (f a).length = m) (hpos : 0 < m) {t e : TypeId} {fuel : Nat} {cs : List Value} {x : DataW H × List MemPlace} (ht : P.underlying t = some (.slice e)) (hC : P.cellsOf e = m)
    (hel : ∀ (fu : Nat) (cs : List Value) (x : DataW H × List MemPlace), DataW.trod enc P w base spare held fu e cs = some x → ∃ a, cs = f a ∧ good a) (h : DataW.trod enc P w base spare held fuel t cs = some x) :
    ∃ (A : Option Addr) (n c : Nat) (L : List α), cs = [.slice A n c] ∧ n ≤ c ∧ c ≤ maxLen ∧ L.length = n ∧ (∀ a ∈ L, good a) ∧ RD w (fun _ => True) m A n (L.flatMap f) := by
  rcases Go.Deep.open_slice ht h with ⟨rfl, _⟩ | ⟨a, len, cap, mm, fu, D, Pl, rfl, -, hl, hm, hmm, -, hi⟩
  · exact ⟨none, 0, 0, [], rfl, Nat.le_refl _, by unfold maxLen; omega, rfl, fun a ha => absurd ha (by simp), RD.nil _ _ _ _⟩
  · have hlm : len ≤ mm := by
      rw [hmm]
      split
      · exact hl
      · exact Nat.le_refl _
    have hrow : ∀ i, i < len → ∃ q : α, good q ∧ ∀ j u, (f q)[j]? = some u → w.cell? (a.add (i * m + j)) = some u := by
      intro i hil
      obtain ⟨cs, hcs, htr⟩ := hi i (by omega)
      rw [hC] at hcs
      have hat := (World.cells?_some hcs).2.2
      obtain ⟨q, hcc, hg⟩ := hel _ _ _ htr
      refine ⟨q, hg, fun j u hu => ?_⟩
      have hj : j < m := by
        have := (List.getElem?_eq_some_iff.1 hu).1
        rwa [hf] at this
      rw [← Go.Deep.add_add, hat j hj, hcc]
      exact hu
    obtain ⟨R, hR⟩ := choose_lt hrow
    refine ⟨some a, len, cap, (List.range len).map R, rfl, hl, hm, by simp, fun q hq => ?_, ?_, fun hn => ?_⟩
    · obtain ⟨i, hil, rfl⟩ := List.mem_map.1 hq
      exact (hR i (List.mem_range.1 hil)).1
    · rw [flatG f m hf]
      simp
    · have hu0 := (hR 0 hn).2 0 _ (List.getElem?_eq_getElem (show 0 < (f (R 0)).length by rw [hf]; omega))
      have hsp := World.cell?_spot hu0
      obtain ⟨b, o, sp⟩ := a
      have hsp' : sp = none := by simpa [Addr.add] using hsp
      subst hsp'
      have hadd : ∀ j, (⟨b, o, none⟩ : Addr).add j = ⟨b, o + j, none⟩ := by
        intro j
        unfold Addr.add
        split
        · next h => subst h; rfl
        · rfl
      refine ⟨b, o, rfl, trivial, World.block_lt_of_cell? w ⟨b, o, none⟩ (by rw [hadd] at hu0; simpa using hu0), fun q u hu => ?_⟩
      have hqlt : q < len * m := by
        have h1 := (List.getElem?_eq_some_iff.1 hu).1
        rw [flatG f m hf] at h1
        simpa using h1
      have hq : q = q / m * m + q % m := by
        have := Nat.div_add_mod q m
        rw [Nat.mul_comm] at this
        omega
      have hdl : q / m < len := Nat.div_lt_of_lt_mul (by rw [Nat.mul_comm]; exact hqlt)
      rw [← hadd, hq]
      refine (hR (q / m) hdl).2 (q % m) u ?_
      have hk : ((List.range len).map R)[q / m]? = some (R (q / m)) := by simp [hdl]
      rw [← flat_get f m hf _ _ _ _ hk (Nat.mod_lt _ hpos), ← hq]
      exact hu
/-- The same, of a whole argument. -/
theorem openG_rows {α : Type} [Inhabited α] (f : α → List Value) (m : Nat) (good : α → Prop) (hf : ∀ a, (f a).length = m) (hpos : 0 < m) {r : Reach} {b0 : Nat} {t e : TypeId} {v : Value} {d : DataW H} {ps : List MemPlace} (ht : P.underlying t = some (.slice e)) (hC : P.cellsOf e = m)
    (hel : ∀ (fu : Nat) (cs : List Value) (x : DataW H × List MemPlace), DataW.trod enc P w base spare held fu e cs = some x → ∃ a, cs = f a ∧ good a) (hval : Value.okWide P w r b0 t v) (hd : DataW.Trod enc P w base spare held t v d ps) :
    ∃ (A : Option Addr) (n c : Nat) (L : List α), v = .slice A n c ∧ n ≤ c ∧ c ≤ maxLen ∧ L.length = n ∧ (∀ a ∈ L, good a) ∧ RD w (fun _ => True) m A n (L.flatMap f) := by
  obtain ⟨fuel, hf'⟩ := hd
  unfold Value.okWide at hval
  simp only [ht] at hval
  unfold Cell.okWide at hval
  simp only [ht] at hval
  unfold Cell.ok at hval
  simp only [ht] at hval
  have hv : v = .slice none 0 0 ∨ ∃ a len cap, v = .slice (some a) len cap := by
    split at hval
    all_goals first
      | exact .inl rfl
      | exact .inr ⟨_, _, _, rfl⟩
      | (exfalso; assumption)
      | simp_all
  have h1 : DataW.trod enc P w base spare held fuel t [v] = some (d, ps) := by
    rcases hv with rfl | ⟨a, len, cap, rfl⟩ <;> exact hf'
  obtain ⟨A, n, c, L, e1, h2⟩ := trodG_rows f m good hf hpos ht hC hel h1
  exact ⟨A, n, c, L, by simpa using e1, h2⟩
end

end Go.Proofs.Ytpbjfadandnhaaa
