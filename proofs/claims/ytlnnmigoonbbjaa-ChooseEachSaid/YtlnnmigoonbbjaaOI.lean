/- A slice of integers, as an argument: it reads as a list of numbers. -/
import Derived.Test.YtlnnmigoonbbjaaO
import Derived.Test.YtlnnmigoonbbjaaM
import Derived.Deep.Slices
import Derived.ChangeSlices
namespace Go.Proofs.Ytlnnmigoonbbjaa
open Go.ChangeShapes Go.WideShapes Go.ChangeAt Go.RowKit

section
variable {H : Type} {enc : TypeId × Value → H} {P : Program} {w : World} {base : Nat} {spare : Nat → Bool} {held : Bool}
theorem open_intl (k : IntKind) {r : Reach} {b0 : Nat} {t e : TypeId} {v : Value} {d : DataW H} {ps : List MemPlace} (ht : P.underlying t = some (.slice e)) (he : P.underlying e = some (.int k)) (hce : P.cellsOf e = 1)
    (hval : Value.okWide P w r b0 t v) (hd : DataW.Trod enc P w base spare held t v d ps) :
    ∃ (A : Option Addr) (n c : Nat) (L : List Int), v = .slice A n c ∧ n ≤ c ∧ c ≤ maxLen ∧ L.length = n ∧ RD w (fun _ => True) 1 A n (L.map (Value.int k)) := by
  obtain ⟨fuel, hf⟩ := hd
  unfold Value.okWide at hval
  simp only [ht] at hval
  unfold Cell.okWide at hval
  simp only [ht] at hval
  unfold Cell.ok at hval
  simp only [ht] at hval
  have hv : v = .slice none 0 0 ∨ ∃ a len cap, v = .slice (some a) len cap := by
    split at hval
    all_goals first
      | exact .inl rfl
      | exact .inr ⟨_, _, _, rfl⟩
      | (exfalso; assumption)
      | simp_all
  rcases hv with rfl | ⟨a, len, cap, rfl⟩
  · exact ⟨none, 0, 0, [], rfl, Nat.le_refl _, by unfold maxLen; omega, rfl, RD.nil _ _ _ _⟩
  · have hf' : DataW.trod enc P w base spare held fuel t [.slice (some a) len cap] = some (d, ps) := hf
    rcases open_ints ht he hce hf' with ⟨h0, _⟩ | ⟨a', len', cap', zs, h1, -, hl, hm, hzl, -, hat, -⟩
    · cases h0
    · cases h1
      have hlz : len ≤ zs.length := by
        rw [hzl]
        split
        · exact hl
        · exact Nat.le_refl _
      refine ⟨some a, len, cap, zs.take len, rfl, hl, hm, by rw [List.length_take]; omega, by rw [List.length_map, List.length_take]; omega, fun hn => ?_⟩
      have h0 := hat 0 (by omega)
      have hsp := World.cell?_spot h0
      obtain ⟨b, o, sp⟩ := a
      have hsp' : sp = none := by simpa [Addr.add] using hsp
      subst hsp'
      have hadd : ∀ j, (⟨b, o, none⟩ : Addr).add j = ⟨b, o + j, none⟩ := by
        intro j
        unfold Addr.add
        split
        · next h => subst h; rfl
        · rfl
      refine ⟨b, o, rfl, trivial, World.block_lt_of_cell? w ⟨b, o, none⟩ (by rw [hadd] at h0; simpa using h0), fun q u hu => ?_⟩
      have hq : q < len := by
        have := (List.getElem?_eq_some_iff.1 hu).1
        simp at this
        omega
      have hz := hat q (by omega)
      rw [hadd] at hz
      rw [hz]
      simp [hq] at hu
      obtain ⟨z, hz1, rfl⟩ := hu
      simp [List.getD, hz1]
theorem open_intw (k : IntKind) {r : Reach} {b0 : Nat} {t e : TypeId} {v : Value} {d : DataW H} {ps : List MemPlace} (ht : P.underlying t = some (.slice e)) (he : P.underlying e = some (.int k)) (hce : P.cellsOf e = 1)
    (hval : Value.okWide P w r b0 t v) (hd : DataW.Trod enc P w base spare held t v d ps) :
    ∃ (A : Option Addr) (n c : Nat) (L : List Int), v = .slice A n c ∧ n ≤ c ∧ c ≤ maxLen ∧ L.length = n ∧ (∀ z ∈ L, (Lit.int k z).wf = true) ∧ RD w (fun _ => True) 1 A n (L.map (Value.int k)) := by
  obtain ⟨fuel, hf⟩ := hd
  unfold Value.okWide at hval
  simp only [ht] at hval
  unfold Cell.okWide at hval
  simp only [ht] at hval
  unfold Cell.ok at hval
  simp only [ht] at hval
  have hv : v = .slice none 0 0 ∨ ∃ a len cap, v = .slice (some a) len cap := by
    split at hval
    all_goals first
      | exact .inl rfl
      | exact .inr ⟨_, _, _, rfl⟩
      | (exfalso; assumption)
      | simp_all
  rcases hv with rfl | ⟨a, len, cap, rfl⟩
  · exact ⟨none, 0, 0, [], rfl, Nat.le_refl _, by unfold maxLen; omega, rfl, by simp, RD.nil _ _ _ _⟩
  · have hf' : DataW.trod enc P w base spare held fuel t [.slice (some a) len cap] = some (d, ps) := hf
    rcases open_ints ht he hce hf' with ⟨h0, _⟩ | ⟨a', len', cap', zs, h1, -, hl, hm, hzl, -, hat, hwf⟩
    · cases h0
    · cases h1
      have hlz : len ≤ zs.length := by
        rw [hzl]
        split
        · exact hl
        · exact Nat.le_refl _
      refine ⟨some a, len, cap, zs.take len, rfl, hl, hm, by rw [List.length_take]; omega, fun z hz => hwf z (List.mem_of_mem_take hz), by rw [List.length_map, List.length_take]; omega, fun hn => ?_⟩
      have h0 := hat 0 (by omega)
      have hsp := World.cell?_spot h0
      obtain ⟨b, o, sp⟩ := a
      have hsp' : sp = none := by simpa [Addr.add] using hsp
      subst hsp'
      have hadd : ∀ j, (⟨b, o, none⟩ : Addr).add j = ⟨b, o + j, none⟩ := by
        intro j
        unfold Addr.add
        split
        · next h => subst h; rfl
        · rfl
      refine ⟨b, o, rfl, trivial, World.block_lt_of_cell? w ⟨b, o, none⟩ (by rw [hadd] at h0; simpa using h0), fun q u hu => ?_⟩
      have hq : q < len := by
        have := (List.getElem?_eq_some_iff.1 hu).1
        simp at this
        omega
      have hz := hat q (by omega)
      rw [hadd] at hz
      rw [hz]
      simp [hq] at hu
      obtain ⟨z, hz1, rfl⟩ := hu
      simp [List.getD, hz1]
end
end Go.Proofs.Ytlnnmigoonbbjaa
