/- A slice of bools, as an argument: it reads as a list. -/
import Derived.Test.YtaokojjjihinhaaO
import Derived.Test.YtaokojjjihinhaaM
import Derived.Deep.Slices
import Derived.Deep.Grids
import Derived.ChangeSlices
namespace Go.Proofs.Ytaokojjjihinhaa
open Go.ChangeShapes Go.WideShapes Go.ChangeAt Go.RowKit

section
variable {H : Type} {enc : TypeId × Value → H} {P : Program} {w : World} {base : Nat} {held : Bool}
theorem open_bol {r : Reach} {b0 : Nat} {t e : TypeId} {v : Value} {d : DataW H} {ps : List MemPlace} (ht : P.underlying t = some (.slice e)) (he : P.underlying e = some .bool) (hce : P.cellsOf e = 1)
    (hval : Value.okWide P w r b0 t v) (hd : DataW.Trod enc P w base (fun _ => true) held t v d ps) :
    ∃ (A : Option Addr) (n c : Nat) (L : List Bool), v = .slice A n c ∧ n ≤ c ∧ c ≤ maxLen ∧ L.length = n ∧ RD w (fun _ => True) 1 A n (L.map Value.bool) := by
  obtain ⟨fuel, hf⟩ := hd
  unfold Value.okWide at hval
  simp only [ht] at hval
  unfold Cell.okWide at hval
  simp only [ht] at hval
  unfold Cell.ok at hval
  simp only [ht] at hval
  have hv : v = .slice none 0 0 ∨ ∃ a len cap, v = .slice (some a) len cap := by
    split at hval
    all_goals first
      | exact .inl rfl
      | exact .inr ⟨_, _, _, rfl⟩
      | (exfalso; assumption)
      | simp_all
  rcases hv with rfl | ⟨a, len, cap, rfl⟩
  · exact ⟨none, 0, 0, [], rfl, Nat.le_refl _, by unfold maxLen; omega, rfl, RD.nil _ _ _ _⟩
  · have hf' : DataW.trod enc P w base (fun _ => true) held fuel t [.slice (some a) len cap] = some (d, ps) := hf
    rcases Go.Deep.open_bools ht he hce hf' with ⟨h0, _⟩ | ⟨a', len', cap', B, h1, -, hl, hm, -, hat⟩
    · cases h0
    · cases h1
      refine ⟨some a, len, cap, (List.range len).map B, rfl, hl, hm, by simp, by simp, fun hn => ?_⟩
      have h0 := hat 0 (by omega)
      have hsp := World.cell?_spot h0
      obtain ⟨b, o, sp⟩ := a
      have hsp' : sp = none := by simpa [Addr.add] using hsp
      subst hsp'
      have hadd : ∀ j, (⟨b, o, none⟩ : Addr).add j = ⟨b, o + j, none⟩ := by
        intro j
        unfold Addr.add
        split
        · next h => subst h; rfl
        · rfl
      refine ⟨b, o, rfl, trivial, World.block_lt_of_cell? w ⟨b, o, none⟩ (by rw [hadd] at h0; simpa using h0), fun q u hu => ?_⟩
      have hq : q < len := by
        have := (List.getElem?_eq_some_iff.1 hu).1
        simp at this
        omega
      have hz := hat q (by omega)
      rw [hadd] at hz
      rw [hz]
      simp [hq] at hu
      rw [hu]
end
end Go.Proofs.Ytaokojjjihinhaa
