/- A line as an argument. -/
import Derived.Test.YtoimcbdajmghkaaOT
import Derived.Test.YtoimcbdajmghkaaLb
namespace Go.Proofs.Ytoimcbdajmghkaa
open Go.ChangeShapes Go.WideShapes Go.ChangeAt Go.RowKit

section
variable {H : Type} {enc : TypeId × Value → H} {w : World} {base : Nat} {spare : Nat → Bool} {held : Bool}
theorem open_line {r : Reach} {b0 : Nat} {v : Value} {d : DataW H} {ps : List MemPlace} (hval : Value.okWide Try.prog w r b0 24 v) (hd : DataW.Trod enc Try.prog w base spare held 24 v d ps) :
    ∃ (sh : Bool) (A : Option Addr) (n c : Nat) (L : List Int), v = .agg #[.bool sh, .slice A n c] ∧ LnW w (fun _ => True) A n c L := by
  obtain ⟨cs, rfl, hsz⟩ := okWide_struct Try.underlying24 hval
  obtain ⟨fuel, hf⟩ := hd
  have hf' : DataW.trod enc Try.prog w base spare held fuel 24 cs.toList = some (d, ps) := hf
  obtain ⟨y0, y1, m, _, hl, e0, e1⟩ := trod_struct2 Try.underlying24 hf'
  have hl2 : cs.toList.length = 2 := by rw [hl]; kernel_rfl
  have ci : Try.prog.cellsOf 22 = 1 := by kernel_rfl
  have cb : Try.prog.cellsOf 4 = 1 := by kernel_rfl
  have e0' : DataW.trod enc Try.prog w base spare held m 4 ((cs.toList.drop 0).take 1) = some y0 := (cb ▸ e0 : _)
  have e1' : DataW.trod enc Try.prog w base spare held m 22 ((cs.toList.drop 1).take 1) = some y1 := (ci ▸ e1 : _)
  obtain ⟨l⟩ := cs
  simp only at hl2 e0' e1'
  obtain ⟨a, b, rfl⟩ := list_of_2 hl2
  obtain ⟨z0, h0, _⟩ := DataW.trod_bool Try.underlying4 e0'
  obtain ⟨A, n, c, L, h1, h2, h3, h4, _, h5⟩ := trod_intl .i64 Try.underlying22 Try.underlying3 (by kernel_rfl) e1'
  have ha : a = .bool z0 := by simpa using h0
  have hb : b = .slice A n c := by simpa using h1
  subst ha
  subst hb
  exact ⟨z0, A, n, c, L, rfl, ⟨h5, h4, h2, h3⟩⟩
end
end Go.Proofs.Ytoimcbdajmghkaa
