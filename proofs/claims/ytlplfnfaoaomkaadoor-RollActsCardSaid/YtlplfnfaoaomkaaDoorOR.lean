/- A document's roll as an argument: a struct of two slices of ints. -/
import Derived.Test.YtlplfnfaoaomkaaDoorOT
import Derived.Test.YtlplfnfaoaomkaaDoorRld
namespace Go.Proofs.YtlplfnfaoaomkaaDoor
open Go.ChangeShapes Go.WideShapes Go.ChangeAt Go.RowKit

section
variable {H : Type} {enc : TypeId × Value → H} {w : World} {base : Nat} {spare : Nat → Bool} {held : Bool}
theorem open_droll {r : Reach} {b0 : Nat} {v : Value} {d : DataW H} {ps : List MemPlace} (hval : Value.okWide Tryd.prog w r b0 24 v) (hd : DataW.Trod enc Tryd.prog w base spare held 24 v d ps) :
    ∃ (A : Option Addr) (n c : Nat) (L : List Int) (B : Option Addr) (m k : Nat) (N : List Int), v = .agg ([.slice A n c, .slice B m k] : List Value).toArray ∧ L.length = n ∧ N.length = m ∧ RD w tt 1 A n (L.map (Value.int .i64)) ∧ RD w tt 1 B m (N.map (Value.int .i64)) := by
  obtain ⟨cs, rfl, hsz⟩ := okWide_struct Tryd.underlying24 hval
  obtain ⟨fuel, hf⟩ := hd
  have hf' : DataW.trod enc Tryd.prog w base spare held fuel 24 cs.toList = some (d, ps) := hf
  obtain ⟨y0, y1, m, _, hl, e0, e1⟩ := trod_struct2 Tryd.underlying24 hf'
  have hl2 : cs.toList.length = 2 := by rw [hl]; kernel_rfl
  have ci : Tryd.prog.cellsOf 22 = 1 := by kernel_rfl
  have e0' : DataW.trod enc Tryd.prog w base spare held m 22 ((cs.toList.drop 0).take 1) = some y0 := (ci ▸ e0 : _)
  have e1' : DataW.trod enc Tryd.prog w base spare held m 22 ((cs.toList.drop 1).take 1) = some y1 := (ci ▸ e1 : _)
  obtain ⟨l⟩ := cs
  simp only at hl2 e0' e1'
  obtain ⟨a, b, rfl⟩ := list_of_2 hl2
  obtain ⟨A, n, c, L, h1, h2, h3, h4, _, h5⟩ := trod_intl .i64 Tryd.underlying22 Tryd.underlying3 (by kernel_rfl) e0'
  obtain ⟨B, q, k, N, k1, k2, k3, k4, _, k5⟩ := trod_intl .i64 Tryd.underlying22 Tryd.underlying3 (by kernel_rfl) e1'
  have ha : a = .slice A n c := by simpa using h1
  have hb : b = .slice B q k := by simpa using k1
  subst ha
  subst hb
  exact ⟨A, n, c, L, B, q, k, N, rfl, h4, k4, h5, k5⟩
end
end Go.Proofs.YtlplfnfaoaomkaaDoor
