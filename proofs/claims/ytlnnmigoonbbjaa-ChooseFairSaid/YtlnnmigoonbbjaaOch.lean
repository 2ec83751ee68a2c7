/- A choice as an argument; the walks of layer 27 as their rows give the arguments. -/
import Derived.Test.YtlnnmigoonbbjaaOT
import Derived.Test.YtlnnmigoonbbjaaChi
namespace Go.Proofs.Ytlnnmigoonbbjaa
open Go.ChangeShapes Go.WideShapes Go.ChangeAt Go.RowKit

section
variable {H : Type} {enc : TypeId × Value → H} {w : World} {base : Nat} {spare : Nat → Bool} {held : Bool}
set_option maxRecDepth 100000 in
theorem open_choice {r : Reach} {b0 : Nat} {v : Value} {d : DataW H} {ps : List MemPlace} (hval : Value.okWide Try.prog w r b0 24 v) (hd : DataW.Trod enc Try.prog w base spare held 24 v d ps) :
    ∃ (k o q : Int) (A : Option Addr) (n c : Nat) (L : List Int), v = .agg #[.int .i64 k, .int .i64 o, .int .i64 q, .slice A n c] ∧ L.length = n ∧ RD w (fun _ => True) 1 A n (L.map (Value.int .i64)) := by
  obtain ⟨cs, rfl, hsz⟩ := okWide_struct Try.underlying24 hval
  obtain ⟨fuel, hf⟩ := hd
  have hf' : DataW.trod enc Try.prog w base spare held fuel 24 cs.toList = some (d, ps) := hf
  obtain ⟨l⟩ := cs
  simp only at hf'
  obtain ⟨xs, m', _, _, hl, hxl, each⟩ := DataW.trod_struct Try.underlying24 hf'
  have hl4 : l.length = 4 := by rw [hl]; kernel_rfl
  have ci : Try.prog.cellsOf 3 = 1 := by kernel_rfl
  have cl : Try.prog.cellsOf 22 = 1 := by kernel_rfl
  have hx4 : xs.length = 4 := by rw [hxl]; rfl
  obtain ⟨a, b, c, e, rfl⟩ : ∃ a b c e, l = [a, b, c, e] := by
    match l, hl4 with
    | [a, b, c, e], _ => exact ⟨a, b, c, e, rfl⟩
  have e0 : DataW.trod enc Try.prog w base spare held m' 3 [a] = some (xs[0]'(by omega)) := by
    have h := each 0 _ rfl
    rw [List.getElem?_eq_getElem (by omega)] at h
    exact (ci ▸ h : _)
  have e1 : DataW.trod enc Try.prog w base spare held m' 3 [b] = some (xs[1]'(by omega)) := by
    have h := each 1 _ rfl
    rw [List.getElem?_eq_getElem (by omega)] at h
    exact (ci ▸ h : _)
  have e2 : DataW.trod enc Try.prog w base spare held m' 3 [c] = some (xs[2]'(by omega)) := by
    have h := each 2 _ rfl
    rw [List.getElem?_eq_getElem (by omega)] at h
    exact (ci ▸ h : _)
  have e3 : DataW.trod enc Try.prog w base spare held m' 22 [e] = some (xs[3]'(by omega)) := by
    have h := each 3 _ rfl
    rw [List.getElem?_eq_getElem (by omega)] at h
    exact (cl ▸ h : _)
  obtain ⟨z0, h0, _, _⟩ := DataW.trod_int Try.underlying3 e0
  obtain ⟨z1, h1, _, _⟩ := DataW.trod_int Try.underlying3 e1
  obtain ⟨z2, h2, _, _⟩ := DataW.trod_int Try.underlying3 e2
  obtain ⟨A, n, c', L, h3, _, _, h4, _, h5⟩ := trod_intl .i64 Try.underlying22 Try.underlying3 (by kernel_rfl) e3
  obtain rfl : a = .int .i64 z0 := by simpa using h0
  obtain rfl : b = .int .i64 z1 := by simpa using h1
  obtain rfl : c = .int .i64 z2 := by simpa using h2
  obtain rfl : e = .slice A n c' := by simpa using h3
  exact ⟨z0, z1, z2, A, n, c', L, rfl, h4, h5⟩
end
theorem z_fair (x y z : Int) (A : Option Addr) (N c : Nat) (L : List Int) (hl : L.length = N) (_hwf : ∀ z ∈ L, (Lit.int .u8 z).wf = true) (w : World) (hR : RD w (fun _ => True) 1 A N (L.map (Value.int .u8))) (bx : 0 ≤ x ∧ x ≤ 255) (by_ : 0 ≤ y ∧ y ≤ 255) (bz : 0 ≤ z ∧ z ≤ 255) :
    Calls Try.prog 4 #[.agg #[.int .u8 x, .int .u8 y, .int .u8 z], .slice A N c] w fun e w' => e = .returned (.bool true) ∧ Below w.heap.size w w' :=
  l_fair x y z bx.1 bx.2 by_.1 by_.2 bz.1 bz.2 A N c L hl w hR
theorem z_each (x y z v : Int) (w : World) (bx : 0 ≤ x ∧ x ≤ 255) (by_ : 0 ≤ y ∧ y ≤ 255) :
    Calls Try.prog 5 #[.agg #[.int .u8 x, .int .u8 y, .int .u8 z], .int .i64 v] w fun e w' => e = .returned (.bool true) ∧ Below w.heap.size w w' :=
  l_each x y z v bx.1 bx.2 by_.1 by_.2 w
end Go.Proofs.Ytlnnmigoonbbjaa
