/- A guard, and a slice of guards, as arguments. -/
import Derived.Test.YtgigcjhggpknnaaOG
import Derived.Test.YtgigcjhggpknnaaGu
namespace Go.Proofs.Ytgigcjhggpknnaa
open Go.ChangeShapes Go.WideShapes Go.Deep Go.ChangeAt Go.RowKit

instance : Inhabited GD := ⟨⟨0, 0, 0, 0, 0⟩⟩
section
variable {H : Type} {enc : TypeId × Value → H} {w : World} {base : Nat} {spare : Nat → Bool} {held : Bool}
set_option maxRecDepth 100000 in
theorem trod_gd {fu : Nat} {cs : List Value} {x : DataW H × List MemPlace} (h : DataW.trod enc Try.prog w base spare held fu 34 cs = some x) : ∃ g : GD, cs = gdC g ∧ True := by
  obtain ⟨xs, m', _, _, hl, hxl, each⟩ := DataW.trod_struct Try.underlying34 h
  have hl5 : cs.length = 5 := by rw [hl]; kernel_rfl
  have ci : Try.prog.cellsOf 3 = 1 := by kernel_rfl
  have hx5 : xs.length = 5 := by rw [hxl]; rfl
  obtain ⟨a, b, c, d, e, rfl⟩ : ∃ a b c d e, cs = [a, b, c, d, e] := by
    match cs, hl5 with
    | [a, b, c, d, e], _ => exact ⟨a, b, c, d, e, rfl⟩
  have e0 : DataW.trod enc Try.prog w base spare held m' 3 [a] = some (xs[0]'(by omega)) := by
    have h := each 0 _ rfl
    rw [List.getElem?_eq_getElem (by omega)] at h
    exact (ci ▸ h : _)
  have e1 : DataW.trod enc Try.prog w base spare held m' 3 [b] = some (xs[1]'(by omega)) := by
    have h := each 1 _ rfl
    rw [List.getElem?_eq_getElem (by omega)] at h
    exact (ci ▸ h : _)
  have e2 : DataW.trod enc Try.prog w base spare held m' 3 [c] = some (xs[2]'(by omega)) := by
    have h := each 2 _ rfl
    rw [List.getElem?_eq_getElem (by omega)] at h
    exact (ci ▸ h : _)
  have e3 : DataW.trod enc Try.prog w base spare held m' 3 [d] = some (xs[3]'(by omega)) := by
    have h := each 3 _ rfl
    rw [List.getElem?_eq_getElem (by omega)] at h
    exact (ci ▸ h : _)
  have e4 : DataW.trod enc Try.prog w base spare held m' 3 [e] = some (xs[4]'(by omega)) := by
    have h := each 4 _ rfl
    rw [List.getElem?_eq_getElem (by omega)] at h
    exact (ci ▸ h : _)
  obtain ⟨z0, h0, _, _⟩ := DataW.trod_int Try.underlying3 e0
  obtain ⟨z1, h1, _, _⟩ := DataW.trod_int Try.underlying3 e1
  obtain ⟨z2, h2, _, _⟩ := DataW.trod_int Try.underlying3 e2
  obtain ⟨z3, h3, _, _⟩ := DataW.trod_int Try.underlying3 e3
  obtain ⟨z4, h4, _, _⟩ := DataW.trod_int Try.underlying3 e4
  obtain rfl : a = .int .i64 z0 := by simpa using h0
  obtain rfl : b = .int .i64 z1 := by simpa using h1
  obtain rfl : c = .int .i64 z2 := by simpa using h2
  obtain rfl : d = .int .i64 z3 := by simpa using h3
  obtain rfl : e = .int .i64 z4 := by simpa using h4
  exact ⟨⟨z0, z1, z2, z3, z4⟩, rfl, trivial⟩
set_option maxRecDepth 100000 in
theorem open_gd {r : Reach} {b0 : Nat} {v : Value} {d : DataW H} {ps : List MemPlace} (hval : Value.okWide Try.prog w r b0 34 v) (hd : DataW.Trod enc Try.prog w base spare held 34 v d ps) :
    ∃ k o v' r' n : Int, v = .agg #[.int .i64 k, .int .i64 o, .int .i64 v', .int .i64 r', .int .i64 n] := by
  obtain ⟨cs, rfl, hsz⟩ := okWide_struct Try.underlying34 hval
  obtain ⟨fuel, hf⟩ := hd
  have hf' : DataW.trod enc Try.prog w base spare held fuel 34 cs.toList = some (d, ps) := hf
  obtain ⟨g, hg, _⟩ := trod_gd hf'
  obtain ⟨l⟩ := cs
  obtain rfl : l = gdC g := hg
  exact ⟨g.k, g.o, g.v, g.r, g.n, rfl⟩
set_option maxRecDepth 100000 in
theorem open_gds {r : Reach} {b0 : Nat} {v : Value} {d : DataW H} {ps : List MemPlace} (hval : Value.okWide Try.prog w r b0 44 v) (hd : DataW.Trod enc Try.prog w base spare held 44 v d ps) :
    ∃ (A : Option Addr) (n c : Nat) (L : List GD), v = .slice A n c ∧ L.length = n ∧ n ≤ c ∧ c ≤ maxLen ∧ RD w (fun _ => True) 5 A n (L.flatMap gdC) := by
  obtain ⟨A, n, c, L, rfl, h1, h2, h3, _, h5⟩ := openG_rows gdC 5 (fun _ => True) gdC_len (by omega) Try.underlying44 (by kernel_rfl) (fun _ _ _ h => trod_gd h) hval hd
  exact ⟨A, n, c, L, rfl, h3, h1, h2, h5⟩
end
end Go.Proofs.Ytgigcjhggpknnaa
