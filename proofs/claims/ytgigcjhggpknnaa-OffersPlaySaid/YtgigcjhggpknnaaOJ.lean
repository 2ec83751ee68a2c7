/- The law's steps as an argument; the walk of OffersPlay as its row gives the arguments. -/
import Derived.Test.YtgigcjhggpknnaaOgd
import Derived.Test.YtgigcjhggpknnaaOrb
namespace Go.Proofs.Ytgigcjhggpknnaa
open Go.ChangeShapes Go.WideShapes Go.Deep Go.ChangeAt Go.RowKit

theorem u8_of {x : Int} (h : (Lit.int .u8 x).wf = true) : 0 ≤ x ∧ x ≤ 255 := by
  simpa [Lit.wf, IntKind.min, IntKind.max, IntKind.signed, IntKind.bits] using h
section
variable {H : Type} {enc : TypeId × Value → H} {w : World} {base : Nat} {spare : Nat → Bool} {held : Bool}
set_option maxRecDepth 100000 in
theorem trod_ost {fu : Nat} {cs : List Value} {x : DataW H × List MemPlace} (h : DataW.trod enc Try.prog w base spare held fu 36 cs = some x) : ∃ s : Step, cs = stepV s ∧ StOk s := by
  obtain ⟨xs, m', _, _, hl, hxl, each⟩ := DataW.trod_struct Try.underlying36 h
  have hl7 : cs.length = 7 := by rw [hl]; kernel_rfl
  have hx3 : xs.length = 3 := by rw [hxl]; rfl
  have cu : Try.prog.cellsOf 5 = 1 := by kernel_rfl
  have ci : Try.prog.cellsOf 3 = 1 := by kernel_rfl
  have cg : Try.prog.cellsOf 34 = 5 := by kernel_rfl
  obtain ⟨d, a, b, c, e, f, g, rfl⟩ : ∃ d a b c e f g, cs = [d, a, b, c, e, f, g] := by
    match cs, hl7 with
    | [d, a, b, c, e, f, g], _ => exact ⟨d, a, b, c, e, f, g, rfl⟩
  have e0 : DataW.trod enc Try.prog w base spare held m' 5 [d] = some (xs[0]'(by omega)) := by
    have h := each 0 _ rfl
    rw [List.getElem?_eq_getElem (by omega)] at h
    exact (cu ▸ h : _)
  have e1 : DataW.trod enc Try.prog w base spare held m' 3 [a] = some (xs[1]'(by omega)) := by
    have h := each 1 _ rfl
    rw [List.getElem?_eq_getElem (by omega)] at h
    exact (ci ▸ h : _)
  have e2 : DataW.trod enc Try.prog w base spare held m' 34 [b, c, e, f, g] = some (xs[2]'(by omega)) := by
    have h := each 2 _ rfl
    rw [List.getElem?_eq_getElem (by omega)] at h
    exact (cg ▸ h : _)
  obtain ⟨z0, h0, _, hw0⟩ := DataW.trod_int Try.underlying5 e0
  obtain ⟨z1, h1, _, _⟩ := DataW.trod_int Try.underlying3 e1
  obtain ⟨gg, h2, _⟩ := trod_gd e2
  obtain rfl : d = .int .u8 z0 := by simpa using h0
  obtain rfl : a = .int .i64 z1 := by simpa using h1
  refine ⟨(z0, ⟨z1, gg⟩), ?_, u8_of hw0⟩
  simp only [stepV, ofC]
  rw [h2]
  rfl
set_option maxRecDepth 100000 in
theorem open_osteps {r : Reach} {b0 : Nat} {v : Value} {d : DataW H} {ps : List MemPlace} (hval : Value.okWide Try.prog w r b0 22 v) (hd : DataW.Trod enc Try.prog w base spare held 22 v d ps) :
    ∃ (A : Option Addr) (n c : Nat) (L : List Step), v = .slice A n c ∧ L.length = n ∧ (∀ s ∈ L, StOk s) ∧ RD w (fun _ => True) 7 A n (L.flatMap stepV) := by
  obtain ⟨A, n, c, L, rfl, h1, h2, h3, h4, h5⟩ := openG_rows stepV 7 StOk stepV_len (by omega) Try.underlying22 (by kernel_rfl) (fun _ _ _ h => trod_ost h) hval hd
  exact ⟨A, n, c, L, rfl, h3, h4, h5⟩
end
end Go.Proofs.Ytgigcjhggpknnaa
