/- What a row's condition on the program's table of opcodes gives: its cells. -/
import Derived.Test.YtnmcieilpomkaaaDoorPa
import Derived.Lib.LaidU8
namespace Go.Proofs.YtnmcieilpomkaaaDoor
open Go.RowKit

def rowD {H : Type} (r : KRow) : DataW H := .agg [.lit (.string r.1), .lit (.string r.2.1), .lit (.int .i64 r.2.2)]
theorem lines_eq : (Rows.laid_becket_opcode_lines : DataW Unit) = .agg (tabL.map rowD) := by kernel_rfl
theorem cells_line : Tryd.prog.cellsOf 36 = 3 := by kernel_rfl
theorem row_of {H : Type} {enc : TypeId × Value → H} {w : World} {base : Nat} {sp : Nat → Bool} {held : Bool} {fuel : Nat} {cs : List Value} {r : KRow} {p : List MemPlace}
    (h : DataW.trod enc Tryd.prog w base sp held fuel 36 cs = some (rowD r, p)) : cs[0]? = some (.string ⟨r.1.toArray⟩) ∧ cs[1]? = some (.string ⟨r.2.1.toArray⟩) ∧ cs[2]? = some (.int .i64 r.2.2) := by
  obtain ⟨xs, n, rfl, hx, hl, hxl, hall⟩ := DataW.trod_struct Tryd.underlying36 h
  obtain ⟨x0, x1, x2, rfl⟩ : ∃ x0 x1 x2, xs = [x0, x1, x2] := by
    match xs, hxl with
    | [a, b, c], _ => exact ⟨a, b, c, rfl⟩
  have h0 := hall 0 _ rfl
  have h1 := hall 1 _ rfl
  have h2 := hall 2 _ rfl
  simp only [List.getElem?_cons_zero, List.getElem?_cons_succ] at h0 h1 h2
  obtain ⟨s0, e0, rfl, _⟩ := DataW.trod_string Tryd.underlying9 h0
  obtain ⟨s1, e1, rfl, _⟩ := DataW.trod_string Tryd.underlying9 h1
  obtain ⟨z2, e2, rfl, _⟩ := DataW.trod_int Tryd.underlying3 h2
  obtain ⟨a, b, c⟩ := r
  simp [rowD] at hx
  obtain ⟨⟨rfl, rfl, rfl⟩, _⟩ := hx
  have f0 := congrArg (·[0]?) e0
  have f1 := congrArg (·[0]?) e1
  have f2 := congrArg (·[0]?) e2
  simp [List.getElem?_take, List.getElem?_drop] at f0 f1 f2
  exact ⟨f0.2, f1.2, f2.2⟩
theorem opT_of_head {W : World} {rest : List (String × DataW Unit)} (h : laidMet Tryd.prog (("becket/opcode.lines", Rows.laid_becket_opcode_lines) :: rest) W) : OpT W := by
  rw [lines_eq] at h
  obtain ⟨ps, ⟨g', t', cs, fuel, p, q, hg', ht', hvar, hd, _, _⟩, _⟩ := h
  have hg : Tryd.prog.globalNamed "becket/opcode.lines" = some 0 := by kernel_rfl
  have hty : (Tryd.prog.globals[0]?).map (·.type) = some 38 := by kernel_rfl
  obtain rfl := Option.some.inj (hg.symm.trans hg')
  obtain rfl := Option.some.inj (hty.symm.trans ht')
  intro k hk
  obtain ⟨fuel', d, q', hdi, he⟩ := Lib.array_elem Tryd.underlying38 hd k hk
  have hdk : (tabL.map (rowD (H := Unit)))[k]? = some (rowD (rowN k)) := by
    rw [List.getElem?_map]
    unfold rowN
    rw [List.getD_eq_getElem?_getD, List.getElem?_eq_getElem (by rw [tabL_len]; exact hk)]
    rfl
  rw [hdk] at hdi
  obtain rfl := Option.some.inj hdi
  rw [cells_line] at he
  obtain ⟨r0, r1, r2⟩ := row_of he
  simp only [List.getElem?_take, List.getElem?_drop] at r0 r1 r2
  refine ⟨?_, ?_, ?_⟩
  · rw [World.var?_cell hg hvar (k * 3), ← Array.getElem?_toList]
    simpa [nmN, fmN, clN] using r0
  · rw [World.var?_cell hg hvar (k * 3 + 1), ← Array.getElem?_toList]
    simpa [nmN, fmN, clN] using r1
  · rw [World.var?_cell hg hvar (k * 3 + 2), ← Array.getElem?_toList]
    simpa [nmN, fmN, clN] using r2
end Go.Proofs.YtnmcieilpomkaaaDoor
