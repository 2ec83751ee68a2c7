/- The library's table, out of a row's laid premise. -/
import Derived.Test.YtlfglibepldjpaaDoorBxa
import Derived.Stop.LaidErr
import Derived.Test.YtlfglibepldjpaaDoorO
namespace Go.Proofs.YtlfglibepldjpaaDoor
open Go.RowKit

theorem tab_eq : (Rows.laid_math_bits_deBruijn64tab : DataW Unit) = Lib.tabData .u8 (Lib.deBruijn64tab.map fun n : Nat => (n : Int)) := by kernel_rfl
theorem tab_of {W : World} (h : laidMetH Tryd.prog [("math/bits.deBruijn64tab", Rows.laid_math_bits_deBruijn64tab)] W) : TabD W := by
  rw [MakeChecks.laidMetH_plain _ _ _ (by kernel_rfl)] at h
  rw [tab_eq] at h
  have := Lib.tabIs_of_head (g := 0) (by kernel_rfl) (by kernel_rfl) Tryd.underlying148 Tryd.underlying5 (by kernel_rfl) (by kernel_rfl) h
  intro j hj
  unfold Lib.TabIs World.var? at this
  rw [show Tryd.prog.globalNamed "math/bits.deBruijn64tab" = some 0 by kernel_rfl] at this
  simp only [Option.bind_some] at this
  split at this
  · next cs t r hh =>
    obtain rfl := Option.some.inj this
    have hl : Lib.deBruijn64tab.length = 64 := rfl
    have hg : (Lib.deBruijn64tab.map fun n : Nat => Value.int .u8 (n : Int))[j]? = some (.int .u8 (Lib.deBruijn64tab.getD j 0)) := by
      rw [List.getElem?_map, List.getElem?_eq_getElem (by omega)]
      simp [List.getD, hl, hj]
    simp only [World.cell?, hh, List.map_map]
    simpa [Function.comp_def] using hg
  · cases this
end Go.Proofs.YtlfglibepldjpaaDoor
