/- What the rows' condition on the library's variables gives the walks, and the four laws' walks under it. -/
import Derived.Test.YtfemfimhnkdemaaDoorWy
import Derived.Test.YtfemfimhnkdemaaDoorO
import Derived.Stop.LaidErr
namespace Go.Proofs.YtfemfimhnkdemaaDoor
open Go.RowKit
theorem pow_eq : (Rows.laid_internal_strconv_uint64pow10 : DataW Unit) = Lib.tabData .u64 Lib.pow10Tab := by kernel_rfl
theorem star : "*" ++ "errors.errorString" = "*errors.errorString" := by decide
theorem err_row (u : TypeId) (h : Tryd.prog.typeName? 3 u = some "*errors.errorString") : u = 80 :=
  typeName_ptr_named (nm := "errors.errorString") (by rw [star]; kernel_rfl) (by kernel_rfl) (by decide) u (by rw [star]; exact h)
theorem env_of {W : World} (h : laidMetH Tryd.prog [("math/bits.deBruijn32tab", Rows.laid_math_bits_deBruijn32tab), ("math/bits.deBruijn64tab", Rows.laid_math_bits_deBruijn64tab), ("internal/strconv.uint64pow10", Rows.laid_internal_strconv_uint64pow10), ("strconv.ErrRange", Rows.laid_strconv_ErrRange), ("strconv.ErrSyntax", Rows.laid_strconv_ErrSyntax)] W) : EnvW W := by
  rw [MakeChecks.laidMetH_plain _ _ _ (by kernel_rfl)] at h
  have h3 := laidMet.tail (laidMet.tail h)
  have h4 := laidMet.tail h3
  rw [pow_eq] at h3
  obtain ⟨a, s, hv, _, _, _⟩ := laid_sentinel (g := 1) (ti := 48) (te := 82) (ts := 9) h4 (by kernel_rfl) (by kernel_rfl) Tryd.underlying48 err_row Tryd.underlying80 Tryd.underlying82 rfl rfl Tryd.underlying9 (by kernel_rfl) (by kernel_rfl)
  exact ⟨Lib.tabIs_of_head (g := 2) (by kernel_rfl) (by kernel_rfl) Tryd.underlying75 Tryd.underlying58 (by kernel_rfl) (by kernel_rfl) h3, _, _, hv⟩
end Go.Proofs.YtfemfimhnkdemaaDoor
