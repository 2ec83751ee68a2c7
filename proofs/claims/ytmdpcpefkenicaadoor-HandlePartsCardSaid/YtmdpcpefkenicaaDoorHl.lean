/- What the rows' condition on the library's tables gives the walks, and the four laws' walks under it. -/
import Derived.Test.YtmdpcpefkenicaaDoorHb
import Derived.Test.YtmdpcpefkenicaaDoorO
import Derived.Stop.LaidErr
namespace Go.Proofs.YtmdpcpefkenicaaDoor
open Go.RowKit
theorem pow_eq : (Rows.laid_internal_strconv_uint64pow10 : DataW Unit) = Lib.tabData .u64 Lib.pow10Tab := by kernel_rfl
theorem tab_of {W : World} (h : laidMetH Tryd.prog [("math/bits.deBruijn32tab", Rows.laid_math_bits_deBruijn32tab), ("math/bits.deBruijn64tab", Rows.laid_math_bits_deBruijn64tab), ("internal/strconv.uint64pow10", Rows.laid_internal_strconv_uint64pow10)] W) : Tab W := by
  rw [MakeChecks.laidMetH_plain _ _ _ (by kernel_rfl)] at h
  have h3 := laidMet.tail (laidMet.tail h)
  rw [pow_eq] at h3
  exact Lib.tabIs_of_head (g := 0) (by kernel_rfl) (by kernel_rfl) Tryd.underlying60 Tryd.underlying54 (by kernel_rfl) (by kernel_rfl) h3
theorem z_back (a0 a1 b0 b1 : Int) (ha0 : 0 ≤ a0 ∧ a0 ≤ 65535) (ha1 : 0 ≤ a1 ∧ a1 ≤ 65535) (hb0 : 0 ≤ b0 ∧ b0 ≤ 65535) (hb1 : 0 ≤ b1 ∧ b1 ≤ 65535) (w : World) (ht : Tab w) :
    Calls Tryd.prog 6 #[.agg ([a0, a1].map (Value.int .u16)).toArray, .agg ([b0, b1].map (Value.int .u16)).toArray] w fun e w' => e = .returned (.bool true) ∧ Below w.heap.size w w' :=
  l_back a0 a1 b0 b1 ha0.1 ha0.2 ha1.1 ha1.2 hb0.1 hb0.2 hb1.1 hb1.2 w ht
end Go.Proofs.YtmdpcpefkenicaaDoor
