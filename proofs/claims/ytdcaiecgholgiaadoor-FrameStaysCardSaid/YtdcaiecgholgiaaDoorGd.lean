/- The law of frames. -/
import Derived.Test.YtdcaiecgholgiaaDoorGb
import Derived.Test.YtdcaiecgholgiaaDoorGc
import Derived.Test.YtdcaiecgholgiaaDoorGe
namespace Go.Proofs.YtdcaiecgholgiaaDoor
open Go.RowKit

theorem l_stays {f : FR} (hf : f.Ok) (at_ x : Int) (h0 : 0 ≤ at_ ∧ at_ ≤ 255) (x0 : -2147483648 ≤ x ∧ x ≤ 2147483647) (w : World) (ht : EnvT w) :
    Calls Tryd.prog 6 #[.agg f.cells.toArray, .int .u8 at_, .int .i32 x] w fun e w' => e = .returned (.bool true) ∧ Below w.heap.size w w' := by
  cases hff : fineF f
  · exact l_stays_no hf at_ x h0.1 h0.2 x0.1 x0.2 hff w ht
  · have hF := (fineF_iff f).1 hff
    by_cases hd : f.depth = 8
    · exact l_stays_19 hf at_ x h0.1 h0.2 x0.1 x0.2 hF hd w ht
    · by_cases h64 : f.pc = 64
      · exact l_stays_8 hf at_ x h0.1 h0.2 x0.1 x0.2 hF hd h64 w ht
      · have d0 := hF.d0
        have d1 := hF.d1
        exact l_stays_ok hf at_ x h0.1 h0.2 x0.1 x0.2 hF f.depth.toNat (by omega) (by omega) h64 w ht
end Go.Proofs.YtdcaiecgholgiaaDoor
