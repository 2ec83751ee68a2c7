/- The contract of package bitset's Len. -/
import Derived.Test.YtibhaiciameklaaDoorBxa
import Derived.Test.YtibhaiciameklaaDoorBco
import Derived.Test.YtibhaiciameklaaDoorI
namespace Go.Proofs.YtibhaiciameklaaDoor
open Go.RowKit

set_option maxHeartbeats 1000000 in
theorem c_len (s : S4) (w : World) :
    Calls Tryd.prog 31 #[s.val] w fun e w' => e = .returned (.int .i64 s.len) ∧ Below w.heap.size w w' := by
  have hb0 := up_alloc w (.cells s.cs.toArray 34)
  go_enter Tryd.func31, Tryd.ntmps31
  go_wp2
  go_loop [3, 7] (fun m i => ∃ k : Nat, k ≤ 4 ∧ i = .int .i64 k ∧ m = .int .i64 (upTo s k).length) (fun _ i => 4 - (intOf i).toNat)
  case atStart => exact ⟨0, Nat.zero_le _, rfl, rfl⟩
  case round =>
    obtain ⟨k, hk, rfl, rfl⟩ := hrel
    by_cases hlt : k < 4
    · have ix := ix_w s k hlt
      have hu := upTo_le s k
      have hc := cnt_le 64 (s.w k).toNat
      have hl := w_lt s k
      have HN := Lib.hid (upTo_len s k)
      generalize (s.w k).toNat = n at ix hc hl HN
      generalize (upTo s k).length = m at hu HN
      go_wp2_with (first | (go_at_call 55; refine (c_ones n hl _).mono ?_; rintro e w' ⟨rfl, rfl⟩))
      go_round
      case rel => exact ⟨k + 1, by omega, by go_num, by rw [HN.out]; go_num⟩
      case measure => simp [intOf]; omega
    · obtain rfl : k = 4 := by omega
      go_wp2
      go_ret
      exact ⟨rfl, hb0⟩
end Go.Proofs.YtibhaiciameklaaDoor
