/- The contract of the library's OnesCount64. -/
import Derived.Test.YtibhaiciameklaaDoorBxa
namespace Go.Proofs.YtibhaiciameklaaDoor
open Go.RowKit

theorem msk_85 : msk 85 8 = 6148914691236517205 := by decide
theorem msk_51 : msk 51 8 = 3689348814741910323 := by decide
theorem msk_15 : msk 15 8 = 1085102592571150095 := by decide
set_option maxHeartbeats 400000 in
theorem ones_core (n a1 a2 x1 b1 b2 x2 c1 x3 y z u r : Int) (w : World)
    (h1 : bits .and .u64 (n / 2) 6148914691236517205 = a1) (h2 : bits .and .u64 n 6148914691236517205 = a2) (h3 : IntKind.u64.wrap (a1 + a2) = x1)
    (h4 : bits .and .u64 (x1 / 4) 3689348814741910323 = b1) (h5 : bits .and .u64 x1 3689348814741910323 = b2) (h6 : IntKind.u64.wrap (b1 + b2) = x2)
    (h7 : IntKind.u64.wrap (x2 / 16 + x2) = c1) (h8 : bits .and .u64 c1 1085102592571150095 = x3)
    (h9 : IntKind.u64.wrap (x3 + x3 / 256) = y) (h10 : IntKind.u64.wrap (y + y / 65536) = z) (h11 : IntKind.u64.wrap (z + z / 4294967296) = u) (h12 : bits .and .i64 (wrap64 u) 127 = r) :
    Calls Tryd.prog 55 #[.int .u64 n] w fun e w' => e = .returned (.int .i64 r) ∧ w = w' := by
  go_enter Tryd.func55, Tryd.ntmps55
  go_wp2
  go_ret
  exact ⟨rfl, rfl⟩
theorem wrap_128 (u : Nat) : wrap64 (u : Int) % 128 = ((u % 128 : Nat) : Int) := by
  unfold wrap64
  omega
theorem c_ones (n : Nat) (hn : n < 18446744073709551616) (w : World) :
    Calls Tryd.prog 55 #[.int .u64 n] w fun e w' => e = .returned (.int .i64 (cntN 64 n)) ∧ w = w' := by
  obtain ⟨f1, f2, f3, f4⟩ := ones_fold n _ _ _ rfl rfl rfl
  have e1 : st1 8 n = (n / 2 &&& 6148914691236517205) + (n &&& 6148914691236517205) := by unfold st1; rw [msk_85]
  have e2 : st2 8 (st1 8 n) = (st1 8 n / 4 &&& 3689348814741910323) + (st1 8 n &&& 3689348814741910323) := by unfold st2; rw [msk_51]
  have e3 : st3 8 (st2 8 (st1 8 n)) = (st2 8 (st1 8 n) / 16 + st2 8 (st1 8 n)) &&& 1085102592571150095 := by unfold st3; rw [msk_15]
  generalize st3 8 (st2 8 (st1 8 n)) = x3 at f1 f2 f3 f4 e3
  generalize st2 8 (st1 8 n) = x2 at e2 e3
  generalize st1 8 n = x1 at e1 e2
  have l1 : n / 2 &&& 6148914691236517205 ≤ 6148914691236517205 := Nat.and_le_right
  have l2 : n &&& 6148914691236517205 ≤ 6148914691236517205 := Nat.and_le_right
  have l3 : x1 / 4 &&& 3689348814741910323 ≤ 3689348814741910323 := Nat.and_le_right
  have l4 : x1 &&& 3689348814741910323 ≤ 3689348814741910323 := Nat.and_le_right
  rw [← f1]
  refine ones_core n ((n / 2 &&& 6148914691236517205 : Nat) : Int) ((n &&& 6148914691236517205 : Nat) : Int) x1 ((x1 / 4 &&& 3689348814741910323 : Nat) : Int) ((x1 &&& 3689348814741910323 : Nat) : Int) x2 ((x2 / 16 + x2 : Nat) : Int) x3 (x3 + x3 / 256 : Nat) (x3 + x3 / 256 + (x3 + x3 / 256) / 65536 : Nat) (x3 + x3 / 256 + (x3 + x3 / 256) / 65536 + (x3 + x3 / 256 + (x3 + x3 / 256) / 65536) / 4294967296 : Nat) _ w ?_ ?_ ?_ ?_ ?_ ?_ ?_ ?_ ?_ ?_ ?_ ?_
  · exact and_c (n / 2) 6148914691236517205 (by omega) (by omega)
  · exact and_c n 6148914691236517205 (by omega) hn
  · rw [← Int.natCast_add, ← e1]
    exact wrap_nat x1 (by omega)
  · exact and_c (x1 / 4) 3689348814741910323 (by omega) (by omega)
  · exact and_c x1 3689348814741910323 (by omega) (by omega)
  · rw [← Int.natCast_add, ← e2]
    exact wrap_nat x2 (by omega)
  · exact wrap_nat (x2 / 16 + x2) (by omega)
  · rw [e3]
    exact and_c (x2 / 16 + x2) 1085102592571150095 (by omega) (by omega)
  · exact wrap_nat (x3 + x3 / 256) f2
  · exact wrap_nat (x3 + x3 / 256 + (x3 + x3 / 256) / 65536) f3
  · exact wrap_nat _ f4
  · rw [i64_and127]
    exact wrap_128 _
end Go.Proofs.YtibhaiciameklaaDoor
