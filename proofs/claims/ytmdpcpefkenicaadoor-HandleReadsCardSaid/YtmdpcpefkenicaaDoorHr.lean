/- The contracts of reading a number sign by sign into memory, and of reading a handle so. -/
import Derived.Test.YtmdpcpefkenicaaDoorHq
import Derived.Outline
namespace Go.Proofs.YtmdpcpefkenicaaDoor
open Go.RowKit

theorem takeB_no (v r : Int) (b : Bool) (h : r < 48 ∨ 57 < r ∨ (b = true ∧ v = 0)) (c : UInt8) (hc : r = c.toNat) : takeB v b c = false := by
  unfold takeB isDig
  rcases h with h | h | ⟨rfl, rfl⟩
  · rw [decide_eq_false (by omega)]; rfl
  · rw [decide_eq_false (by omega)]; rfl
  · simp
theorem takeB_of (v r : Int) (b : Bool) (h0 : 48 ≤ r) (h1 : r ≤ 57) (h : b = false ∨ v ≠ 0) (c : UInt8) (hc : r = c.toNat) : takeB v b c = true := by
  unfold takeB isDig
  rw [decide_eq_true (by omega)]
  rcases h with rfl | h
  · simp
  · have : (v == 0) = false := beq_eq_false_iff_ne.2 h
    rw [this]
    simp

set_option maxHeartbeats 400000 in
theorem c_take_no (B o : Nat) (v r : Int) (bg : Bool) (w : World) (h : r < 48 ∨ 57 < r ∨ (bg = true ∧ v = 0)) (h0 : w.cell? ⟨B, o, none⟩ = some (.int .i64 v)) (h1 : w.cell? ⟨B, o + 1, none⟩ = some (.bool bg)) :
    Calls Tryd.prog 24 #[.pointer (some ⟨B, o, none⟩), .int .i32 r] w fun e w' => e = .returned (.bool false) ∧ w = w' := by
  rcases h with h | h | ⟨rfl, rfl⟩
  · go_enter Tryd.func24, Tryd.ntmps24
    go_wp2
    go_ret
    exact ⟨rfl, rfl⟩
  · have h2 : 48 ≤ r := by omega
    go_enter Tryd.func24, Tryd.ntmps24
    go_wp2
    go_ret
    exact ⟨rfl, rfl⟩
  · by_cases ha : 48 ≤ r
    · by_cases hb : r ≤ 57
      · go_enter Tryd.func24, Tryd.ntmps24
        go_wp2
        go_ret
        exact ⟨rfl, rfl⟩
      · go_enter Tryd.func24, Tryd.ntmps24
        go_wp2
        go_ret
        exact ⟨rfl, rfl⟩
    · go_enter Tryd.func24, Tryd.ntmps24
      go_wp2
      go_ret
      exact ⟨rfl, rfl⟩

set_option maxHeartbeats 400000 in
theorem c_take (B o : Nat) (v r : Int) (bg : Bool) (w : World) (ha : 48 ≤ r) (hb : r ≤ 57) (hv : 0 ≤ v) (hv2 : v ≤ 65536) (h : bg = false ∨ v ≠ 0) (h0 : w.cell? ⟨B, o, none⟩ = some (.int .i64 v)) (h1 : w.cell? ⟨B, o + 1, none⟩ = some (.bool bg))
    (f0 : w.frozen? ⟨B, o, none⟩ = false) (f1 : w.frozen? ⟨B, o + 1, none⟩ = false) :
    Calls Tryd.prog 24 #[.pointer (some ⟨B, o, none⟩), .int .i32 r] w fun e w' => e = .returned (.bool true) ∧ (w.setCell ⟨B, o + 1, none⟩ (.bool true)).setCell ⟨B, o, none⟩ (.int .i64 (min (10 * v + (r - 48)) 65536)) = w' := by
  rcases h with rfl | h
  · go_enter Tryd.func24, Tryd.ntmps24
    go_wp2
    go_ret
    exact ⟨rfl, rfl⟩
  · have hz : (v == 0) = false := beq_eq_false_iff_ne.2 h
    clear h
    cases bg
    all_goals
      go_enter Tryd.func24, Tryd.ntmps24
      go_wp2
      go_ret
      exact ⟨rfl, rfl⟩
end Go.Proofs.YtmdpcpefkenicaaDoor
