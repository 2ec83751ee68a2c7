/- The contract of the document's Same, of two lists that are one. -/
import Derived.Test.YtcdbblmoimmniaaI
import Derived.WalkKit
import Derived.WalkSpells
import Derived.BigQuiet
import Derived.Deep.QuietTactic
import Derived.LoopTactic
namespace Go.Proofs.Ytcdbblmoimmniaa
open Go.RowKit

def DrewPost (v : Value) (w : World) (e : Ending) (w' : World) : Prop := e = .returned v ∧ Drew w w'
set_option maxHeartbeats 1000000 in
theorem c_same {w : World} {pl pl' : Nat → Prop} {A B : Option Addr} {c d : Nat} {zs : List Int} (hA : RD w pl 1 A zs.length (zs.map (Value.int .i64))) (hB : RD w pl' 1 B zs.length (zs.map (Value.int .i64))) (hz : zs.length ≤ 100000) :
    Calls Try.prog 11 #[.slice A zs.length c, .slice B zs.length d] w (DrewPost (.bool true) w) := by
  have hne : ((zs.length : Int) != zs.length) = false := by simp
  go_enter Try.func11, Try.ntmps11
  go_wp2
  go_loopw [5] (fun i wr => ∃ k : Nat, k ≤ zs.length ∧ i = .int .i64 k ∧ Drew w wr) (fun i _ => zs.length - (intOf i).toNat)
  case atStart => exact ⟨0, Nat.zero_le _, rfl, Drew.refl _⟩
  case round =>
    obtain ⟨k, hk, rfl, n, rfl⟩ := hrel
    by_cases hlt : k < zs.length
    · obtain ⟨bA, oA, rfl, _, _, hcA⟩ := hA.at_ (by omega)
      obtain ⟨bB, oB, rfl, _, _, hcB⟩ := hB.at_ (by omega)
      have h1 := hcA k (.int .i64 zs[k]) (by simp [hlt])
      have h2 := hcB k (.int .i64 zs[k]) (by simp [hlt])
      have hk0 : (0 : Int) ≤ k := by omega
      have hk1 : (k : Int) < zs.length := by omega
      have hn2 : (zs[k] != zs[k]) = false := by simp
      clear hcA hcB hA hB
      generalize zs[k] = z at h1 h2 hn2
      go_wp2_with fail
      go_quiet (fail)
      go_wp2
      go_roundw
      case rel => exact ⟨k + 1, by omega, by go_num, _, rfl⟩
      case measure => simp [intOf]; omega
    · obtain rfl : k = zs.length := by omega
      go_wp2
      go_ret
      exact ⟨rfl, _, rfl⟩
end Go.Proofs.Ytcdbblmoimmniaa
