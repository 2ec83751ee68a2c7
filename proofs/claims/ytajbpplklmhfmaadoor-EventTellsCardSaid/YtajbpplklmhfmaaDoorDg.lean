/- The document's Digits (layer 1's helper), of any number from 0 on. -/
import Derived.Test.YtajbpplklmhfmaaDoorRows
import Derived.Test.YtajbpplklmhfmaaDoorK
import Derived.Test.YtajbpplklmhfmaaDoorDm
import Derived.WalkKit
import Derived.WalkSpells
import Derived.WalkLawsBesides
import Derived.BigQuiet
import Derived.Deep.QuietTactic
import Derived.Lib.Hide
import Derived.Lib.Strings
import Derived.IntWalk
namespace Go.Proofs.YtajbpplklmhfmaaDoor
open Go.RowKit

set_option maxHeartbeats 400000 in
theorem c_digitsN (n : Nat) (hn : n ≤ 9223372036854775807) (w : World) :
    Calls Tryd.prog 23 #[.int .i64 n] w fun e w' => e = .returned (.string ⟨(Lib.decDigits n).toArray⟩) ∧ Below w.heap.size w w' := by
  have kc := fun (W : World) (v : Int) => conv_byte1 (P := Tryd.prog) 68 9 5 Tryd.underlying68 Tryd.underlying5 Tryd.underlying9 W v 1
  have hlen : (Lib.decDigits n).length ≤ 19 := dg_len 18 n (by omega)
  go_enter Tryd.func23, Tryd.ntmps23
  go_wp2
  go_loopw [0, 3] (fun a s wr => ∃ (m : Nat) (acc : List UInt8), m ≤ 9223372036854775807 ∧ Lib.decDigits m ++ acc = Lib.decDigits n ∧ a = .int .i64 m ∧ s = .string ⟨acc.toArray⟩ ∧ Below w.heap.size w wr) (fun a _ _ => (intOf a).toNat)
  case atStart => exact ⟨n, [], hn, by simp, rfl, rfl, Below.refl _ _⟩
  case round =>
    obtain ⟨m, acc, hm, hacc, rfl, rfl, hb⟩ := hrel
    have hl : acc.length ≤ 19 := by
      have e := congrArg List.length hacc
      rw [List.length_append] at e
      omega
    have H := Lib.hid hacc
    clear hacc
    by_cases h9 : 9 < m
    · go_wp2
      go_roundw
      case rel =>
        refine ⟨m / 10, UInt8.ofNat (48 + m % 10) :: acc, by omega, by rw [dg_step m h9]; exact H.out, by go_num, ?_, hb.alloc hb.size _⟩
        rw [bytes_push]
        simp [UInt8.ofNat_add]
      case measure => simp [intOf]; omega
    · go_wp2
      go_ret
      refine ⟨ret_str ?_, hb.alloc hb.size _⟩
      rw [← H.out, ← dg_last m h9, bytes_push]
      simp [UInt8.ofNat_add]
end Go.Proofs.YtajbpplklmhfmaaDoor
