/- The contracts of the document's Digits, and of its text of a word. -/
import Derived.Test.YtdcaiecgholgiaaDoorRows
import Derived.Test.YtdcaiecgholgiaaDoorK
import Derived.Test.YtdcaiecgholgiaaDoorDm
import Derived.WalkKit
import Derived.WalkSpells
import Derived.WalkLawsBesides
import Derived.BigQuiet
import Derived.Deep.QuietTactic
import Derived.Lib.Hide
import Derived.Test.YtdcaiecgholgiaaDoorIt
import Derived.Test.YtdcaiecgholgiaaDoorWf
import Derived.Lib.Strings
import Derived.IntWalk
namespace Go.Proofs.YtdcaiecgholgiaaDoor
open Go.RowKit

set_option maxHeartbeats 400000 in
theorem c_digits (n : Nat) (hn : n ≤ 4294967295) (w : World) :
    Calls Tryd.prog 50 #[.int .i64 n] w fun e w' => e = .returned (.string ⟨(Lib.decDigits n).toArray⟩) ∧ Below w.heap.size w w' := by
  have kc := fun (W : World) (v : Int) => conv_byte1 (P := Tryd.prog) 61 9 5 Tryd.underlying61 Tryd.underlying5 Tryd.underlying9 W v 1
  have hlen := dg_len10 n hn
  go_enter Tryd.func50, Tryd.ntmps50
  go_wp2
  go_loopw [0, 3] (fun a s wr => ∃ (m : Nat) (acc : List UInt8), m ≤ 4294967295 ∧ Lib.decDigits m ++ acc = Lib.decDigits n ∧ a = .int .i64 m ∧ s = .string ⟨acc.toArray⟩ ∧ Below w.heap.size w wr) (fun a _ _ => (intOf a).toNat)
  case atStart => exact ⟨n, [], hn, by simp, rfl, rfl, Below.refl _ _⟩
  case round =>
    obtain ⟨m, acc, hm, hacc, rfl, rfl, hb⟩ := hrel
    have hl : acc.length ≤ 10 := by
      have e := congrArg List.length hacc
      rw [List.length_append] at e
      omega
    have H := Lib.hid hacc
    clear hacc
    by_cases h9 : 9 < m
    · go_wp2
      go_roundw
      case rel =>
        refine ⟨m / 10, UInt8.ofNat (48 + m % 10) :: acc, by omega, by rw [dg_step m h9]; exact H.out, by go_num, ?_, hb.alloc hb.size _⟩
        rw [bytes_push]
        simp [UInt8.ofNat_add]
      case measure => simp [intOf]; omega
    · go_wp2
      go_ret
      refine ⟨ret_str ?_, hb.alloc hb.size _⟩
      rw [← H.out, ← dg_last m h9, bytes_push]
      simp [UInt8.ofNat_add]

def oneE (a : Int) : Int := if fineW a = true then 0 else 8
theorem oneE_of (a : Int) (h : fineW a = true) : oneE a = 0 := if_pos h
theorem oneE_no (a : Int) (h : fineW a = false) : oneE a = 8 := if_neg (by rw [h]; decide)
def textW (n : Int) : List UInt8 := if fineW n = true then Lib.itoa n else []
theorem textW_of (n : Int) (h : fineW n = true) : textW n = Lib.itoa n := if_pos h
theorem textW_no (n : Int) (h : fineW n = false) : textW n = [] := if_neg (by rw [h]; decide)

theorem c_digitsZ (n : Int) (h0 : 0 ≤ n) (h1 : n ≤ 4294967295) (w : World) :
    Calls Tryd.prog 50 #[.int .i64 n] w fun e w' => e = .returned (.string ⟨(Lib.decDigits n.toNat).toArray⟩) ∧ Below w.heap.size w w' := by
  obtain ⟨m, rfl⟩ := Int.eq_ofNat_of_zero_le h0
  exact c_digits m (by omega) w

set_option maxHeartbeats 400000 in
theorem c_vtext (n : Int) (w : World) :
    Calls Tryd.prog 45 #[.int .i64 n] w fun e w' => e = .returned (.tuple #[.string ⟨(textW n).toArray⟩, .int .i64 (oneE n)]) ∧ Below w.heap.size w w' := by
  cases hf : fineW n
  · rw [textW_no n hf, oneE_no n hf]
    go_enter Tryd.func45, Tryd.ntmps45
    go_wp2_with (go_at_call 29; refine (c_vfine _ _).mono ?_; rintro e w' ⟨rfl, rfl⟩)
    go_ret2
    exact ⟨rfl, Below.refl _ _⟩
  · rw [textW_of n hf, oneE_of n hf]
    obtain ⟨h0, h1⟩ := (fineW_iff n).1 hf
    by_cases hn : n < 0
    · rw [itoa_neg n hn]
      have hl := dg_len10 (-n).toNat (by omega)
      go_enter Tryd.func45, Tryd.ntmps45
      go_wp2_with (first | (go_at_call 29; refine (c_vfine _ _).mono ?_; rintro e w' ⟨rfl, rfl⟩) | (go_at_call 50; refine (c_digitsZ _ (by omega) (by omega) _).mono ?_; rintro e w1 ⟨rfl, hb1⟩))
      go_ret2
      exact ⟨ret_str2 (bytes_push _ _) rfl, hb1⟩
    · rw [itoa_pos n (by omega)]
      go_enter Tryd.func45, Tryd.ntmps45
      go_wp2_with (first | (go_at_call 29; refine (c_vfine _ _).mono ?_; rintro e w' ⟨rfl, rfl⟩) | (go_at_call 50; refine (c_digitsZ _ (by omega) (by omega) _).mono ?_; rintro e w1 ⟨rfl, hb1⟩))
      go_ret2
      exact ⟨rfl, hb1⟩
end Go.Proofs.YtdcaiecgholgiaaDoor
