/- The contract of package phase's Goes: each gives the plain function's value and leaves memory as it was. -/
import Derived.Test.YteckflbnfpmnkaaRows
import Derived.Test.YteckflbnfpmnkaaK
import Derived.Test.YteckflbnfpmnkaaPha
import Derived.Test.YteckflbnfpmnkaaPhb
import Derived.WalkKit
import Derived.WalkSpells
import Derived.WalkLawsBesides
import Derived.BigQuiet
import Derived.Deep.QuietTactic
import Derived.Lib.Hide
import Derived.IntWalk
import Derived.LoopTactic
namespace Go.Proofs.Yteckflbnfpmnkaa
open Go.RowKit

set_option maxHeartbeats 800000 in
theorem c_phgoes (n l m : Int) (w : World) :
    Calls Try.prog 13 #[.int .i64 n, .int .i64 l, .int .i64 m] w fun e w' => e = .returned (.tuple #[.int .i64 (phV n l m), .int .i64 (phC n l m)]) ∧ w = w' := by
  cases hf : phFine n l
  · rw [phV_no m hf, phC_no m hf]
    have HF := Lib.hid hf
    clear hf
    go_enter Try.func13, Try.ntmps13
    go_wp2_with (go_at_call 8; refine (c_phfine _ _ _).mono ?_; rintro e w' ⟨rfl, rfl⟩; rw [HF.out])
    go_ret2
    exact ⟨rfl, rfl⟩
  · have HV := Lib.hid (phV_of m hf)
    have HC := Lib.hid (phC_of m hf)
    obtain ⟨h0, h1, h2, h3⟩ := (phFine_iff n l).1 hf
    have HF := Lib.hid hf
    clear hf
    go_enter Try.func13, Try.ntmps13
    go_wp2_with (go_at_call 8; refine (c_phfine _ _ _).mono ?_; rintro e w' ⟨rfl, rfl⟩; rw [HF.out])
    go_loop [0, 16] (fun a i => ∃ (k : Nat) (q : Int), i = .int .i64 k ∧ a = .int .i64 q ∧ n + k = q ∧ q ≤ l ∧ (k = 0 ∨ (k : Int) ≤ m)) (fun _ i => (l - n).toNat + 1 - (intOf i).toNat)
    case atStart => exact ⟨0, n, rfl, rfl, by omega, h3, .inl rfl⟩
    case round =>
      obtain ⟨k, q, rfl, rfl, hq, hql, hkm⟩ := hrel
      have hf' : phFine q l = true := (phFine_iff q l).2 ⟨h0, h1, by omega, hql⟩
      by_cases hlt : (k : Int) < m
      · by_cases he : q = l
        · have C := Lib.hid (fun W => c_phnext q l W)
          rw [phNext_end hf' he, phErr_end hf' he] at C
          have HE := Lib.hid he
          clear hf' he
          go_wp2_with (go_at_call 6; refine (C.out _).mono ?_; rintro e w' ⟨rfl, rfl⟩)
          go_ret2
          have he := HE.out
          exact ⟨ret_int2 (by rw [HV.out]; omega) (by rw [HC.out]; omega), rfl⟩
        · have C := Lib.hid (fun W => c_phnext q l W)
          rw [phNext_on hf' he, phErr_on hf' he] at C
          have HE := Lib.hid he
          clear hf' he
          go_wp2_with (go_at_call 6; refine (C.out _).mono ?_; rintro e w' ⟨rfl, rfl⟩)
          go_round
          case rel => exact ⟨k + 1, q + 1, by go_num, rfl, by omega, (by have := HE.out; omega), .inr (by omega)⟩
          case measure => simp [intOf]; omega
      · clear hf'
        go_wp2
        all_goals
          go_ret2
          exact ⟨ret_int2 (by rw [HV.out]; omega) (by rw [HC.out]; omega), rfl⟩

end Go.Proofs.Yteckflbnfpmnkaa
