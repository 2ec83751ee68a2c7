/- slices.Index and slices.Contains of ints. -/
import Derived.Test.YtcdbblmoimmniaaI
import Derived.Test.YtcdbblmoimmniaaLa
import Derived.LoopTactic
namespace Go.Proofs.Ytcdbblmoimmniaa
open Go.RowKit

set_option maxHeartbeats 1000000 in
theorem c_index {w : World} {pl : Nat → Prop} {A : Option Addr} {n c : Nat} {L : List Int} (hR : RD w pl 1 A n (L.map (Value.int .i64))) (hl : L.length = n) (hn : n ≤ 100000) (p : Int) :
    Calls Try.prog 32 #[.slice A n c, .int .i64 p] w fun e w' => e = .returned (.int .i64 (ixL L p)) ∧ w = w' := by
  have HR := Lib.hid hR
  have HL := Lib.hid hl
  clear hR hl
  go_enter Try.func32, Try.ntmps32
  go_wp2
  go_loop [8] (fun i => ∃ k : Nat, k ≤ n ∧ i = .int .i64 k ∧ ∀ j (hj : j < L.length), j < k → L[j] ≠ p) (fun i => n - (intOf i).toNat)
  case atStart => exact ⟨0, Nat.zero_le _, rfl, fun j _ h => absurd h (by omega)⟩
  case round =>
    obtain ⟨k, hk, rfl, hF⟩ := hrel
    have HF := Lib.hid hF
    clear hF
    by_cases hlt : k < n
    · have hkL : k < L.length := by rw [HL.out]; exact hlt
      obtain ⟨b, o, rfl, _, _, hc⟩ := HR.out.at_ (by omega)
      have h1 := hc k (.int .i64 L[k]) (by simp [hkL])
      clear hc
      obtain ⟨z, hz⟩ : ∃ z, z = L[k] := ⟨_, rfl⟩
      rw [← hz] at h1
      have HZ := Lib.hid hz
      clear hz
      cases he : (p == z)
      · have HE := Lib.hid he
        go_wp2
        go_round
        case rel => exact ⟨k + 1, by omega, by go_num, fun j hj hjk e => by
          rcases Nat.lt_succ_iff_lt_or_eq.1 hjk with h | rfl
          · exact HF.out j hj h e
          · rw [← HZ.out] at e
            rw [e] at HE
            have := HE.out
            simp at this⟩
        case measure => simp [intOf]; omega
      · have HQ := Lib.hid (show ixL L p = k by
          have e : p = z := by simpa using he
          have e1 : ixN L p = k := ixN_of k hkL (by rw [← HZ.out, e]) fun i hi => HF.out i (by omega) hi
          unfold ixL
          rw [e1, if_pos hkL])
        go_wp2
        go_ret
        exact ⟨ret_int HQ.out.symm, rfl⟩
    · have HQ := Lib.hid (show ixL L p = -1 from ixL_no fun hm => by
        obtain ⟨j, hj, e⟩ := List.getElem_of_mem hm
        exact HF.out j hj (by have := HL.out; omega) e)
      obtain rfl : k = n := by omega
      go_wp2
      go_ret
      exact ⟨ret_int HQ.out.symm, rfl⟩

set_option maxHeartbeats 400000 in
theorem c_contains {w : World} {pl : Nat → Prop} {A : Option Addr} {n c : Nat} {L : List Int} (hR : RD w pl 1 A n (L.map (Value.int .i64))) (hl : L.length = n) (hn : n ≤ 100000) (p : Int) :
    Calls Try.prog 24 #[.slice A n c, .int .i64 p] w fun e w' => e = .returned (.bool (decide (p ∈ L))) ∧ w = w' := by
  have C := Lib.hid (c_index (c := c) hR hl hn p)
  have HG := Lib.hid (ixL_geq (L := L) (p := p))
  clear hR hl
  go_enter Try.func24, Try.ntmps24
  go_wp2_with (go_at_call 32; refine C.out.mono ?_; rintro e w' ⟨rfl, rfl⟩)
  go_ret
  exact ⟨ret_bool HG.out, rfl⟩
end Go.Proofs.Ytcdbblmoimmniaa
