/- The contract of the document's Has (layer 4). -/
import Derived.Test.YtlplfnfaoaomkaaDoorBb
import Derived.Test.YtlplfnfaoaomkaaDoorI
import Derived.Test.YtlplfnfaoaomkaaDoorIs
namespace Go.Proofs.YtlplfnfaoaomkaaDoor
open Go.RowKit

/-- The first that is not below x, of a list. -/
theorem hasL_cons_no {L : List Int} {x : Int} (h : ∀ y ∈ L, y ≠ x) : hasL L x = false := by
  unfold hasL
  rw [decide_eq_false_iff_not]
  exact fun hx => h x hx rfl
set_option maxHeartbeats 1000000 in
theorem c_rhas {w : World} {pl : Nat → Prop} {A : Option Addr} {c : Nat} {L : List Int} (h : RD w pl 1 A L.length (L.map (Value.int .i64))) (hlen : L.length ≤ 1000) (x : Int) :
    Calls Tryd.prog 30 #[.slice A L.length c, .int .i64 x] w fun e w' => e = .returned (.bool (hasL L x)) ∧ w = w' := by
  go_enter Tryd.func30, Tryd.ntmps30
  go_wp2
  go_loop [5] (fun i => ∃ k : Nat, k ≤ L.length ∧ i = .int .i64 k ∧ Hid (∀ y ∈ L.take k, y ≠ x)) (fun i => L.length - (intOf i).toNat)
  case atStart => exact ⟨0, Nat.zero_le _, rfl, Lib.hid (by simp)⟩
  case round =>
    obtain ⟨k, hk, rfl, hno⟩ := hrel
    by_cases hlt : k < L.length
    · obtain ⟨bA, oA, rfl, _, _, hcA⟩ := h.at_ (by omega)
      have h1 := hcA k (.int .i64 L[k]) (by simp [hlt])
      have HN := Lib.hid (take_next L k L[k] (List.getElem?_eq_getElem hlt))
      have HM := Lib.hid (List.getElem_mem hlt)
      clear h hcA
      generalize L[k] = y at h1 HN HM
      by_cases hy : y = x
      · subst hy
        have hb : (y == y) = true := by simp
        have HR := Lib.hid (show hasL L y = true by unfold hasL; rw [decide_eq_true_iff]; exact HM.out)
        go_wp2
        go_ret
        exact ⟨by rw [HR.out]; rfl, rfl⟩
      · have hb : (y == x) = false := by simpa using hy
        have HY := Lib.hid hy
        clear hy
        go_wp2
        go_round
        case rel => exact ⟨k + 1, by omega, by go_num, Lib.hid (by
          rw [HN.out]
          intro z hz
          rcases List.mem_append.1 hz with hz | hz
          · exact hno.out z hz
          · rw [List.mem_singleton.1 hz]
            exact HY.out)⟩
        case measure => simp [intOf]; omega
    · obtain rfl : k = L.length := by omega
      have HR := Lib.hid (show hasL L x = false from hasL_cons_no (by have := hno.out; rwa [List.take_length] at this))
      clear h
      go_wp2
      go_ret
      exact ⟨by rw [HR.out]; rfl, rfl⟩

end Go.Proofs.YtlplfnfaoaomkaaDoor
