/- The contract of the document's Drop (layer 4). -/
import Derived.Test.YtlplfnfaoaomkaaDoorBk
namespace Go.Proofs.YtlplfnfaoaomkaaDoor
open Go.RowKit

set_option maxHeartbeats 1000000 in
theorem c_rdrop {w : World} {pl : Nat → Prop} {A : Option Addr} {c : Nat} {L : List Int} (h0 : RD w pl 1 A L.length (L.map (Value.int .i64))) (hlen : L.length ≤ 1000) (x : Int) :
    Calls Tryd.prog 33 #[.slice A L.length c, .int .i64 x] w (IntsPost w (L.filter fun y => y != x)) := by
  go_enter Tryd.func33, Tryd.ntmps33
  go_wp2
  go_loopw [5, 6] (fun v i wr => ∃ k : Nat, k ≤ L.length ∧ i = .int .i64 k ∧ wr.ownsRow w.heap.size 3 1 v ((L.take k).filter (fun y : Int => y != x)).length (((L.take k).filter (fun y : Int => y != x)).map (Value.int .i64)) ∧ Below w.heap.size w wr) (fun _ i _ => L.length - (intOf i).toNat)
  case atStart => exact ⟨0, Nat.zero_le _, rfl, World.ownsRow_nil _ _ _ _, Below.refl _ _⟩
  case round =>
    obtain ⟨k, hk, rfl, hown, hb⟩ := hrel
    have h := h0.below hb
    have hsz := hb.size
    have hlk : ((L.take k).filter (fun y : Int => y != x)).length ≤ 1000 := by
      have := List.length_filter_le (fun y : Int => y != x) (L.take k)
      rw [List.length_take] at this
      omega
    by_cases hlt : k < L.length
    · obtain ⟨bA, oA, rfl, _, _, hcA⟩ := h.at_ (by omega)
      have h1 := hcA k (.int .i64 L[k]) (by simp [hlt])
      have hn := take_next L k L[k] (List.getElem?_eq_getElem hlt)
      clear h hcA h0
      generalize L[k] = y at h1 hn
      by_cases hy : y ≠ x
      · have hb1 : (y != x) = true := by simpa using hy
        have HN := Lib.hid (show (L.take (k + 1)).filter (fun y : Int => y != x) = (L.take k).filter (fun y : Int => y != x) ++ [y] by rw [hn, List.filter_append]; simp [hb1])
        clear hn hy
        go_wp2_with (first | (at_builtin; refine wpList_app ei_int rfl (.tmp 19) (.tmp 24) rfl _ _ rfl (hown.alloc _) rfl (RD.one (by simp)) (by simp [Value.oneCell']) (by omega) (by simp; omega) ?_; intro v' w2 hown1 hb1))
        go_roundw
        case rel => exact ⟨k + 1, by omega, by go_num, by rw [HN.out, List.map_append, List.length_append]; exact hown1, (up_trans hb (up_alloc _ _)).trans hb1⟩
        case measure => simp [intOf]; omega
      · have hb1 : (y != x) = false := by simpa using hy
        have HN := Lib.hid (show (L.take (k + 1)).filter (fun y : Int => y != x) = (L.take k).filter (fun y : Int => y != x) by rw [hn, List.filter_append]; simp [hb1])
        clear hn hy
        go_wp2
        go_roundw
        case rel => exact ⟨k + 1, by omega, by go_num, by rw [HN.out]; exact hown, hb⟩
        case measure => simp [intOf]; omega
    · obtain rfl : k = L.length := by omega
      rw [List.take_length] at hown
      clear h h0
      go_wp2
      go_ret
      exact IntsPost.of hown hb
end Go.Proofs.YtlplfnfaoaomkaaDoor
