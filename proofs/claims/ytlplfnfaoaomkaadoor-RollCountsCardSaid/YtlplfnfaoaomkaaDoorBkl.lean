/- The contract of the document's Less (layer 4). -/
import Derived.Test.YtlplfnfaoaomkaaDoorBk
namespace Go.Proofs.YtlplfnfaoaomkaaDoor
open Go.RowKit

set_option maxHeartbeats 1000000 in
theorem c_rless {w : World} {pl : Nat → Prop} {A : Option Addr} {c : Nat} {L : List Int} (h0 : RD w pl 1 A L.length (L.map (Value.int .i64))) (hlen : L.length ≤ 1000) {pl2 : Nat → Prop} {A2 : Option Addr} {c2 : Nat} {M : List Int} (hM : RD w pl2 1 A2 M.length (M.map (Value.int .i64))) (hlenM : M.length ≤ 1000) :
    Calls Tryd.prog 37 #[.slice A L.length c, .slice A2 M.length c2] w (IntsPost w (L.filter fun y => !hasL M y)) := by
  go_enter Tryd.func37, Tryd.ntmps37
  go_wp2
  go_loopw [5, 6] (fun v i wr => ∃ k : Nat, k ≤ L.length ∧ i = .int .i64 k ∧ wr.ownsRow w.heap.size 3 1 v ((L.take k).filter (fun y : Int => !hasL M y)).length (((L.take k).filter (fun y : Int => !hasL M y)).map (Value.int .i64)) ∧ Below w.heap.size w wr) (fun _ i _ => L.length - (intOf i).toNat)
  case atStart => exact ⟨0, Nat.zero_le _, rfl, World.ownsRow_nil _ _ _ _, Below.refl _ _⟩
  case round =>
    obtain ⟨k, hk, rfl, hown, hb⟩ := hrel
    have h := h0.below hb
    have hsz := hb.size
    have hlk : ((L.take k).filter (fun y : Int => !hasL M y)).length ≤ 1000 := by
      have := List.length_filter_le (fun y : Int => !hasL M y) (L.take k)
      rw [List.length_take] at this
      omega
    by_cases hlt : k < L.length
    · obtain ⟨bA, oA, rfl, _, _, hcA⟩ := h.at_ (by omega)
      have h1 := hcA k (.int .i64 L[k]) (by simp [hlt])
      have hn := take_next L k L[k] (List.getElem?_eq_getElem hlt)
      have cH := c_rhas (c := c2) (hM.below hb) hlenM L[k]
      clear h hcA h0
      generalize L[k] = y at h1 hn cH
      by_cases hy : hasL M y = false
      · have hb1 := hy
        have HN := Lib.hid (show (L.take (k + 1)).filter (fun y : Int => !hasL M y) = (L.take k).filter (fun y : Int => !hasL M y) ++ [y] by rw [hn, List.filter_append]; simp [hb1])
        rw [hb1] at cH
        have CH := Lib.hid cH
        clear cH
        clear hn hy hb1
        go_wp2_with (first | (go_at_call 30; refine Calls.mono CH.out ?_; rintro e w' ⟨rfl, rfl⟩) | (at_builtin; refine wpList_app ei_int rfl (.tmp 20) (.tmp 25) rfl _ _ rfl (hown.alloc _) rfl (RD.one (by simp)) (by simp [Value.oneCell']) (by omega) (by simp; omega) ?_; intro v' w2 hown1 hb1))
        go_roundw
        case rel => exact ⟨k + 1, by omega, by go_num, by rw [HN.out, List.map_append, List.length_append]; exact hown1, (up_trans hb (up_alloc _ _)).trans hb1⟩
        case measure => simp [intOf]; omega
      · have hb1 : hasL M y = true := by simpa using hy
        have HN := Lib.hid (show (L.take (k + 1)).filter (fun y : Int => !hasL M y) = (L.take k).filter (fun y : Int => !hasL M y) by rw [hn, List.filter_append]; simp [hb1])
        rw [hb1] at cH
        have CH := Lib.hid cH
        clear cH
        clear hn hy hb1
        go_wp2_with (first | (go_at_call 30; refine Calls.mono CH.out ?_; rintro e w' ⟨rfl, rfl⟩))
        go_roundw
        case rel => exact ⟨k + 1, by omega, by go_num, by rw [HN.out]; exact hown, hb⟩
        case measure => simp [intOf]; omega
    · obtain rfl : k = L.length := by omega
      rw [List.take_length] at hown
      clear h h0
      go_wp2
      go_ret
      exact IntsPost.of hown hb
end Go.Proofs.YtlplfnfaoaomkaaDoor
