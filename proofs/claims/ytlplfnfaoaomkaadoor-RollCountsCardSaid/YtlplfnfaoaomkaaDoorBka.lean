/- The contract of the document's Add (layer 4). -/
import Derived.Test.YtlplfnfaoaomkaaDoorBko
namespace Go.Proofs.YtlplfnfaoaomkaaDoor
open Go.RowKit

set_option maxHeartbeats 1000000 in
theorem c_radd {w : World} {pl : Nat → Prop} {A : Option Addr} {c : Nat} {L : List Int} (h : RD w pl 1 A L.length (L.map (Value.int .i64))) (hlen : L.length ≤ 400) (x : Int) :
    Calls Tryd.prog 31 #[.slice A L.length c, .int .i64 x] w (IntsPost w (ofL (L ++ [x]))) := by
  have HL := Lib.hid (show L.length + 1 = (L ++ [x]).length by simp)
  have HM := Lib.hid (show (L ++ [x]).map (Value.int .i64) = L.map (Value.int .i64) ++ [.int .i64 x] by simp)
  generalize L ++ [x] = M at HL HM
  have HX := Lib.hid (int_cells .i64 L)
  generalize L.map (Value.int .i64) = xs at h HM HX
  generalize L.length = n at h hlen HL
  go_enter Tryd.func31, Tryd.ntmps31
  go_wp2_with (first
    | (at_builtin; refine wpList_app ei_int rfl (.const (.slice none 0 0)) (.tmp 5) rfl (.slice none 0 0) [] rfl (World.ownsRow_nil _ w.heap.size _ _) rfl h HX.out (by omega) (Nat.le_refl _) ?_; intro v' w2 hown hb2; simp only [Nat.zero_add, List.nil_append] at hown; have hz2 := hb2.size)
    | (at_builtin; refine wpList_app ei_int rfl (.tmp 6) (.tmp 8) rfl _ _ rfl (hown.alloc _) rfl (RD.one (by simp)) (by simp [Value.oneCell']) (by omega) (by simp; omega) ?_; intro v'' w3 hown3 hb3; obtain ⟨A3, c3, rfl, hn3, hc3, hr3⟩ := own_slice hown3)
    | (go_at_call 24; refine Calls.mono (c_rof' M HL.out (by rw [HM.out]; exact hr3) (by omega)) ?_; rintro e w4 ⟨A4, c4, rfl, h41, h42, h43, h44⟩))
  go_ret
  exact ⟨A4, c4, rfl, h41, h42, h43.lo fun b hb => by have := hb3.size; simp at this; omega, ((hb2.trans ((up_alloc _ _).mono hz2)).trans (hb3.mono (Nat.le_refl _))).trans (h44.mono (by have := hb3.size; simp at this; omega))⟩
end Go.Proofs.YtlplfnfaoaomkaaDoor
