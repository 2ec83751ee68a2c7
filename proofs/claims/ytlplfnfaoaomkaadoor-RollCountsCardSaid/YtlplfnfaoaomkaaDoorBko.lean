/- The contract of the document's Of (layer 4). -/
import Derived.Test.YtlplfnfaoaomkaaDoorBk
namespace Go.Proofs.YtlplfnfaoaomkaaDoor
open Go.RowKit

def ofK (L : List Int) (k : Nat) : List Int := ((List.range k).filter fun i : Nat => hasL L i).map fun i : Nat => (i : Int)
theorem ofK_all (L : List Int) : ofK L 256 = ofL L := rfl
theorem ofK_len (L : List Int) (k : Nat) : (ofK L k).length ≤ k := by
  unfold ofK
  rw [List.length_map]
  have := List.length_filter_le (fun i : Nat => hasL L i) (List.range k)
  simpa using this
theorem ofK_yes {L : List Int} {k : Nat} (h : hasL L k = true) : ofK L (k + 1) = ofK L k ++ [(k : Int)] := by
  unfold ofK
  rw [List.range_succ, List.filter_append, List.map_append]
  simp [h]
theorem ofK_no {L : List Int} {k : Nat} (h : hasL L k = false) : ofK L (k + 1) = ofK L k := by
  unfold ofK
  rw [List.range_succ, List.filter_append, List.map_append]
  simp [h]
set_option maxHeartbeats 1000000 in
theorem c_rof {w : World} {pl : Nat → Prop} {A : Option Addr} {c : Nat} {L : List Int} (h0 : RD w pl 1 A L.length (L.map (Value.int .i64))) (hlen : L.length ≤ 1000) :
    Calls Tryd.prog 24 #[.slice A L.length c] w (IntsPost w (ofL L)) := by
  go_enter Tryd.func24, Tryd.ntmps24
  go_wp2
  go_loopw [3, 4] (fun v i wr => ∃ k : Nat, k ≤ 256 ∧ i = .int .i64 k ∧ wr.ownsRow w.heap.size 3 1 v (ofK L k).length ((ofK L k).map (Value.int .i64)) ∧ Below w.heap.size w wr) (fun _ i _ => 256 - (intOf i).toNat)
  case atStart => exact ⟨0, Nat.zero_le _, rfl, World.ownsRow_nil _ _ _ _, Below.refl _ _⟩
  case round =>
    obtain ⟨k, hk, rfl, hown, hb⟩ := hrel
    have h := h0.below hb
    have hlk := ofK_len L k
    have hsz := hb.size
    by_cases hlt : k < 256
    · by_cases hh : hasL L k = true
      · have cH := c_rhas (c := c) h hlen k
        rw [hh] at cH
        have HN := Lib.hid (ofK_yes hh)
        have CH := Lib.hid cH
        clear h0 h hh cH
        go_wp2_with (first | (go_at_call 30; refine Calls.mono CH.out ?_; rintro e w' ⟨rfl, rfl⟩) | (at_builtin; refine wpList_app ei_int rfl (.tmp 12) (.tmp 14) rfl _ _ rfl (hown.alloc _) rfl (RD.one (by simp)) (by simp [Value.oneCell']) (by omega) (by simp; omega) ?_; intro v' w2 hown1 hb1))
        go_roundw
        case rel => exact ⟨k + 1, by omega, by go_num, by rw [HN.out, List.map_append, List.length_append]; exact hown1, (up_trans hb (up_alloc _ _)).trans hb1⟩
        case measure => simp [intOf]; omega
      · have hh' : hasL L k = false := by simpa using hh
        have cH := c_rhas (c := c) h hlen k
        rw [hh'] at cH
        have HN := Lib.hid (ofK_no hh')
        have CH := Lib.hid cH
        clear h0 h hh hh' cH
        go_wp2_with (first | (go_at_call 30; refine Calls.mono CH.out ?_; rintro e w' ⟨rfl, rfl⟩))
        go_roundw
        case rel => exact ⟨k + 1, by omega, by go_num, by rw [HN.out]; exact hown, hb⟩
        case measure => simp [intOf]; omega
    · obtain rfl : k = 256 := by omega
      rw [ofK_all] at hown
      rw [show ((256 : Nat) : Int) = 256 from rfl]
      clear h h0
      go_wp2
      go_ret
      exact IntsPost.of hown hb

theorem ofL_len (L : List Int) : (ofL L).length ≤ 256 := rise_le _
/-- Below the call's start, from a later world. -/
theorem IntsPost.later {w w1 : World} {zs : List Int} {e : Ending} {w' : World} (hb : Below w.heap.size w w1) (h : IntsPost w1 zs e w') : IntsPost w zs e w' := by
  obtain ⟨A, c, h1, h2, h3, h4, h5⟩ := h
  exact ⟨A, c, h1, h2, h3, h4.lo fun b hb' => Nat.le_trans hb.size hb', up_trans hb h5⟩

theorem c_rof' {w : World} {pl : Nat → Prop} {A : Option Addr} {c n : Nat} (L : List Int) (hn : n = L.length) (h0 : RD w pl 1 A n (L.map (Value.int .i64))) (hlen : n ≤ 1000) :
    Calls Tryd.prog 24 #[.slice A n c] w (IntsPost w (ofL L)) := by
  subst hn
  exact c_rof h0 hlen
end Go.Proofs.YtlplfnfaoaomkaaDoor
