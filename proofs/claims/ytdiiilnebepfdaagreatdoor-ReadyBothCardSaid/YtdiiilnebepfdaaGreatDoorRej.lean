/- Package ready's each, over whatever is asked; slices.Grow of nil, slices.Concat of events. -/
import Derived.Test.YtdiiilnebepfdaaGreatDoorR6
import Derived.LoopTactic
import Derived.Great.BuildSlice
import Derived.Lib.AppendZeros
import Derived.Lib.SliceRun
namespace Go.Proofs.YtdiiilnebepfdaaGreatDoor
open Go.RowKit

theorem rd_ev1 {w : World} {y : EV} {t : TypeId} {n : Nat} (hn : n = w.heap.size) : RD (w.alloc (.cells #[.int .i64 y.k, .int .i64 y.o, .int .i64 y.h, .int .i64 y.n] t)) tt 4 (some ⟨n, 0, none⟩) 1 ([y].flatMap evC) :=
  hn ▸ RD.of_blk (xs := [y].flatMap evC) (t := t) (Blk.new w [.int .i64 y.k, .int .i64 y.o, .int .i64 y.h, .int .i64 y.n] t) rfl trivial
/-- What is asked of one answers so. -/
def AskP {α : Type} (f : α → Option EV) (x : α) (W : World) (e : Ending) (w' : World) : Prop :=
  ∃ y : EV, e = .returned (.tuple #[.agg #[.int .i64 y.k, .int .i64 y.o, .int .i64 y.h, .int .i64 y.n], .bool (f x).isSome]) ∧ (∀ z, f x = some z → y = z) ∧ Below W.heap.size W w'
theorem fm_none {α β : Type} {f : α → Option β} {L : List α} {k : Nat} {x : α} (hx : L[k]? = some x) (h : f x = none) : (L.take (k + 1)).filterMap f = (L.take k).filterMap f := by
  rw [List.take_add_one, hx, List.filterMap_append]
  simp [h]
theorem fm_some {α β : Type} {f : α → Option β} {L : List α} {k : Nat} {x : α} {y : β} (hx : L[k]? = some x) (h : f x = some y) : (L.take (k + 1)).filterMap f = (L.take k).filterMap f ++ [y] := by
  rw [List.take_add_one, hx, List.filterMap_append]
  simp [h]
theorem fm_len {α β : Type} (f : α → Option β) (L : List α) (k : Nat) : ((L.take k).filterMap f).length ≤ k := by
  have h1 := List.length_filterMap_le f (L.take k)
  rw [List.length_take] at h1
  omega
theorem mvC_len' (m : Nat × Int) : (mvC m).length = 2 := rfl
theorem mvC_one' (m : Nat × Int) : ∀ v ∈ mvC m, v.oneCell' = true := by
  intro v hv
  simp only [mvC, List.mem_cons, List.not_mem_nil, or_false] at hv
  rcases hv with rfl | rfl <;> rfl
theorem tmV_one (t : Tm) : ∀ v ∈ tmV t, v.oneCell' = true := by
  intro v hv
  simp only [tmV, List.mem_cons, List.not_mem_nil, or_false] at hv
  rcases hv with rfl | rfl | rfl <;> rfl
theorem info_at : (Tryz.prog.info? 159).map (·.size) = some 2 := by kernel_rfl

/-- The same, where a number is answered. -/
def AskI {α : Type} (f : α → Option Int) (x : α) (W : World) (e : Ending) (w' : World) : Prop :=
  ∃ y : Int, e = .returned (.tuple #[.int .i64 y, .bool (f x).isSome]) ∧ (∀ z, f x = some z → y = z) ∧ Below W.heap.size W w'

set_option maxRecDepth 100000 in
set_option maxHeartbeats 4000000 in
theorem c_eachGI {f : GD → Option Int} {w : World} {pl : Nat → Prop} {A : Option Addr} {n c : Nat} {L : List GD} (hR : RD w pl 5 A n (L.flatMap gdC)) (hl : L.length = n) (hn : n ≤ 10000) {c1 : Value} {c2 : Value}
    (hS : ∀ x ∈ L, ∀ W, Below w.heap.size w W → Calls Tryz.prog 30 #[.agg (gdC x).toArray, c1, c2] W ((AskI f x W))) :
    Calls Tryz.prog 29 #[.slice A n c, .func (.func 30) #[] #[c1, c2]] w (IntsPost w (L.filterMap f)) := by
  have HR := Lib.hid hR
  have HL := Lib.hid hl
  have HS := Lib.hid hS
  clear hR hl hS
  go_enter Tryz.func29, Tryz.ntmps29
  go_wp2_with fail
  go_loopw [5, 12] (fun s i wr => ∃ k : Nat, k ≤ n ∧ i = .int .i64 k ∧ wr.ownsRow w.heap.size 3 1 s ((L.take k).filterMap f).length (((L.take k).filterMap f).map (Value.int .i64)) ∧ Below w.heap.size w wr) (fun _ i _ => n - (intOf i).toNat)
  case atStart => exact ⟨0, Nat.zero_le _, rfl, World.ownsRow_nil _ _ _ _, Below.refl _ _⟩
  case round =>
    obtain ⟨k, hk, rfl, hown, hbw⟩ := hrel
    by_cases hlt : k < n
    · have hex : ∃ g, L[k]? = some g := ⟨_, List.getElem?_eq_getElem (by rw [HL.out]; exact hlt)⟩
      obtain ⟨x, hx⟩ := hex
      obtain ⟨b, o, rfl, _, _, hrg⟩ := RD.row' gdC_len (HR.out.below hbw) hx hlt
      have HRG := Lib.hid hrg
      have HBX := Lib.hid (Blk.new wr (gdC x) 63)
      have hup := up_alloc wr (.cells (gdC x).toArray 63)
      have C := HS.out x (List.mem_of_getElem? hx) _ (up_trans hbw hup)
      have HUP := Lib.hid hup
      clear hrg hup
      have CC := Lib.hid C
      have HO := Lib.hid hown
      have HB := Lib.hid hbw
      have HX := Lib.hid hx
      have HLN := Lib.hid (fm_len f L k)
      clear C hown hbw hx
      cases hf : f x with
      | none =>
        have HN := Lib.hid (fm_none HX.out hf)
        go_wp2_with (first | (refine lmr (b := b) (q := o + k * 5) (cs := gdC x) (.tmp 14) rfl rfl Tryz.underlying63 rfl info_gd5 rfl ?_ ?_; (· exact HRG.out)) | (refine snr (W := wr) (cs := gdC x) (zs := [.int .i64 0, .int .i64 0, .int .i64 0, .int .i64 0, .int .i64 0]) (t := 63) (.tmp 7) (.tmp 15) rfl rfl rfl rfl info_gd5 rfl (gdC_one _) ?_ ?_ ?_; (· rfl); (· rfl)) | (refine ldr (b := wr.heap.size) (t := 63) (cs := gdC x) (.tmp 7) rfl rfl Tryz.underlying63 rfl info_gd5 rfl ?_ ?_; (· exact HBX.out)))
        refine CC.out.mono ?_; rintro e w3 ⟨y, rfl, -, hb⟩
        rw [hf]
        have HB3 := Lib.hid (up_trans HUP.out hb)
        clear hb hf
        go_wp2_with fail
        go_roundw
        case rel => exact ⟨k + 1, by omega, by go_num, by rw [HN.out]; exact own_below HO.out (HB3.out), up_trans HB.out (HB3.out)⟩
        case measure => simp [intOf]; omega
      | some z =>
        have HN := Lib.hid (fm_some HX.out hf)
        go_wp2_with (first | (refine lmr (b := b) (q := o + k * 5) (cs := gdC x) (.tmp 14) rfl rfl Tryz.underlying63 rfl info_gd5 rfl ?_ ?_; (· exact HRG.out)) | (refine snr (W := wr) (cs := gdC x) (zs := [.int .i64 0, .int .i64 0, .int .i64 0, .int .i64 0, .int .i64 0]) (t := 63) (.tmp 7) (.tmp 15) rfl rfl rfl rfl info_gd5 rfl (gdC_one _) ?_ ?_ ?_; (· rfl); (· rfl)) | (refine ldr (b := wr.heap.size) (t := 63) (cs := gdC x) (.tmp 7) rfl rfl Tryz.underlying63 rfl info_gd5 rfl ?_ ?_; (· exact HBX.out)))
        refine CC.out.mono ?_; rintro e w3 ⟨y, rfl, hyz, hb⟩
        obtain rfl : y = z := hyz z hf
        rw [hf]
        have HB3 := Lib.hid (up_trans HUP.out hb)
        have hu4 := up_trans HB3.out (up_alloc w3 (.cells #[.int .i64 y] 3))
        have HO3 := Lib.hid (own_below HO.out hu4)
        have HU4 := Lib.hid hu4
        have HZ : Hid (w.heap.size ≤ (w3.alloc (.cells #[.int .i64 y] 3)).heap.size) := Lib.hid (by have h1 := HB.out.size; have h2 := hu4.size; omega)
        clear hb hf hu4 hyz
        go_wp2_with (at_builtin; refine wpList_app ei_int rfl (.tmp 23) (.tmp 25) rfl _ _ rfl HO3.out rfl (RD.one rfl) (by simp [Value.oneCell']) (by have := HLN.out; omega) HZ.out ?_; intro v4 w4 hown4 hb4; have HO4 := Lib.hid hown4; have HB4 := Lib.hid hb4; clear hown4 hb4)
        go_roundw
        case rel => exact ⟨k + 1, by omega, by go_num, by rw [HN.out, List.map_append, List.length_append]; exact HO4.out, (up_trans HB.out HU4.out).trans HB4.out⟩
        case measure => simp [intOf]; omega
    · obtain rfl : k = n := by omega
      have HO := Lib.hid hown
      have HB := Lib.hid hbw
      have HT : Hid (L.take k = L) := Lib.hid (List.take_of_length_le (by rw [HL.out]; exact Nat.le_refl _))
      clear hown hbw
      go_wp2
      go_ret
      have h1 := HO.out
      rw [HT.out] at h1
      exact IntsPost.of h1 HB.out

set_option maxRecDepth 100000 in
set_option maxHeartbeats 4000000 in
theorem c_eachGE {f : GD → Option EV} {w : World} {pl : Nat → Prop} {A : Option Addr} {n c : Nat} {L : List GD} (hR : RD w pl 5 A n (L.flatMap gdC)) (hl : L.length = n) (hn : n ≤ 10000) {c1 : Value} {c2 : Value}
    (hS : ∀ x ∈ L, ∀ W, Below w.heap.size w W → Calls Tryz.prog 39 #[.agg (gdC x).toArray, c1, c2] W (AskP f x W)) :
    Calls Tryz.prog 38 #[.slice A n c, .func (.func 39) #[] #[c1, c2]] w (EvsP w (L.filterMap f)) := by
  have HR := Lib.hid hR
  have HL := Lib.hid hl
  have HS := Lib.hid hS
  clear hR hl hS
  go_enter Tryz.func38, Tryz.ntmps38
  go_wp2_with fail
  go_loopw [5, 12] (fun s i wr => ∃ k : Nat, k ≤ n ∧ i = .int .i64 k ∧ wr.ownsRow w.heap.size 32 4 s ((L.take k).filterMap f).length (((L.take k).filterMap f).flatMap evC) ∧ Below w.heap.size w wr) (fun _ i _ => n - (intOf i).toNat)
  case atStart => exact ⟨0, Nat.zero_le _, rfl, World.ownsRow_nil _ _ _ _, Below.refl _ _⟩
  case round =>
    obtain ⟨k, hk, rfl, hown, hbw⟩ := hrel
    by_cases hlt : k < n
    · have hex : ∃ g, L[k]? = some g := ⟨_, List.getElem?_eq_getElem (by rw [HL.out]; exact hlt)⟩
      obtain ⟨x, hx⟩ := hex
      obtain ⟨b, o, rfl, _, _, hrg⟩ := RD.row' gdC_len (HR.out.below hbw) hx hlt
      have HRG := Lib.hid hrg
      have HBX := Lib.hid (Blk.new wr (gdC x) 63)
      have hup := up_alloc wr (.cells (gdC x).toArray 63)
      have C := HS.out x (List.mem_of_getElem? hx) _ (up_trans hbw hup)
      have HUP := Lib.hid hup
      clear hrg hup
      have CC := Lib.hid C
      have HO := Lib.hid hown
      have HB := Lib.hid hbw
      have HX := Lib.hid hx
      have HLN := Lib.hid (fm_len f L k)
      clear C hown hbw hx
      cases hf : f x with
      | none =>
        have HN := Lib.hid (fm_none HX.out hf)
        go_wp2_with (first | (refine lmr (b := b) (q := o + k * 5) (cs := gdC x) (.tmp 14) rfl rfl Tryz.underlying63 rfl info_gd5 rfl ?_ ?_; (· exact HRG.out)) | (refine snr (W := wr) (cs := gdC x) (zs := [.int .i64 0, .int .i64 0, .int .i64 0, .int .i64 0, .int .i64 0]) (t := 63) (.tmp 7) (.tmp 15) rfl rfl rfl rfl info_gd5 rfl (gdC_one _) ?_ ?_ ?_; (· rfl); (· rfl)) | (refine ldr (b := wr.heap.size) (t := 63) (cs := gdC x) (.tmp 7) rfl rfl Tryz.underlying63 rfl info_gd5 rfl ?_ ?_; (· exact HBX.out)))
        refine CC.out.mono ?_; rintro e w3 ⟨y, rfl, -, hb⟩
        rw [hf]
        have HB3 := Lib.hid (up_trans HUP.out hb)
        clear hb hf
        go_wp2_with fail
        go_roundw
        case rel => exact ⟨k + 1, by omega, by go_num, by rw [HN.out]; exact own_below HO.out (up_trans HB3.out (up_alloc _ _)), up_trans HB.out (up_trans HB3.out (up_alloc _ _))⟩
        case measure => simp [intOf]; omega
      | some z =>
        have HN := Lib.hid (fm_some HX.out hf)
        go_wp2_with (first | (refine lmr (b := b) (q := o + k * 5) (cs := gdC x) (.tmp 14) rfl rfl Tryz.underlying63 rfl info_gd5 rfl ?_ ?_; (· exact HRG.out)) | (refine snr (W := wr) (cs := gdC x) (zs := [.int .i64 0, .int .i64 0, .int .i64 0, .int .i64 0, .int .i64 0]) (t := 63) (.tmp 7) (.tmp 15) rfl rfl rfl rfl info_gd5 rfl (gdC_one _) ?_ ?_ ?_; (· rfl); (· rfl)) | (refine ldr (b := wr.heap.size) (t := 63) (cs := gdC x) (.tmp 7) rfl rfl Tryz.underlying63 rfl info_gd5 rfl ?_ ?_; (· exact HBX.out)))
        refine CC.out.mono ?_; rintro e w3 ⟨y, rfl, hyz, hb⟩
        obtain rfl : y = z := hyz z hf
        rw [hf]
        have HB3 := Lib.hid (up_trans HUP.out hb)
        have hu4 := up_trans HB3.out (up_trans (up_alloc w3 (.cells #[.int .i64 y.k, .int .i64 y.o, .int .i64 y.h, .int .i64 y.n] 32)) (up_alloc (w3.alloc (.cells #[.int .i64 y.k, .int .i64 y.o, .int .i64 y.h, .int .i64 y.n] 32)) (.cells #[.int .i64 y.k, .int .i64 y.o, .int .i64 y.h, .int .i64 y.n] 32)))
        have HO3 := Lib.hid (own_below HO.out hu4)
        have HU4 := Lib.hid hu4
        have HZ : Hid (w.heap.size ≤ ((w3.alloc (.cells #[.int .i64 y.k, .int .i64 y.o, .int .i64 y.h, .int .i64 y.n] 32)).alloc (.cells #[.int .i64 y.k, .int .i64 y.o, .int .i64 y.h, .int .i64 y.n] 32)).heap.size) := Lib.hid (by have h1 := HB.out.size; have h2 := hu4.size; omega)
        clear hb hf hu4 hyz
        go_wp2_with (at_builtin; refine wpList_app ei_ev rfl (.tmp 23) (.tmp 25) rfl _ _ rfl HO3.out rfl (rd_ev1 (y := y) (by simp)) (evL_one [y]) (by have := HLN.out; omega) HZ.out ?_; intro v4 w4 hown4 hb4; have HO4 := Lib.hid hown4; have HB4 := Lib.hid hb4; clear hown4 hb4)
        go_roundw
        case rel => exact ⟨k + 1, by omega, by go_num, by rw [HN.out, List.flatMap_append, List.length_append]; exact HO4.out, (up_trans HB.out HU4.out).trans HB4.out⟩
        case measure => simp [intOf]; omega
    · obtain rfl : k = n := by omega
      have HO := Lib.hid hown
      have HB := Lib.hid hbw
      have HT : Hid (L.take k = L) := Lib.hid (List.take_of_length_le (by rw [HL.out]; exact Nat.le_refl _))
      clear hown hbw
      go_wp2
      go_ret
      have h1 := HO.out
      rw [HT.out] at h1
      exact EvsP.of h1 HB.out

set_option maxRecDepth 100000 in
set_option maxHeartbeats 4000000 in
theorem c_eachIE {f : Int → Option EV} {w : World} {pl : Nat → Prop} {A : Option Addr} {n c : Nat} {L : List Int} (hR : RD w pl 1 A n (L.map (Value.int .i64))) (hl : L.length = n) (hn : n ≤ 10000) 
    (hS : ∀ x ∈ L, ∀ W, Below w.heap.size w W → Calls Tryz.prog 79 #[.int .i64 x] W (AskP f x W)) :
    Calls Tryz.prog 77 #[.slice A n c, .func (.func 79) #[] #[]] w (EvsP w (L.filterMap f)) := by
  have HR := Lib.hid hR
  have HL := Lib.hid hl
  have HS := Lib.hid hS
  clear hR hl hS
  go_enter Tryz.func77, Tryz.ntmps77
  go_wp2_with fail
  go_loopw [5, 12] (fun s i wr => ∃ k : Nat, k ≤ n ∧ i = .int .i64 k ∧ wr.ownsRow w.heap.size 32 4 s ((L.take k).filterMap f).length (((L.take k).filterMap f).flatMap evC) ∧ Below w.heap.size w wr) (fun _ i _ => n - (intOf i).toNat)
  case atStart => exact ⟨0, Nat.zero_le _, rfl, World.ownsRow_nil _ _ _ _, Below.refl _ _⟩
  case round =>
    obtain ⟨k, hk, rfl, hown, hbw⟩ := hrel
    by_cases hlt : k < n
    · have hex : ∃ g, L[k]? = some g := ⟨_, List.getElem?_eq_getElem (by rw [HL.out]; exact hlt)⟩
      obtain ⟨x, hx⟩ := hex
      obtain ⟨b, o, rfl, _, _, hc⟩ := (HR.out.below hbw).at_ (by omega)
      have h1 := hc k (.int .i64 x) (by rw [List.getElem?_map, hx]; rfl)
      have C := HS.out x (List.mem_of_getElem? hx) wr hbw
      clear hc
      have CC := Lib.hid C
      have HO := Lib.hid hown
      have HB := Lib.hid hbw
      have HX := Lib.hid hx
      have HLN := Lib.hid (fm_len f L k)
      clear C hown hbw hx
      cases hf : f x with
      | none =>
        have HN := Lib.hid (fm_none HX.out hf)
        go_wp2_with fail
        refine CC.out.mono ?_; rintro e w3 ⟨y, rfl, -, hb⟩
        rw [hf]
        have HB3 := Lib.hid hb
        clear hb hf
        go_wp2_with fail
        go_roundw
        case rel => exact ⟨k + 1, by omega, by go_num, by rw [HN.out]; exact own_below HO.out (up_trans HB3.out (up_alloc _ _)), up_trans HB.out (up_trans HB3.out (up_alloc _ _))⟩
        case measure => simp [intOf]; omega
      | some z =>
        have HN := Lib.hid (fm_some HX.out hf)
        go_wp2_with fail
        refine CC.out.mono ?_; rintro e w3 ⟨y, rfl, hyz, hb⟩
        obtain rfl : y = z := hyz z hf
        rw [hf]
        have HB3 := Lib.hid hb
        have hu4 := up_trans HB3.out (up_trans (up_alloc w3 (.cells #[.int .i64 y.k, .int .i64 y.o, .int .i64 y.h, .int .i64 y.n] 32)) (up_alloc (w3.alloc (.cells #[.int .i64 y.k, .int .i64 y.o, .int .i64 y.h, .int .i64 y.n] 32)) (.cells #[.int .i64 y.k, .int .i64 y.o, .int .i64 y.h, .int .i64 y.n] 32)))
        have HO3 := Lib.hid (own_below HO.out hu4)
        have HU4 := Lib.hid hu4
        have HZ : Hid (w.heap.size ≤ ((w3.alloc (.cells #[.int .i64 y.k, .int .i64 y.o, .int .i64 y.h, .int .i64 y.n] 32)).alloc (.cells #[.int .i64 y.k, .int .i64 y.o, .int .i64 y.h, .int .i64 y.n] 32)).heap.size) := Lib.hid (by have h1 := HB.out.size; have h2 := hu4.size; omega)
        clear hb hf hu4 hyz
        go_wp2_with (at_builtin; refine wpList_app ei_ev rfl (.tmp 23) (.tmp 25) rfl _ _ rfl HO3.out rfl (rd_ev1 (y := y) (by simp)) (evL_one [y]) (by have := HLN.out; omega) HZ.out ?_; intro v4 w4 hown4 hb4; have HO4 := Lib.hid hown4; have HB4 := Lib.hid hb4; clear hown4 hb4)
        go_roundw
        case rel => exact ⟨k + 1, by omega, by go_num, by rw [HN.out, List.flatMap_append, List.length_append]; exact HO4.out, (up_trans HB.out HU4.out).trans HB4.out⟩
        case measure => simp [intOf]; omega
    · obtain rfl : k = n := by omega
      have HO := Lib.hid hown
      have HB := Lib.hid hbw
      have HT : Hid (L.take k = L) := Lib.hid (List.take_of_length_le (by rw [HL.out]; exact Nat.le_refl _))
      clear hown hbw
      go_wp2
      go_ret
      have h1 := HO.out
      rw [HT.out] at h1
      exact EvsP.of h1 HB.out

set_option maxRecDepth 100000 in
set_option maxHeartbeats 4000000 in
theorem c_eachME {f : (Nat × Int) → Option EV} {w : World} {pl : Nat → Prop} {A : Option Addr} {n c : Nat} {L : List (Nat × Int)} (hR : RD w pl 2 A n (L.flatMap mvC)) (hl : L.length = n) (hn : n ≤ 10000) 
    (hS : ∀ x ∈ L, ∀ W, Below w.heap.size w W → Calls Tryz.prog 82 #[.agg (mvC x).toArray] W (AskP f x W)) :
    Calls Tryz.prog 80 #[.slice A n c, .func (.func 82) #[] #[]] w (EvsP w (L.filterMap f)) := by
  have HR := Lib.hid hR
  have HL := Lib.hid hl
  have HS := Lib.hid hS
  clear hR hl hS
  go_enter Tryz.func80, Tryz.ntmps80
  go_wp2_with fail
  go_loopw [5, 12] (fun s i wr => ∃ k : Nat, k ≤ n ∧ i = .int .i64 k ∧ wr.ownsRow w.heap.size 32 4 s ((L.take k).filterMap f).length (((L.take k).filterMap f).flatMap evC) ∧ Below w.heap.size w wr) (fun _ i _ => n - (intOf i).toNat)
  case atStart => exact ⟨0, Nat.zero_le _, rfl, World.ownsRow_nil _ _ _ _, Below.refl _ _⟩
  case round =>
    obtain ⟨k, hk, rfl, hown, hbw⟩ := hrel
    by_cases hlt : k < n
    · have hex : ∃ g, L[k]? = some g := ⟨_, List.getElem?_eq_getElem (by rw [HL.out]; exact hlt)⟩
      obtain ⟨x, hx⟩ := hex
      obtain ⟨b, o, rfl, _, _, hrg⟩ := RD.row' mvC_len' (HR.out.below hbw) hx hlt
      have HRG := Lib.hid hrg
      have HBX := Lib.hid (Blk.new wr (mvC x) 159)
      have hup := up_alloc wr (.cells (mvC x).toArray 159)
      have C := HS.out x (List.mem_of_getElem? hx) _ (up_trans hbw hup)
      have HUP := Lib.hid hup
      clear hrg hup
      have CC := Lib.hid C
      have HO := Lib.hid hown
      have HB := Lib.hid hbw
      have HX := Lib.hid hx
      have HLN := Lib.hid (fm_len f L k)
      clear C hown hbw hx
      cases hf : f x with
      | none =>
        have HN := Lib.hid (fm_none HX.out hf)
        go_wp2_with (first | (refine lmr (b := b) (q := o + k * 2) (cs := mvC x) (.tmp 14) rfl rfl Tryz.underlying159 rfl info_at rfl ?_ ?_; (· exact HRG.out)) | (refine snr (W := wr) (cs := mvC x) (zs := [.int .i64 0, .int .i64 0]) (t := 159) (.tmp 7) (.tmp 15) rfl rfl rfl rfl info_at rfl (mvC_one' _) ?_ ?_ ?_; (· rfl); (· rfl)) | (refine ldr (b := wr.heap.size) (t := 159) (cs := mvC x) (.tmp 7) rfl rfl Tryz.underlying159 rfl info_at rfl ?_ ?_; (· exact HBX.out)))
        refine CC.out.mono ?_; rintro e w3 ⟨y, rfl, -, hb⟩
        rw [hf]
        have HB3 := Lib.hid (up_trans HUP.out hb)
        clear hb hf
        go_wp2_with fail
        go_roundw
        case rel => exact ⟨k + 1, by omega, by go_num, by rw [HN.out]; exact own_below HO.out (up_trans HB3.out (up_alloc _ _)), up_trans HB.out (up_trans HB3.out (up_alloc _ _))⟩
        case measure => simp [intOf]; omega
      | some z =>
        have HN := Lib.hid (fm_some HX.out hf)
        go_wp2_with (first | (refine lmr (b := b) (q := o + k * 2) (cs := mvC x) (.tmp 14) rfl rfl Tryz.underlying159 rfl info_at rfl ?_ ?_; (· exact HRG.out)) | (refine snr (W := wr) (cs := mvC x) (zs := [.int .i64 0, .int .i64 0]) (t := 159) (.tmp 7) (.tmp 15) rfl rfl rfl rfl info_at rfl (mvC_one' _) ?_ ?_ ?_; (· rfl); (· rfl)) | (refine ldr (b := wr.heap.size) (t := 159) (cs := mvC x) (.tmp 7) rfl rfl Tryz.underlying159 rfl info_at rfl ?_ ?_; (· exact HBX.out)))
        refine CC.out.mono ?_; rintro e w3 ⟨y, rfl, hyz, hb⟩
        obtain rfl : y = z := hyz z hf
        rw [hf]
        have HB3 := Lib.hid (up_trans HUP.out hb)
        have hu4 := up_trans HB3.out (up_trans (up_alloc w3 (.cells #[.int .i64 y.k, .int .i64 y.o, .int .i64 y.h, .int .i64 y.n] 32)) (up_alloc (w3.alloc (.cells #[.int .i64 y.k, .int .i64 y.o, .int .i64 y.h, .int .i64 y.n] 32)) (.cells #[.int .i64 y.k, .int .i64 y.o, .int .i64 y.h, .int .i64 y.n] 32)))
        have HO3 := Lib.hid (own_below HO.out hu4)
        have HU4 := Lib.hid hu4
        have HZ : Hid (w.heap.size ≤ ((w3.alloc (.cells #[.int .i64 y.k, .int .i64 y.o, .int .i64 y.h, .int .i64 y.n] 32)).alloc (.cells #[.int .i64 y.k, .int .i64 y.o, .int .i64 y.h, .int .i64 y.n] 32)).heap.size) := Lib.hid (by have h1 := HB.out.size; have h2 := hu4.size; omega)
        clear hb hf hu4 hyz
        go_wp2_with (at_builtin; refine wpList_app ei_ev rfl (.tmp 23) (.tmp 25) rfl _ _ rfl HO3.out rfl (rd_ev1 (y := y) (by simp)) (evL_one [y]) (by have := HLN.out; omega) HZ.out ?_; intro v4 w4 hown4 hb4; have HO4 := Lib.hid hown4; have HB4 := Lib.hid hb4; clear hown4 hb4)
        go_roundw
        case rel => exact ⟨k + 1, by omega, by go_num, by rw [HN.out, List.flatMap_append, List.length_append]; exact HO4.out, (up_trans HB.out HU4.out).trans HB4.out⟩
        case measure => simp [intOf]; omega
    · obtain rfl : k = n := by omega
      have HO := Lib.hid hown
      have HB := Lib.hid hbw
      have HT : Hid (L.take k = L) := Lib.hid (List.take_of_length_le (by rw [HL.out]; exact Nat.le_refl _))
      clear hown hbw
      go_wp2
      go_ret
      have h1 := HO.out
      rw [HT.out] at h1
      exact EvsP.of h1 HB.out

set_option maxRecDepth 100000 in
set_option maxHeartbeats 4000000 in
theorem c_eachEE {f : EV → Option EV} {w : World} {pl : Nat → Prop} {A : Option Addr} {n c : Nat} {L : List EV} (hR : RD w pl 4 A n (L.flatMap evC)) (hl : L.length = n) (hn : n ≤ 10000) {c1 : Value}
    (hS : ∀ x ∈ L, ∀ W, Below w.heap.size w W → Calls Tryz.prog 85 #[.agg (evC x).toArray, c1] W (AskP f x W)) :
    Calls Tryz.prog 84 #[.slice A n c, .func (.func 85) #[] #[c1]] w (EvsP w (L.filterMap f)) := by
  have HR := Lib.hid hR
  have HL := Lib.hid hl
  have HS := Lib.hid hS
  clear hR hl hS
  go_enter Tryz.func84, Tryz.ntmps84
  go_wp2_with fail
  go_loopw [5, 12] (fun s i wr => ∃ k : Nat, k ≤ n ∧ i = .int .i64 k ∧ wr.ownsRow w.heap.size 32 4 s ((L.take k).filterMap f).length (((L.take k).filterMap f).flatMap evC) ∧ Below w.heap.size w wr) (fun _ i _ => n - (intOf i).toNat)
  case atStart => exact ⟨0, Nat.zero_le _, rfl, World.ownsRow_nil _ _ _ _, Below.refl _ _⟩
  case round =>
    obtain ⟨k, hk, rfl, hown, hbw⟩ := hrel
    by_cases hlt : k < n
    · have hex : ∃ g, L[k]? = some g := ⟨_, List.getElem?_eq_getElem (by rw [HL.out]; exact hlt)⟩
      obtain ⟨x, hx⟩ := hex
      obtain ⟨b, o, rfl, _, _, hrg⟩ := RD.row' evC_len (HR.out.below hbw) hx hlt
      have HRG := Lib.hid hrg
      have HBX := Lib.hid (Blk.new wr (evC x) 32)
      have hup := up_alloc wr (.cells (evC x).toArray 32)
      have C := HS.out x (List.mem_of_getElem? hx) _ (up_trans hbw hup)
      have HUP := Lib.hid hup
      clear hrg hup
      have CC := Lib.hid C
      have HO := Lib.hid hown
      have HB := Lib.hid hbw
      have HX := Lib.hid hx
      have HLN := Lib.hid (fm_len f L k)
      clear C hown hbw hx
      cases hf : f x with
      | none =>
        have HN := Lib.hid (fm_none HX.out hf)
        go_wp2_with (first | (refine lmr (b := b) (q := o + k * 4) (cs := evC x) (.tmp 14) rfl rfl Tryz.underlying32 rfl info_ev4 rfl ?_ ?_; (· exact HRG.out)) | (refine snr (W := wr) (cs := evC x) (zs := [.int .i64 0, .int .i64 0, .int .i64 0, .int .i64 0]) (t := 32) (.tmp 7) (.tmp 15) rfl rfl rfl rfl info_ev4 rfl (evC_one _) ?_ ?_ ?_; (· rfl); (· rfl)) | (refine ldr (b := wr.heap.size) (t := 32) (cs := evC x) (.tmp 7) rfl rfl Tryz.underlying32 rfl info_ev4 rfl ?_ ?_; (· exact HBX.out)))
        refine CC.out.mono ?_; rintro e w3 ⟨y, rfl, -, hb⟩
        rw [hf]
        have HB3 := Lib.hid (up_trans HUP.out hb)
        clear hb hf
        go_wp2_with fail
        go_roundw
        case rel => exact ⟨k + 1, by omega, by go_num, by rw [HN.out]; exact own_below HO.out (up_trans HB3.out (up_alloc _ _)), up_trans HB.out (up_trans HB3.out (up_alloc _ _))⟩
        case measure => simp [intOf]; omega
      | some z =>
        have HN := Lib.hid (fm_some HX.out hf)
        go_wp2_with (first | (refine lmr (b := b) (q := o + k * 4) (cs := evC x) (.tmp 14) rfl rfl Tryz.underlying32 rfl info_ev4 rfl ?_ ?_; (· exact HRG.out)) | (refine snr (W := wr) (cs := evC x) (zs := [.int .i64 0, .int .i64 0, .int .i64 0, .int .i64 0]) (t := 32) (.tmp 7) (.tmp 15) rfl rfl rfl rfl info_ev4 rfl (evC_one _) ?_ ?_ ?_; (· rfl); (· rfl)) | (refine ldr (b := wr.heap.size) (t := 32) (cs := evC x) (.tmp 7) rfl rfl Tryz.underlying32 rfl info_ev4 rfl ?_ ?_; (· exact HBX.out)))
        refine CC.out.mono ?_; rintro e w3 ⟨y, rfl, hyz, hb⟩
        obtain rfl : y = z := hyz z hf
        rw [hf]
        have HB3 := Lib.hid (up_trans HUP.out hb)
        have hu4 := up_trans HB3.out (up_trans (up_alloc w3 (.cells #[.int .i64 y.k, .int .i64 y.o, .int .i64 y.h, .int .i64 y.n] 32)) (up_alloc (w3.alloc (.cells #[.int .i64 y.k, .int .i64 y.o, .int .i64 y.h, .int .i64 y.n] 32)) (.cells #[.int .i64 y.k, .int .i64 y.o, .int .i64 y.h, .int .i64 y.n] 32)))
        have HO3 := Lib.hid (own_below HO.out hu4)
        have HU4 := Lib.hid hu4
        have HZ : Hid (w.heap.size ≤ ((w3.alloc (.cells #[.int .i64 y.k, .int .i64 y.o, .int .i64 y.h, .int .i64 y.n] 32)).alloc (.cells #[.int .i64 y.k, .int .i64 y.o, .int .i64 y.h, .int .i64 y.n] 32)).heap.size) := Lib.hid (by have h1 := HB.out.size; have h2 := hu4.size; omega)
        clear hb hf hu4 hyz
        go_wp2_with (at_builtin; refine wpList_app ei_ev rfl (.tmp 23) (.tmp 25) rfl _ _ rfl HO3.out rfl (rd_ev1 (y := y) (by simp)) (evL_one [y]) (by have := HLN.out; omega) HZ.out ?_; intro v4 w4 hown4 hb4; have HO4 := Lib.hid hown4; have HB4 := Lib.hid hb4; clear hown4 hb4)
        go_roundw
        case rel => exact ⟨k + 1, by omega, by go_num, by rw [HN.out, List.flatMap_append, List.length_append]; exact HO4.out, (up_trans HB.out HU4.out).trans HB4.out⟩
        case measure => simp [intOf]; omega
    · obtain rfl : k = n := by omega
      have HO := Lib.hid hown
      have HB := Lib.hid hbw
      have HT : Hid (L.take k = L) := Lib.hid (List.take_of_length_le (by rw [HL.out]; exact Nat.le_refl _))
      clear hown hbw
      go_wp2
      go_ret
      have h1 := HO.out
      rw [HT.out] at h1
      exact EvsP.of h1 HB.out

set_option maxRecDepth 100000 in
set_option maxHeartbeats 4000000 in
theorem c_eachTE {f : Tm → Option EV} {w : World} {pl : Nat → Prop} {A : Option Addr} {n c : Nat} {L : List Tm} (hR : RD w pl 3 A n (L.flatMap tmV)) (hl : L.length = n) (hn : n ≤ 10000) {c1 : Value}
    (hS : ∀ x ∈ L, ∀ W, Below w.heap.size w W → Calls Tryz.prog 87 #[.agg (tmV x).toArray, c1] W (AskP f x W)) :
    Calls Tryz.prog 86 #[.slice A n c, .func (.func 87) #[] #[c1]] w (EvsP w (L.filterMap f)) := by
  have HR := Lib.hid hR
  have HL := Lib.hid hl
  have HS := Lib.hid hS
  clear hR hl hS
  go_enter Tryz.func86, Tryz.ntmps86
  go_wp2_with fail
  go_loopw [5, 12] (fun s i wr => ∃ k : Nat, k ≤ n ∧ i = .int .i64 k ∧ wr.ownsRow w.heap.size 32 4 s ((L.take k).filterMap f).length (((L.take k).filterMap f).flatMap evC) ∧ Below w.heap.size w wr) (fun _ i _ => n - (intOf i).toNat)
  case atStart => exact ⟨0, Nat.zero_le _, rfl, World.ownsRow_nil _ _ _ _, Below.refl _ _⟩
  case round =>
    obtain ⟨k, hk, rfl, hown, hbw⟩ := hrel
    by_cases hlt : k < n
    · have hex : ∃ g, L[k]? = some g := ⟨_, List.getElem?_eq_getElem (by rw [HL.out]; exact hlt)⟩
      obtain ⟨x, hx⟩ := hex
      obtain ⟨b, o, rfl, _, _, hrg⟩ := RD.row' tmV_len (HR.out.below hbw) hx hlt
      have HRG := Lib.hid hrg
      have HBX := Lib.hid (Blk.new wr (tmV x) 82)
      have hup := up_alloc wr (.cells (tmV x).toArray 82)
      have C := HS.out x (List.mem_of_getElem? hx) _ (up_trans hbw hup)
      have HUP := Lib.hid hup
      clear hrg hup
      have CC := Lib.hid C
      have HO := Lib.hid hown
      have HB := Lib.hid hbw
      have HX := Lib.hid hx
      have HLN := Lib.hid (fm_len f L k)
      clear C hown hbw hx
      cases hf : f x with
      | none =>
        have HN := Lib.hid (fm_none HX.out hf)
        go_wp2_with (first | (refine lmr (b := b) (q := o + k * 3) (cs := tmV x) (.tmp 14) rfl rfl Tryz.underlying82 rfl info_tm rfl ?_ ?_; (· exact HRG.out)) | (refine snr (W := wr) (cs := tmV x) (zs := [.int .i64 0, .int .i64 0, .int .i64 0]) (t := 82) (.tmp 7) (.tmp 15) rfl rfl rfl rfl info_tm rfl (tmV_one _) ?_ ?_ ?_; (· rfl); (· rfl)) | (refine ldr (b := wr.heap.size) (t := 82) (cs := tmV x) (.tmp 7) rfl rfl Tryz.underlying82 rfl info_tm rfl ?_ ?_; (· exact HBX.out)))
        refine CC.out.mono ?_; rintro e w3 ⟨y, rfl, -, hb⟩
        rw [hf]
        have HB3 := Lib.hid (up_trans HUP.out hb)
        clear hb hf
        go_wp2_with fail
        go_roundw
        case rel => exact ⟨k + 1, by omega, by go_num, by rw [HN.out]; exact own_below HO.out (up_trans HB3.out (up_alloc _ _)), up_trans HB.out (up_trans HB3.out (up_alloc _ _))⟩
        case measure => simp [intOf]; omega
      | some z =>
        have HN := Lib.hid (fm_some HX.out hf)
        go_wp2_with (first | (refine lmr (b := b) (q := o + k * 3) (cs := tmV x) (.tmp 14) rfl rfl Tryz.underlying82 rfl info_tm rfl ?_ ?_; (· exact HRG.out)) | (refine snr (W := wr) (cs := tmV x) (zs := [.int .i64 0, .int .i64 0, .int .i64 0]) (t := 82) (.tmp 7) (.tmp 15) rfl rfl rfl rfl info_tm rfl (tmV_one _) ?_ ?_ ?_; (· rfl); (· rfl)) | (refine ldr (b := wr.heap.size) (t := 82) (cs := tmV x) (.tmp 7) rfl rfl Tryz.underlying82 rfl info_tm rfl ?_ ?_; (· exact HBX.out)))
        refine CC.out.mono ?_; rintro e w3 ⟨y, rfl, hyz, hb⟩
        obtain rfl : y = z := hyz z hf
        rw [hf]
        have HB3 := Lib.hid (up_trans HUP.out hb)
        have hu4 := up_trans HB3.out (up_trans (up_alloc w3 (.cells #[.int .i64 y.k, .int .i64 y.o, .int .i64 y.h, .int .i64 y.n] 32)) (up_alloc (w3.alloc (.cells #[.int .i64 y.k, .int .i64 y.o, .int .i64 y.h, .int .i64 y.n] 32)) (.cells #[.int .i64 y.k, .int .i64 y.o, .int .i64 y.h, .int .i64 y.n] 32)))
        have HO3 := Lib.hid (own_below HO.out hu4)
        have HU4 := Lib.hid hu4
        have HZ : Hid (w.heap.size ≤ ((w3.alloc (.cells #[.int .i64 y.k, .int .i64 y.o, .int .i64 y.h, .int .i64 y.n] 32)).alloc (.cells #[.int .i64 y.k, .int .i64 y.o, .int .i64 y.h, .int .i64 y.n] 32)).heap.size) := Lib.hid (by have h1 := HB.out.size; have h2 := hu4.size; omega)
        clear hb hf hu4 hyz
        go_wp2_with (at_builtin; refine wpList_app ei_ev rfl (.tmp 23) (.tmp 25) rfl _ _ rfl HO3.out rfl (rd_ev1 (y := y) (by simp)) (evL_one [y]) (by have := HLN.out; omega) HZ.out ?_; intro v4 w4 hown4 hb4; have HO4 := Lib.hid hown4; have HB4 := Lib.hid hb4; clear hown4 hb4)
        go_roundw
        case rel => exact ⟨k + 1, by omega, by go_num, by rw [HN.out, List.flatMap_append, List.length_append]; exact HO4.out, (up_trans HB.out HU4.out).trans HB4.out⟩
        case measure => simp [intOf]; omega
    · obtain rfl : k = n := by omega
      have HO := Lib.hid hown
      have HB := Lib.hid hbw
      have HT : Hid (L.take k = L) := Lib.hid (List.take_of_length_le (by rw [HL.out]; exact Nat.le_refl _))
      clear hown hbw
      go_wp2
      go_ret
      have h1 := HO.out
      rw [HT.out] at h1
      exact EvsP.of h1 HB.out

end Go.Proofs.YtdiiilnebepfdaaGreatDoor
