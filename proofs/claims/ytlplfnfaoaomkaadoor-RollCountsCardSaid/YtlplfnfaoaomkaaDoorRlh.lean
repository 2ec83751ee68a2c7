/- The law's alive (layer 21). -/
import Derived.Test.YtlplfnfaoaomkaaDoorRlg
import Derived.Test.YtlplfnfaoaomkaaDoorRlc
namespace Go.Proofs.YtlplfnfaoaomkaaDoor
open Go.RowKit

def aR1 : RL := ⟨⟨4#64, 0#64, 0#64, 0#64⟩, S4.zero⟩
def aR2 : RL := ⟨⟨20#64, 0#64, 0#64, 0#64⟩, S4.zero⟩
def aR3 : RL := ⟨⟨20#64, 0#64, 0#64, 0#64⟩, ⟨4#64, 0#64, 0#64, 0#64⟩⟩
def aR4 : RL := ⟨⟨4#64, 0#64, 0#64, 0#64⟩, ⟨4#64, 0#64, 0#64, 0#64⟩⟩
def aR5 : RL := ⟨⟨4#64, 0#64, 0#64, 0#64⟩, S4.zero⟩
theorem al_1 : rlEnrol RL.zero 2 = (aR1, 0) := by kernel_rfl
theorem al_2 : rlEnrol aR1 4 = (aR2, 0) := by kernel_rfl
theorem al_3 : rlOffer aR2 2 = (aR3, 0) := by kernel_rfl
theorem al_4 : rlResign aR3 4 = (aR4, 0) := by kernel_rfl
theorem al_5 : rlFire aR4 = (aR5, [2], 0) := by kernel_rfl
theorem al_6 : rlWith aR3 4 = (aR3, false) := by kernel_rfl
theorem al_7 : rlFire aR3 = (RL.zero, [], 13) := by kernel_rfl
theorem al_8 : rlFull aR3 = false := by kernel_rfl
theorem al_9 : rlFull aR4 = true := by kernel_rfl
theorem al_10 : rlFine aR5 = true := by kernel_rfl
theorem al_11 : rlFull aR5 = false := by kernel_rfl
theorem al_12 : rlFull RL.zero = false := by kernel_rfl
def Ans (v : Value) (w : World) (e : Ending) (w' : World) : Prop := e = .returned v ∧ Below w.heap.size w w'
theorem e_1 (W : World) (h : TabD W) : Calls Tryd.prog 8 #[.agg (rlZ).toArray, .int .i64 2] W (Ans (.tuple #[.agg (rlC aR1).toArray, .int .i64 0]) W) := by
  have := c_rlenrol RL.zero 2 W h
  rw [al_1, rlZ_eq] at this
  exact this
theorem e_2 (W : World) (h : TabD W) : Calls Tryd.prog 8 #[.agg (rlC aR1).toArray, .int .i64 4] W (Ans (.tuple #[.agg (rlC aR2).toArray, .int .i64 0]) W) := by
  have := c_rlenrol aR1 4 W h
  rw [al_2] at this
  exact this
theorem e_3 (W : World) (h : TabD W) : Calls Tryd.prog 12 #[.agg (rlC aR2).toArray, .int .i64 2] W (Ans (.tuple #[.agg (rlC aR3).toArray, .int .i64 0]) W) := by
  have := c_rloffer aR2 2 W h
  rw [al_3] at this
  exact this
theorem e_4 (W : World) (h : TabD W) : Calls Tryd.prog 10 #[.agg (rlC aR3).toArray, .int .i64 4] W (Ans (.tuple #[.agg (rlC aR4).toArray, .int .i64 0]) W) := by
  have := c_rlresign aR3 4 W h
  rw [al_4] at this
  exact this
theorem e_6 (W : World) (h : TabD W) : Calls Tryd.prog 14 #[.agg (rlC aR3).toArray, .int .i64 4] W (Ans (.tuple #[.agg (rlC aR3).toArray, .bool false]) W) := by
  have := c_rlwith aR3 4 W h
  rw [al_6] at this
  exact this
def Fired (w : World) (e : Ending) (w' : World) : Prop := ∃ A c, e = .returned (.tuple #[.agg (rlC aR5).toArray, .slice A 1 c, .int .i64 0]) ∧ RD w' tt 1 A 1 [.int .i64 2] ∧ Below w.heap.size w w'
theorem e_5 (W : World) (h : TabD W) : Calls Tryd.prog 21 #[.agg (rlC aR4).toArray] W (Fired W) := by
  have := c_rlfire aR4 W h
  rw [al_5] at this
  refine this.mono ?_
  rintro e w' ⟨A, c, rfl, hr, hb⟩
  exact ⟨A, c, rfl, hr.lo (fun _ _ => trivial), hb⟩
def Missed (w : World) (e : Ending) (w' : World) : Prop := ∃ A c, e = .returned (.tuple #[.agg (rlZ).toArray, .slice A 0 c, .int .i64 13]) ∧ Below w.heap.size w w'
theorem e_7 (W : World) (h : TabD W) : Calls Tryd.prog 21 #[.agg (rlC aR3).toArray] W (Missed W) := by
  have := c_rlfire aR3 W h
  rw [al_7] at this
  refine this.mono ?_
  rintro e w' ⟨A, c, rfl, hr, hb⟩
  exact ⟨A, c, by rw [rlZ_eq]; rfl, hb⟩
theorem e_8 (W : World) (h : TabD W) : Calls Tryd.prog 20 #[.agg (rlC aR3).toArray] W (Ans (.bool false) W) := by
  have := c_rlfull aR3 W h
  rw [al_8] at this
  exact this
theorem e_9 (W : World) (h : TabD W) : Calls Tryd.prog 20 #[.agg (rlC aR4).toArray] W (Ans (.bool true) W) := by
  have := c_rlfull aR4 W h
  rw [al_9] at this
  exact this
theorem e_10 (W : World) (h : TabD W) : Calls Tryd.prog 18 #[.agg (rlC aR5).toArray] W (Ans (.bool true) W) := by
  have := c_rlfine aR5 W h
  rw [al_10] at this
  exact this
theorem e_11 (W : World) (h : TabD W) : Calls Tryd.prog 20 #[.agg (rlC aR5).toArray] W (Ans (.bool false) W) := by
  have := c_rlfull aR5 W h
  rw [al_11] at this
  exact this
theorem e_12 (W : World) (h : TabD W) : Calls Tryd.prog 20 #[.agg (rlZ).toArray] W (Ans (.bool false) W) := by
  have := c_rlfull RL.zero W h
  rw [al_12, rlZ_eq] at this
  exact this
theorem same_1 {W : World} {A : Option Addr} {c s : Nat} (hs : s = W.heap.size) (h : RD W tt 1 A 1 [.int .i64 2]) :
    Calls Tryd.prog 23 #[.slice A 1 c, .slice (some ⟨s, 0, none⟩) 1 1] (W.alloc (.cells #[.int .i64 2] 3)) (Ans (.bool true) (W.alloc (.cells #[.int .i64 2] 3))) :=
  (c_same (zs := [2]) (pl' := tt) (d := 1) (h.below (up_alloc _ _)) (by subst hs; exact RD.of_blk (xs := [.int .i64 2]) (Blk.new W [.int .i64 2] 3) rfl trivial) (by simp)).mono fun _ _ h => ⟨h.1, h.2.below⟩
/-- The variables that the last statement reads. -/
structure AlS (w : World) (b c d : Nat) (W : World) : Prop where
  up : Below w.heap.size w W
  k3 : Blk W b (rlC aR3) 31
  k4 : Blk W c (rlC aR4) 31
  k5 : Blk W d (rlC aR5) 31
theorem AlS.next {w W W' : World} {b c d : Nat} (h : AlS w b c d W) (hb : Below W.heap.size W W') : AlS w b c d W' :=
  ⟨up_trans h.up hb, h.k3.up hb h.k3.lt, h.k4.up hb h.k4.lt, h.k5.up hb h.k5.lt⟩

set_option maxRecDepth 100000 in
set_option maxHeartbeats 4000000 in
theorem c_alive21 (w : World) (hT : TabD w) : Calls Tryd.prog 5 #[] w fun e w' => e = .returned (.bool true) ∧ Below w.heap.size w w' := by
  have HT := Lib.hid (fun W (hW : Below w.heap.size w W) => hT.up hW)
  have HT0 := Lib.hid hT
  clear hT
  go_enter Tryd.func5, Tryd.ntmps5
  go_wp2_with fail
  refine (e_1 _ HT0.out).mono ?_; rintro e w2 ⟨rfl, hb⟩
  have HU2 := Lib.hid (up_trans hb (up_alloc w2 (.cells (rlC aR1).toArray 31)))
  have K := Lib.hid (Blk.new w2 (rlC aR1) 31)
  clear hb
  go_wp2_with (first | (refine snr (W := w2) (cs := rlC aR1) (zs := rlZ) (t := 31) (.tmp 1) (.tmp 20) rfl rfl rfl rfl info_roll rfl rlC_one ?_ ?_ ?_; (· rfl); (· rfl)) | (refine ldr (b := w2.heap.size) (t := 31) (cs := rlC aR1) (.tmp 1) rfl rfl Tryd.underlying31 rfl info_roll rfl ?_ ?_; (· exact K.out)))
  refine (e_2 _ (HT.out _ HU2.out)).mono ?_; rintro e w3 ⟨rfl, hb⟩
  have HU3 := Lib.hid (up_trans HU2.out (up_trans hb (up_alloc w3 (.cells (rlC aR2).toArray 31))))
  clear hb K
  have K := Lib.hid (Blk.new w3 (rlC aR2) 31)
  go_wp2_with (first | (refine snr (W := w3) (cs := rlC aR2) (zs := rlZ) (t := 31) (.tmp 3) (.tmp 25) rfl rfl rfl rfl info_roll rfl rlC_one ?_ ?_ ?_; (· rfl); (· rfl)) | (refine ldr (b := w3.heap.size) (t := 31) (cs := rlC aR2) (.tmp 3) rfl rfl Tryd.underlying31 rfl info_roll rfl ?_ ?_; (· exact K.out)))
  refine (e_3 _ (HT.out _ HU3.out)).mono ?_; rintro e w4 ⟨rfl, hb⟩
  have HU4 := Lib.hid (up_trans HU3.out (up_trans hb (up_alloc w4 (.cells (rlC aR3).toArray 31))))
  clear hb K
  have K := Lib.hid (Blk.new w4 (rlC aR3) 31)
  go_wp2_with (first | (refine snr (W := w4) (cs := rlC aR3) (zs := rlZ) (t := 31) (.tmp 5) (.tmp 30) rfl rfl rfl rfl info_roll rfl rlC_one ?_ ?_ ?_; (· rfl); (· rfl)) | (refine ldr (b := w4.heap.size) (t := 31) (cs := rlC aR3) (.tmp 5) rfl rfl Tryd.underlying31 rfl info_roll rfl ?_ ?_; (· exact K.out)))
  refine (e_4 _ (HT.out _ HU4.out)).mono ?_; rintro e w5 ⟨rfl, hb⟩
  have HY := Lib.hid (up_trans hb (up_alloc w5 (.cells (rlC aR4).toArray 31)))
  have HU5 := Lib.hid (up_trans HU4.out HY.out)
  have K5 := Lib.hid (K.out.up HY.out K.out.lt)
  clear hb K HY
  have K := Lib.hid (Blk.new w5 (rlC aR4) 31)
  go_wp2_with (first | (refine snr (W := w5) (cs := rlC aR4) (zs := rlZ) (t := 31) (.tmp 7) (.tmp 35) rfl rfl rfl rfl info_roll rfl rlC_one ?_ ?_ ?_; (· rfl); (· rfl)) | (refine ldr (b := w5.heap.size) (t := 31) (cs := rlC aR4) (.tmp 7) rfl rfl Tryd.underlying31 rfl info_roll rfl ?_ ?_; (· exact K.out)))
  refine (e_5 _ (HT.out _ HU5.out)).mono ?_; rintro e w6 ⟨A6, c6, rfl, hr, hb⟩
  have HY := Lib.hid (up_trans hb (up_alloc w6 (.cells (rlC aR5).toArray 31)))
  have HR := Lib.hid (hr.below (up_alloc w6 (.cells (rlC aR5).toArray 31)))
  have HS := Lib.hid (show AlS w w4.heap.size w5.heap.size w6.heap.size (w6.alloc (.cells (rlC aR5).toArray 31)) from ⟨up_trans HU5.out HY.out, K5.out.up HY.out K5.out.lt, K.out.up HY.out K.out.lt, Blk.new w6 (rlC aR5) 31⟩)
  clear hb hr K K5 HY HU2 HU3 HU4 HU5
  generalize hb4 : w4.heap.size = b4 at HS ⊢
  generalize hb5 : w5.heap.size = b5 at HS ⊢
  clear hb4 hb5
  go_wp2_with (first | (refine snr (W := w6) (cs := rlC aR5) (zs := rlZ) (t := 31) (.tmp 9) (.tmp 40) rfl rfl rfl rfl info_roll rfl rlC_one ?_ ?_ ?_; (· rfl); (· rfl)) | (refine ldr (b := b4) (t := 31) (cs := rlC aR3) (.tmp 5) rfl rfl Tryd.underlying31 rfl info_roll rfl ?_ ?_; (· exact HS.out.k3)))
  refine (e_6 _ (HT.out _ HS.out.up)).mono ?_; rintro e w7 ⟨rfl, hb⟩
  have HY := Lib.hid (up_trans hb (up_alloc w7 (.cells (rlC aR3).toArray 31)))
  have HR7 := Lib.hid (HR.out.below HY.out)
  have HS7 := Lib.hid (HS.out.next HY.out)
  clear hb HY HR HS
  generalize hb6 : w6.heap.size = b6 at HS7 ⊢
  clear hb6
  go_wp2_with (first | (refine snr (W := w7) (cs := rlC aR3) (zs := rlZ) (t := 31) (.tmp 12) (.tmp 46) rfl rfl rfl rfl info_roll rfl rlC_one ?_ ?_ ?_; (· rfl); (· rfl)) | (refine ldr (b := b4) (t := 31) (cs := rlC aR3) (.tmp 5) rfl rfl Tryd.underlying31 rfl info_roll rfl ?_ ?_; (· exact HS7.out.k3)))
  refine (e_7 _ (HT.out _ HS7.out.up)).mono ?_; rintro e w8 ⟨A8, c8, rfl, hb⟩
  have HY := Lib.hid (up_trans hb (up_alloc w8 (.cells (rlZ).toArray 31)))
  have HR8 := Lib.hid (HR7.out.below HY.out)
  have HS8 := Lib.hid (HS7.out.next HY.out)
  clear hb HY HR7 HS7
  go_wp2_with (first | (refine snr (W := w8) (cs := rlZ) (zs := rlZ) (t := 31) (.tmp 14) (.tmp 51) rfl rfl rfl rfl info_roll rfl rlZ_one ?_ ?_ ?_; (· rfl); (· rfl)) | (refine ldr (b := b4) (t := 31) (cs := rlC aR3) (.tmp 5) rfl rfl Tryd.underlying31 rfl info_roll rfl ?_ ?_; (· exact HS8.out.k3)))
  refine (e_8 _ (HT.out _ HS8.out.up)).mono ?_; rintro e w9 ⟨rfl, hb⟩
  have HR9 := Lib.hid (HR8.out.below hb)
  have HS9 := Lib.hid (HS8.out.next hb)
  clear hb HR8 HS8
  go_wp2_with (refine ldr (b := b5) (t := 31) (cs := rlC aR4) (.tmp 7) rfl rfl Tryd.underlying31 rfl info_roll rfl ?_ ?_; (· exact HS9.out.k4))
  refine (e_9 _ (HT.out _ HS9.out.up)).mono ?_; rintro e w10 ⟨rfl, hb⟩
  have HRA := Lib.hid (HR9.out.below hb)
  have HSA := Lib.hid (HS9.out.next hb)
  clear hb HR9 HS9
  obtain ⟨s, hs⟩ : ∃ s, s = w10.heap.size := ⟨_, rfl⟩
  have CS := Lib.hid (same_1 (c := c6) hs HRA.out)
  have HSZ := Lib.hid hs
  clear hs
  go_wp2_with fail
  rw [← HSZ.out]
  refine CS.out.mono ?_; rintro e w11 ⟨rfl, hb⟩
  have HSB := Lib.hid (HSA.out.next (up_trans (up_alloc w10 (.cells #[.int .i64 2] 3)) hb))
  clear hb HSA CS HRA
  go_wp2_with (refine ldr (b := b6) (t := 31) (cs := rlC aR5) (.tmp 9) rfl rfl Tryd.underlying31 rfl info_roll rfl ?_ ?_; (· exact HSB.out.k5))
  refine (e_10 _ (HT.out _ HSB.out.up)).mono ?_; rintro e w12 ⟨rfl, hb⟩
  have HSC := Lib.hid (HSB.out.next hb)
  clear hb HSB
  go_wp2_with (refine ldr (b := b6) (t := 31) (cs := rlC aR5) (.tmp 9) rfl rfl Tryd.underlying31 rfl info_roll rfl ?_ ?_; (· exact HSC.out.k5))
  refine (e_11 _ (HT.out _ HSC.out.up)).mono ?_; rintro e w13 ⟨rfl, hb⟩
  have HSD := Lib.hid (HSC.out.next hb)
  clear hb HSC
  go_wp2_with fail
  refine (e_12 _ (HT.out _ HSD.out.up)).mono ?_; rintro e w14 ⟨rfl, hb⟩
  have HU := Lib.hid (up_trans HSD.out.up hb)
  clear hb HSD
  go_wp2
  go_ret
  exact ⟨rfl, HU.out⟩
end Go.Proofs.YtlplfnfaoaomkaaDoor
