/- alive. -/
import Derived.Test.YtailbjhffkcnfaaKa
import Derived.Test.YtailbjhffkcnfaaJi
import Derived.Test.YtailbjhffkcnfaaEc
namespace Go.Proofs.Ytailbjhffkcnfaa
open Go.RowKit

def cA1 : CP := ⟨0, 0, 4, 4, 0, [], false, [], [], false, []⟩
def cA2 : CP := ⟨0, 0, 4, 4, 0, [], false, [3], [7], false, []⟩
def cA3 : CP := ⟨0, 0, 4, 4, 0, [], false, [3], [7], false, [5]⟩
def cA5 : CP := ⟨0, 0, 4, 4, 5, [], false, [3], [7], false, [5]⟩
theorem ch_lit1 : chNew 0 0 4 4 = cA1 ∧ ccE 0 0 4 4 = 0 := ⟨by kernel_rfl, by decide⟩
theorem ch_lit2 : chSend cA1 3 7 = cA2 ∧ chSendE cA1 3 7 = 0 := ⟨by kernel_rfl, by decide⟩
theorem ch_lit3 : chRecv cA2 5 = cA3 ∧ chRecvE cA2 5 = 0 := ⟨by kernel_rfl, by decide⟩
theorem ch_lit4 : chRecvE cA3 6 = 15 := by decide
theorem ch_lit5 : chLeave (chLeave cA3 3) 5 = cA1 := by kernel_rfl
theorem ch_lit6 : chPois cA3 5 = cA5 ∧ chPoisE cA3 5 = 0 := ⟨by kernel_rfl, by decide⟩
theorem ch_lit7 : chFine cA3 = true ∧ chMay cA3 1 = true := by decide
theorem ch_lit8 : chHit cA5 3 = true ∧ chHit cA5 5 = true ∧ chHit cA5 6 = false := by decide
theorem ch_lit9 : chWhat cA5 = [] ∧ chWhat cA3 = [1] := by decide
theorem ch_lit10 : ccE 4 0 0 0 = 12 := by decide
theorem mv_one : ∀ v ∈ [Value.int .i64 3, .int .i64 5, .int .i64 7], v.oneCell' = true := by
  intro v hv
  simp only [List.mem_cons, List.not_mem_nil, or_false] at hv
  rcases hv with rfl | rfl | rfl <;> rfl
theorem fewA {w : World} {pl : Nat → Prop} {C : CP} {M : SM} (h : ChW w pl C M) (k : C.V.length ≤ 1 ∧ C.W.length ≤ 1 ∧ C.S.length ≤ 1 ∧ C.G.length ≤ 1) : ChFew M := ChFew.of h (by omega)

set_option maxRecDepth 100000 in
set_option maxHeartbeats 8000000 in
theorem c_alive (w : World) : Calls Try.prog 7 #[] w fun e w' => e = .returned (.bool true) ∧ Below w.heap.size w w' := by
  have C1 := fun W => c_chnew 0 0 4 4 W
  rw [ch_lit1.1, ch_lit1.2] at C1
  go_enter Try.func7, Try.ntmps7
  go_wp2_with fail
  refine (C1 _).mono ?_
  rintro e w1 ⟨rfl, hb1⟩
  have HU1 := Lib.hid (up_trans hb1 (up_alloc w1 (.cells (chC cA1 SM.nil).toArray 33)))
  have HKc1 := Lib.hid (Blk.new w1 (chC cA1 SM.nil) 33)
  clear hb1
  have D2 := Lib.hid (c_chsend (ChW.nil (w1.alloc (.cells (chC cA1 SM.nil).toArray 33)) (fun _ => True) (C := cA1) ⟨rfl, rfl, rfl, rfl⟩) ChFew.nil (fun _ _ => trivial) 3 7)
  rw [ch_lit2.1, ch_lit2.2] at D2
  go_wp2_with (first | (refine sn_row (W := w1) (cs := chC cA1 SM.nil) (zs := chZ) (.tmp 1) (.tmp 17) rfl rfl rfl rfl rfl rfl info_ch rfl chC_one ?_) | (refine lw_row HKc1.out (.tmp 1) rfl rfl Try.underlying33 rfl info_ch rfl ?_))
  refine D2.out.mono ?_
  rintro e w2 ⟨M2, rfl, hch2, hb2⟩
  have HU2 := Lib.hid (up_trans HU1.out (up_trans hb2 (up_alloc w2 (.cells (chC cA2 M2).toArray 33))))
  have HKd2 := Lib.hid (Blk.new w2 (chC cA2 M2) 33)
  have HVd2 := Lib.hid (hch2.below (up_alloc w2 (.cells (chC cA2 M2).toArray 33)))
  clear hb2 hch2
  have D3 := Lib.hid (c_chrecv HVd2.out (fewA HVd2.out (by decide)) (fun _ _ => trivial) 5)
  rw [ch_lit3.1, ch_lit3.2] at D3
  go_wp2_with (first | (refine sn_row (W := w2) (cs := chC cA2 M2) (zs := chZ) (.tmp 3) (.tmp 22) rfl rfl rfl rfl rfl rfl info_ch rfl chC_one ?_) | (refine lw_row HKd2.out (.tmp 3) rfl rfl Try.underlying33 rfl info_ch rfl ?_))
  refine D3.out.mono ?_
  rintro e w3 ⟨M3, rfl, hch3, hb3⟩
  have HU3 := Lib.hid (up_trans HU2.out (up_trans hb3 (up_alloc w3 (.cells (chC cA3 M3).toArray 33))))
  have HKg3 := Lib.hid (Blk.new w3 (chC cA3 M3) 33)
  have HVg3 := Lib.hid (hch3.below (up_alloc w3 (.cells (chC cA3 M3).toArray 33)))
  have HF3 := Lib.hid (fewA hch3 (by decide))
  clear hb3 hch3
  have D4 := Lib.hid (c_chrecv HVg3.out HF3.out (fun _ _ => trivial) 6)
  rw [ch_lit4] at D4
  go_wp2_with (first | (refine sn_row (W := w3) (cs := chC cA3 M3) (zs := chZ) (.tmp 5) (.tmp 27) rfl rfl rfl rfl rfl rfl info_ch rfl chC_one ?_) | (refine lw_row HKg3.out (.tmp 5) rfl rfl Try.underlying33 rfl info_ch rfl ?_))
  refine D4.out.mono ?_
  rintro e w4 ⟨M4, rfl, -, hb4⟩
  have HY4 := Lib.hid (up_trans hb4 (up_alloc w4 (.cells (chC (chRecv cA3 6) M4).toArray 33)))
  have HU4 := Lib.hid (up_trans HU3.out HY4.out)
  clear hb4
  have HKg4 := Lib.hid (HKg3.out.up (HY4.out) HKg3.out.lt)
  have HVg4 := Lib.hid (HVg3.out.below (HY4.out))
  have D5 := Lib.hid (c_chpass HVg4.out HF3.out (fun _ _ => trivial) ch_lit7.1 ch_lit7.2)
  change Hid (Calls _ _ _ _ (ChDPost _ _ (chLeave (chLeave cA3 3) 5) 3 5 7 _)) at D5
  rw [ch_lit5] at D5
  go_wp2_with (first | (refine sn_row (W := w4) (cs := chC (chRecv cA3 6) M4) (zs := chZ) (.tmp 7) (.tmp 32) rfl rfl rfl rfl rfl rfl info_ch rfl chC_one ?_) | (refine lw_row HKg4.out (.tmp 5) rfl rfl Try.underlying33 rfl info_ch rfl ?_))
  refine D5.out.mono ?_
  rintro e w5 ⟨M5, rfl, hch5, hb5⟩
  have hz1 : Blk ((w5.alloc (.cells chZ.toArray 33)).alloc (.cells #[.int .i64 0, .int .i64 0, .int .i64 0] 57)) w5.heap.size chZ 33 := (Blk.new w5 chZ 33).alloc _
  have hz2 : Blk ((w5.alloc (.cells chZ.toArray 33)).alloc (.cells #[.int .i64 0, .int .i64 0, .int .i64 0] 57)) (w5.heap.size + 1) [.int .i64 0, .int .i64 0, .int .i64 0] 57 := by
    have := Blk.new (w5.alloc (.cells chZ.toArray 33)) [.int .i64 0, .int .i64 0, .int .i64 0] 57
    rw [show (w5.alloc (.cells chZ.toArray 33)).heap.size = w5.heap.size + 1 by simp] at this
    exact this
  have hz3 : Blk (((w5.alloc (.cells chZ.toArray 33)).alloc (.cells #[.int .i64 0, .int .i64 0, .int .i64 0] 57)).setRow w5.heap.size (chC cA1 M5).toArray) (w5.heap.size + 1) [.int .i64 0, .int .i64 0, .int .i64 0] 57 := hz2.rowOther (by omega) _
  have HZ1 := Lib.hid hz1
  have HZ3 := Lib.hid hz3
  have HKi6 : Hid (Blk ((((w5.alloc (.cells chZ.toArray 33)).alloc (.cells #[.int .i64 0, .int .i64 0, .int .i64 0] 57)).setRow w5.heap.size (chC cA1 M5).toArray).setRow (w5.heap.size + 1) [.int .i64 3, .int .i64 5, .int .i64 7].toArray) w5.heap.size (chC cA1 M5) 33) := Lib.hid ((hz1.row _).rowOther (by omega) _)
  have HKm6 : Hid (Blk ((((w5.alloc (.cells chZ.toArray 33)).alloc (.cells #[.int .i64 0, .int .i64 0, .int .i64 0] 57)).setRow w5.heap.size (chC cA1 M5).toArray).setRow (w5.heap.size + 1) [.int .i64 3, .int .i64 5, .int .i64 7].toArray) (w5.heap.size + 1) [.int .i64 3, .int .i64 5, .int .i64 7] 57) := Lib.hid (hz3.row _)
  have HY6 : Hid (Below w4.heap.size w4 w4) := Lib.hid (Below.refl _ _)
  clear HY6
  have HY6 := Lib.hid (up_trans hb5 (below_setRow (below_setRow (two_up w5 (.cells chZ.toArray 33) (.cells #[.int .i64 0, .int .i64 0, .int .i64 0] 57)) (Nat.le_refl _) (chC cA1 M5).toArray) (by omega : w5.heap.size ≤ w5.heap.size + 1) [.int .i64 3, .int .i64 5, .int .i64 7].toArray))
  have HU6 := Lib.hid (up_trans HU4.out HY6.out)
  have hl1 : M5.W.n = 0 := by have := hch5.w_.len; simpa [cA1] using this.symm
  have hl2 : M5.G.n = 0 := by have := hch5.g.len; simpa [cA1] using this.symm
  have hl3 : M5.S.n = 0 := by have := hch5.s.len; simpa [cA1] using this.symm
  have HLL := Lib.hid (And.intro hl1 (And.intro hl2 hl3))
  clear hb5 hch5 hz1 hz2 hz3 hl1 hl2 hl3
  have HKg6 := Lib.hid (HKg4.out.up (HY6.out) HKg4.out.lt)
  have HVg6 := Lib.hid (HVg4.out.below (HY6.out))
  have D6 := Lib.hid (c_chpois HVg6.out HF3.out (fun _ _ => trivial) 5)
  rw [ch_lit6.1, ch_lit6.2] at D6
  go_wp2_with (first | (refine st_row (cs := chC cA1 M5) HZ1.out rfl (.tmp 9) (.tmp 37) rfl rfl rfl info_ch rfl chC_one ?_) | (refine st_row (cs := [.int .i64 3, .int .i64 5, .int .i64 7]) HZ3.out rfl (.tmp 10) (.tmp 38) rfl rfl rfl info_mv rfl mv_one ?_) | (refine lw_row HKg6.out (.tmp 5) rfl rfl Try.underlying33 rfl info_ch rfl ?_))
  refine D6.out.mono ?_
  rintro e w7 ⟨M7, rfl, hch7, hb7⟩
  have HY7 := Lib.hid (up_trans hb7 (up_alloc w7 (.cells (chC cA5 M7).toArray 33)))
  have HU7 := Lib.hid (up_trans HU6.out HY7.out)
  have HKk7 := Lib.hid (Blk.new w7 (chC cA5 M7) 33)
  have HVk7 := Lib.hid (hch7.below (up_alloc w7 (.cells (chC cA5 M7).toArray 33)))
  have HF7 := Lib.hid (fewA hch7 (by decide))
  clear hb7 hch7
  have HKg7 := Lib.hid (HKg6.out.up (HY7.out) HKg6.out.lt)
  have HKi7 := Lib.hid (HKi6.out.up (HY7.out) HKi6.out.lt)
  have HKm7 := Lib.hid (HKm6.out.up (HY7.out) HKm6.out.lt)
  have HVg7 := Lib.hid (HVg6.out.below (HY7.out))
  have m0 := HKm7.out.cell 0 _ rfl
  have m1 := HKm7.out.cell 1 _ rfl
  have m2 := HKm7.out.cell 2 _ rfl
  have i7 := HKi7.out.cW
  have i8 := HKi7.out.cS
  have i10 := HKi7.out.cG
  rw [HLL.out.1] at i7
  rw [HLL.out.2.1] at i10
  rw [HLL.out.2.2] at i8
  have D8 := Lib.hid (c_chhit HVk7.out HF7.out 3)
  rw [ch_lit8.1] at D8
  go_wp2_with (first | (refine sn_row (W := w7) (cs := chC cA5 M7) (zs := chZ) (.tmp 12) (.tmp 43) rfl rfl rfl rfl rfl rfl info_ch rfl chC_one ?_) | (refine lw_row HKk7.out (.tmp 12) rfl rfl Try.underlying33 rfl info_ch rfl ?_))
  refine D8.out.mono ?_
  rintro e w8 ⟨rfl, hb8⟩
  clear m0 m1 m2 i7 i8 i10
  have HY8 := Lib.hid hb8
  have HU8 := Lib.hid (up_trans HU7.out HY8.out)
  clear hb8
  have HKg8 := Lib.hid (HKg7.out.up (HY8.out) HKg7.out.lt)
  have HKk8 := Lib.hid (HKk7.out.up (HY8.out) HKk7.out.lt)
  have HVg8 := Lib.hid (HVg7.out.below (HY8.out))
  have HVk8 := Lib.hid (HVk7.out.below (HY8.out))
  have D9 := Lib.hid (c_chhit HVk8.out HF7.out 5)
  rw [ch_lit8.2.1] at D9
  go_wp2_with (first | (refine lw_row HKk8.out (.tmp 12) rfl rfl Try.underlying33 rfl info_ch rfl ?_))
  refine D9.out.mono ?_
  rintro e w9 ⟨rfl, hb9⟩
  have HY9 := Lib.hid hb9
  have HU9 := Lib.hid (up_trans HU8.out HY9.out)
  clear hb9
  have HKg9 := Lib.hid (HKg8.out.up (HY9.out) HKg8.out.lt)
  have HKk9 := Lib.hid (HKk8.out.up (HY9.out) HKk8.out.lt)
  have HVg9 := Lib.hid (HVg8.out.below (HY9.out))
  have HVk9 := Lib.hid (HVk8.out.below (HY9.out))
  have D10 := Lib.hid (c_chhit HVk9.out HF7.out 6)
  rw [ch_lit8.2.2] at D10
  go_wp2_with (first | (refine lw_row HKk9.out (.tmp 12) rfl rfl Try.underlying33 rfl info_ch rfl ?_))
  refine D10.out.mono ?_
  rintro e w10 ⟨rfl, hb10⟩
  have HY10 := Lib.hid hb10
  have HU10 := Lib.hid (up_trans HU9.out HY10.out)
  clear hb10
  have HKg10 := Lib.hid (HKg9.out.up (HY10.out) HKg9.out.lt)
  have HKk10 := Lib.hid (HKk9.out.up (HY10.out) HKk9.out.lt)
  have HVg10 := Lib.hid (HVg9.out.below (HY10.out))
  have HVk10 := Lib.hid (HVk9.out.below (HY10.out))
  have D11 := Lib.hid (c_chwhat HVk10.out HF7.out)
  rw [ch_lit9.1] at D11
  go_wp2_with (first | (refine lw_row HKk10.out (.tmp 12) rfl rfl Try.underlying33 rfl info_ch rfl ?_))
  refine D11.out.mono ?_
  rintro e w11 ⟨B1, e1, rfl, -, -, -, hb11⟩
  have HY11 := Lib.hid hb11
  have HU11 := Lib.hid (up_trans HU10.out HY11.out)
  clear hb11
  have HKg11 := Lib.hid (HKg10.out.up (HY11.out) HKg10.out.lt)
  have HKk11 := Lib.hid (HKk10.out.up (HY11.out) HKk10.out.lt)
  have HVg11 := Lib.hid (HVg10.out.below (HY11.out))
  have HVk11 := Lib.hid (HVk10.out.below (HY11.out))
  have D12 := Lib.hid (c_chwhat HVg11.out HF3.out)
  rw [ch_lit9.2] at D12
  go_wp2_with (first | (refine lw_row HKg11.out (.tmp 5) rfl rfl Try.underlying33 rfl info_ch rfl ?_))
  refine D12.out.mono ?_
  rintro e w12 ⟨B2, e2, rfl, -, -, -, hb12⟩
  have HY12 := Lib.hid hb12
  have HU12 := Lib.hid (up_trans HU11.out HY12.out)
  clear hb12
  have HKg12 := Lib.hid (HKg11.out.up (HY12.out) HKg11.out.lt)
  have HKk12 := Lib.hid (HKk11.out.up (HY12.out) HKk11.out.lt)
  have HVg12 := Lib.hid (HVg11.out.below (HY12.out))
  have HVk12 := Lib.hid (HVk11.out.below (HY12.out))
  have D13 := Lib.hid (c_chfine HVg12.out HF3.out)
  rw [ch_lit7.1] at D13
  go_wp2_with (first | (refine lw_row HKg12.out (.tmp 5) rfl rfl Try.underlying33 rfl info_ch rfl ?_))
  refine D13.out.mono ?_
  rintro e w13 ⟨rfl, hb13⟩
  have HY13 := Lib.hid hb13
  have HU13 := Lib.hid (up_trans HU12.out HY13.out)
  clear hb13
  have HKg13 := Lib.hid (HKg12.out.up (HY13.out) HKg12.out.lt)
  have HKk13 := Lib.hid (HKk12.out.up (HY13.out) HKk12.out.lt)
  have HVg13 := Lib.hid (HVg12.out.below (HY13.out))
  have HVk13 := Lib.hid (HVk12.out.below (HY13.out))
  have D14 := Lib.hid (fun W => c_chk 4 0 0 0 W)
  rw [ch_lit10] at D14
  go_wp2_with fail
  refine (D14.out _).mono ?_
  rintro e w14 ⟨rfl, hb14⟩
  have HU14 := Lib.hid (up_trans HU13.out hb14)
  clear hb14
  go_wp2_with fail
  go_ret
  exact ⟨rfl, HU14.out⟩
end Go.Proofs.Ytailbjhffkcnfaa
