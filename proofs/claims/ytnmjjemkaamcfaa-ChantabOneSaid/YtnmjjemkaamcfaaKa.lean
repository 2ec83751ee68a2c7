/- The law's To, From and Same. -/
import Derived.Test.YtnmjjemkaamcfaaEa
import Derived.Test.YtnmjjemkaamcfaaIs
namespace Go.Proofs.Ytnmjjemkaamcfaa
open Go.RowKit

set_option maxRecDepth 100000 in
set_option maxHeartbeats 4000000 in
theorem c_to (w : World) (C : CP) (M : SM) : Calls Try.prog 26 #[.agg (chC C M).toArray] w fun e w' => e = .returned (.agg (chC C M).toArray) ∧ Below w.heap.size w w' := by
  have hX : Bx2 w ((w.alloc (.cells (chC C M).toArray 78)).alloc (.cells #[.int .i64 0, .int .i64 0, .int .i64 0, .int .i64 0, .int .i64 0, .slice none 0 0, .bool false, .slice none 0 0, .slice none 0 0, .bool false, .slice none 0 0] 73)) (chC C M) 78 chZ 73 := bx2 w _ _ chZ _
  generalize hw1 : (w.alloc (.cells (chC C M).toArray 78)).alloc (.cells #[.int .i64 0, .int .i64 0, .int .i64 0, .int .i64 0, .int .i64 0, .slice none 0 0, .bool false, .slice none 0 0, .slice none 0 0, .bool false, .slice none 0 0] 73) = w1 at hX
  have HW := Lib.hid hw1
  have HX := Lib.hid hX
  have c0 := hX.box.ck
  have c1 := hX.box.cr
  have c2 := hX.box.ci
  have c3 := hX.box.co
  have c4 := hX.box.clv
  have c5 := hX.box.cV
  have c6 := hX.box.cos
  have c7 := hX.box.cW
  have c8 := hX.box.cS
  have c9 := hX.box.cis
  have c10 := hX.box.cG
  clear hw1 hX
  go_enter Try.func26, Try.ntmps26
  go_upto_region 1 with fail
  rw [HW.out]
  go_wp2_with (refine st_row (cs := chC C M) HX.out.res rfl (.tmp 2) (.tmp 15) rfl rfl rfl info_ch rfl chC_one ?_)
  refine bodyPost_ret (v := .agg (chC C M).toArray) (results_c (fn := Try.f26) (p := 2) rfl _ _ _ rfl (HX.out.res.row _) Try.underlying73 rfl info_ch) rfl ?_
  exact ⟨rfl, below_setRow HX.out.up (by omega) _⟩

set_option maxRecDepth 100000 in
set_option maxHeartbeats 4000000 in
theorem c_from (w : World) (C : CP) (M : SM) : Calls Try.prog 36 #[.agg (chC C M).toArray] w fun e w' => e = .returned (.agg (chC C M).toArray) ∧ Below w.heap.size w w' := by
  have hX : Bx2 w ((w.alloc (.cells (chC C M).toArray 73)).alloc (.cells #[.int .i64 0, .int .i64 0, .int .i64 0, .int .i64 0, .int .i64 0, .slice none 0 0, .bool false, .slice none 0 0, .slice none 0 0, .bool false, .slice none 0 0] 78)) (chC C M) 73 chZ 78 := bx2 w _ _ chZ _
  generalize hw1 : (w.alloc (.cells (chC C M).toArray 73)).alloc (.cells #[.int .i64 0, .int .i64 0, .int .i64 0, .int .i64 0, .int .i64 0, .slice none 0 0, .bool false, .slice none 0 0, .slice none 0 0, .bool false, .slice none 0 0] 78) = w1 at hX
  have HW := Lib.hid hw1
  have HX := Lib.hid hX
  have c0 := hX.box.ck
  have c1 := hX.box.cr
  have c2 := hX.box.ci
  have c3 := hX.box.co
  have c4 := hX.box.clv
  have c5 := hX.box.cV
  have c6 := hX.box.cos
  have c7 := hX.box.cW
  have c8 := hX.box.cS
  have c9 := hX.box.cis
  have c10 := hX.box.cG
  clear hw1 hX
  go_enter Try.func36, Try.ntmps36
  go_upto_region 1 with fail
  rw [HW.out]
  go_wp2_with (refine st_row (cs := chC C M) HX.out.res rfl (.tmp 2) (.tmp 15) rfl rfl rfl info_rch rfl chC_one ?_)
  refine bodyPost_ret (v := .agg (chC C M).toArray) (results_c (fn := Try.f36) (p := 2) rfl _ _ _ rfl (HX.out.res.row _) Try.underlying78 rfl info_rch) rfl ?_
  exact ⟨rfl, below_setRow HX.out.up (by omega) _⟩

theorem same_ln {w : World} {pl pl' : Nat → Prop} {A B : Option Addr} {n m c d : Nat} {L : List Int} (h : LnW w pl A n c L) (k : LnW w pl' B m d L) (hn : n ≤ 1000) :
    Calls Try.prog 21 #[.slice A n c, .slice B m d] w fun e w' => e = .returned (.bool true) ∧ Below w.heap.size w w' := by
  obtain rfl : m = n := k.len.symm.trans h.len
  have e := h.len
  subst e
  exact (c_same (zs := L) h.rd k.rd (by omega)).mono fun _ _ he => ⟨he.1, he.2.below⟩

set_option maxRecDepth 100000 in
set_option maxHeartbeats 4000000 in
theorem c_csame {w : World} {pl pl' : Nat → Prop} {C : CP} {M M' : SM} (h : ChW w pl C M) (k : ChW w pl' C M') (hn : ChFew M) :
    Calls Try.prog 35 #[.agg (chC C M).toArray, .agg (chC C M').toArray] w fun e w' => e = .returned (.bool true) ∧ Below w.heap.size w w' := by
  have hX : Below w.heap.size w ((w.alloc (.cells (chC C M).toArray 78)).alloc (.cells (chC C M').toArray 78)) := two_up w _ _
  have hA : Blk ((w.alloc (.cells (chC C M).toArray 78)).alloc (.cells (chC C M').toArray 78)) w.heap.size (chC C M) 78 := (Blk.new w _ _).alloc _
  have hB : Blk ((w.alloc (.cells (chC C M).toArray 78)).alloc (.cells (chC C M').toArray 78)) (w.heap.size + 1) (chC C M') 78 := by
    have := Blk.new (w.alloc (.cells (chC C M).toArray 78)) (chC C M') 78
    rw [show (w.alloc (.cells (chC C M).toArray 78)).heap.size = w.heap.size + 1 by simp] at this
    exact this
  generalize hw1 : (w.alloc (.cells (chC C M).toArray 78)).alloc (.cells (chC C M').toArray 78) = w1 at hX hA hB
  have HW := Lib.hid hw1
  have HX := Lib.hid hX
  have HA := Lib.hid hA
  have HB := Lib.hid hB
  have S1 := Lib.hid (fun W (hW : Below w.heap.size w W) => same_ln (h.v.below hW) (k.v.below hW) hn.v)
  have S2 := Lib.hid (fun W (hW : Below w.heap.size w W) => same_ln (h.w_.below hW) (k.w_.below hW) hn.w_)
  have S3 := Lib.hid (fun W (hW : Below w.heap.size w W) => same_ln (h.s.below hW) (k.s.below hW) hn.s)
  have S4 := Lib.hid (fun W (hW : Below w.heap.size w W) => same_ln (h.g.below hW) (k.g.below hW) hn.g)
  have g0 : (C.k == C.k) = true := beq_self_eq_true _
  have g1 : (C.r == C.r) = true := beq_self_eq_true _
  have g2 : (C.i == C.i) = true := beq_self_eq_true _
  have g3 : (C.o == C.o) = true := beq_self_eq_true _
  have g4 : (C.lv == C.lv) = true := beq_self_eq_true _
  have g5 : (C.os == C.os) = true := beq_self_eq_true _
  have g6 : (C.is == C.is) = true := beq_self_eq_true _
  clear h k hn hw1 hX hA hB
  have a0 := HA.out.ck
  have a1 := HA.out.cr
  have a2 := HA.out.ci
  have a3 := HA.out.co
  have a4 := HA.out.clv
  have a5 := HA.out.cV
  have a6 := HA.out.cos
  have a7 := HA.out.cW
  have a8 := HA.out.cS
  have a9 := HA.out.cis
  have a10 := HA.out.cG
  have b0 := HB.out.ck
  have b1 := HB.out.cr
  have b2 := HB.out.ci
  have b3 := HB.out.co
  have b4 := HB.out.clv
  have b5 := HB.out.cV
  have b6 := HB.out.cos
  have b7 := HB.out.cW
  have b8 := HB.out.cS
  have b9 := HB.out.cis
  have b10 := HB.out.cG
  go_enter Try.func35, Try.ntmps35
  go_upto_region 1 with fail
  rw [HW.out]
  go_wp2_with fail
  refine (S1.out _ HX.out).mono ?_; rintro e v1 ⟨rfl, hb1⟩
  clear a0 a1 a2 a3 a4 a5 a6 a7 a8 a9 a10 b0 b1 b2 b3 b4 b5 b6 b7 b8 b9 b10
  have HX1 := Lib.hid (up_trans HX.out hb1)
  have HA1 := Lib.hid (HA.out.up hb1 HA.out.lt)
  have HB1 := Lib.hid (HB.out.up hb1 HB.out.lt)
  clear hb1
  have a0 := HA1.out.ck
  have a1 := HA1.out.cr
  have a2 := HA1.out.ci
  have a3 := HA1.out.co
  have a4 := HA1.out.clv
  have a5 := HA1.out.cV
  have a6 := HA1.out.cos
  have a7 := HA1.out.cW
  have a8 := HA1.out.cS
  have a9 := HA1.out.cis
  have a10 := HA1.out.cG
  have b0 := HB1.out.ck
  have b1 := HB1.out.cr
  have b2 := HB1.out.ci
  have b3 := HB1.out.co
  have b4 := HB1.out.clv
  have b5 := HB1.out.cV
  have b6 := HB1.out.cos
  have b7 := HB1.out.cW
  have b8 := HB1.out.cS
  have b9 := HB1.out.cis
  have b10 := HB1.out.cG
  go_wp2_with fail
  refine (S2.out _ HX1.out).mono ?_; rintro e v2 ⟨rfl, hb2⟩
  clear a0 a1 a2 a3 a4 a5 a6 a7 a8 a9 a10 b0 b1 b2 b3 b4 b5 b6 b7 b8 b9 b10
  have HX2 := Lib.hid (up_trans HX1.out hb2)
  have HA2 := Lib.hid (HA1.out.up hb2 HA1.out.lt)
  have HB2 := Lib.hid (HB1.out.up hb2 HB1.out.lt)
  clear hb2
  have a0 := HA2.out.ck
  have a1 := HA2.out.cr
  have a2 := HA2.out.ci
  have a3 := HA2.out.co
  have a4 := HA2.out.clv
  have a5 := HA2.out.cV
  have a6 := HA2.out.cos
  have a7 := HA2.out.cW
  have a8 := HA2.out.cS
  have a9 := HA2.out.cis
  have a10 := HA2.out.cG
  have b0 := HB2.out.ck
  have b1 := HB2.out.cr
  have b2 := HB2.out.ci
  have b3 := HB2.out.co
  have b4 := HB2.out.clv
  have b5 := HB2.out.cV
  have b6 := HB2.out.cos
  have b7 := HB2.out.cW
  have b8 := HB2.out.cS
  have b9 := HB2.out.cis
  have b10 := HB2.out.cG
  go_wp2_with fail
  refine (S3.out _ HX2.out).mono ?_; rintro e v3 ⟨rfl, hb3⟩
  clear a0 a1 a2 a3 a4 a5 a6 a7 a8 a9 a10 b0 b1 b2 b3 b4 b5 b6 b7 b8 b9 b10
  have HX3 := Lib.hid (up_trans HX2.out hb3)
  have HA3 := Lib.hid (HA2.out.up hb3 HA2.out.lt)
  have HB3 := Lib.hid (HB2.out.up hb3 HB2.out.lt)
  clear hb3
  have a0 := HA3.out.ck
  have a1 := HA3.out.cr
  have a2 := HA3.out.ci
  have a3 := HA3.out.co
  have a4 := HA3.out.clv
  have a5 := HA3.out.cV
  have a6 := HA3.out.cos
  have a7 := HA3.out.cW
  have a8 := HA3.out.cS
  have a9 := HA3.out.cis
  have a10 := HA3.out.cG
  have b0 := HB3.out.ck
  have b1 := HB3.out.cr
  have b2 := HB3.out.ci
  have b3 := HB3.out.co
  have b4 := HB3.out.clv
  have b5 := HB3.out.cV
  have b6 := HB3.out.cos
  have b7 := HB3.out.cW
  have b8 := HB3.out.cS
  have b9 := HB3.out.cis
  have b10 := HB3.out.cG
  go_wp2_with fail
  refine (S4.out _ HX3.out).mono ?_; rintro e v4 ⟨rfl, hb4⟩
  clear a0 a1 a2 a3 a4 a5 a6 a7 a8 a9 a10 b0 b1 b2 b3 b4 b5 b6 b7 b8 b9 b10
  have HX4 := Lib.hid (up_trans HX3.out hb4)
  have HA4 := Lib.hid (HA3.out.up hb4 HA3.out.lt)
  have HB4 := Lib.hid (HB3.out.up hb4 HB3.out.lt)
  clear hb4
  have a0 := HA4.out.ck
  have a1 := HA4.out.cr
  have a2 := HA4.out.ci
  have a3 := HA4.out.co
  have a4 := HA4.out.clv
  have a5 := HA4.out.cV
  have a6 := HA4.out.cos
  have a7 := HA4.out.cW
  have a8 := HA4.out.cS
  have a9 := HA4.out.cis
  have a10 := HA4.out.cG
  have b0 := HB4.out.ck
  have b1 := HB4.out.cr
  have b2 := HB4.out.ci
  have b3 := HB4.out.co
  have b4 := HB4.out.clv
  have b5 := HB4.out.cV
  have b6 := HB4.out.cos
  have b7 := HB4.out.cW
  have b8 := HB4.out.cS
  have b9 := HB4.out.cis
  have b10 := HB4.out.cG
  go_wp2_with fail
  go_ret
  exact ⟨rfl, HX4.out⟩
end Go.Proofs.Ytnmjjemkaamcfaa
