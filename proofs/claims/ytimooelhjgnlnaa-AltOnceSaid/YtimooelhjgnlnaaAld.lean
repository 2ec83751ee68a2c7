/- alive. -/
import Derived.Test.YtimooelhjgnlnaaAlc
namespace Go.Proofs.Ytimooelhjgnlnaa
open Go.RowKit

set_option maxRecDepth 100000 in
set_option maxHeartbeats 4000000 in
theorem c_alive (w : World) : Calls Try.prog 10 #[] w fun e w' => e = .returned (.bool true) ∧ Below w.heap.size w w' := by
  have C1 := Lib.hid (c_albegin 2 (by decide) (by decide) w)
  have C2 := Lib.hid (fun V => c_alput1 2 0 (by decide) (by decide) (by decide) (by decide) (by decide) V)
  have C3 := Lib.hid (fun V => c_alput2 2 1 (by decide) (by decide) (by decide) (by decide) (by decide) V)
  have C4 := Lib.hid (fun V => c_altake1 2 0 (by decide) (by decide) (by decide) (by decide) (by decide) V)
  have C5 := Lib.hid (fun V => c_alwd0 2 0 0 (by decide) (by decide) (by decide) (by decide) (by decide) (by decide) (by decide) V)
  have C6 := Lib.hid (fun V => c_altakeE 2 1 0 (by decide) (by decide) (by decide) (by decide) V)
  have C7 := Lib.hid (fun V => c_alfine 2 2 2 0 V)
  have C8 := Lib.hid (fun V => c_alleft1 2 0 (by decide) (by decide) (by decide) (by decide) V)
  rw [show alFine 2 2 2 0 = true from by decide] at C7
  rw [show alPlace 2 0 0 = 1 from by decide] at C5
  simp only [show (0 : Int) + 1 = 1 from rfl] at C2
  simp only [show (1 : Int) + 1 = 2 from rfl] at C3
  simp only [show (2 : Int) - 0 = 2 from rfl] at C8
  have hE := eql_al 0 0 0 0 0 0 0 0
  simp only [beq_self_eq_true, Bool.and_self] at hE
  go_enter Try.func10, Try.ntmps10
  go_wp2_with fail
  refine C1.out.mono ?_; rintro e w1 ⟨rfl, hb1⟩
  have U1 := Lib.hid hb1
  clear hb1
  have P1_1 := Lib.hid (Blk.new w1 [.int .i64 1, .int .i64 2, .int .i64 0, .int .i64 0] 23)
  change Hid (Blk (w1.alloc (.cells #[.int .i64 1, .int .i64 2, .int .i64 0, .int .i64 0] 23)) _ _ _) at P1_1
  have V1 : Hid (Below w.heap.size w (w1.alloc (.cells #[.int .i64 1, .int .i64 2, .int .i64 0, .int .i64 0] 23))) := Lib.hid (U1.out.alloc U1.out.size _)
  clear U1
  go_wp2_with fail
  refine (C2.out _).mono ?_; rintro e w2 ⟨rfl, hb2⟩
  have S2_1 := Lib.hid (P1_1.out.up hb2 P1_1.out.lt)
  have U2 := Lib.hid (V1.out.trans (hb2.mono V1.out.size))
  clear hb2 V1 P1_1
  have P2_1 := Lib.hid (S2_1.out.alloc (.cells #[.int .i64 1, .int .i64 2, .int .i64 1, .int .i64 0] 23))
  have P2_2 := Lib.hid (Blk.new w2 [.int .i64 1, .int .i64 2, .int .i64 1, .int .i64 0] 23)
  change Hid (Blk (w2.alloc (.cells #[.int .i64 1, .int .i64 2, .int .i64 1, .int .i64 0] 23)) _ _ _) at P2_2
  have V2 : Hid (Below w.heap.size w (w2.alloc (.cells #[.int .i64 1, .int .i64 2, .int .i64 1, .int .i64 0] 23))) := Lib.hid (U2.out.alloc U2.out.size _)
  clear U2 S2_1
  go_wp2_with fail
  refine (C3.out _).mono ?_; rintro e w3 ⟨rfl, hb3⟩
  have S3_1 := Lib.hid (P2_1.out.up hb3 P2_1.out.lt)
  have S3_2 := Lib.hid (P2_2.out.up hb3 P2_2.out.lt)
  have U3 := Lib.hid (V2.out.trans (hb3.mono V2.out.size))
  clear hb3 V2 P2_1 P2_2
  have P3_1 := Lib.hid (S3_1.out.alloc (.cells #[.int .i64 2, .int .i64 2, .int .i64 2, .int .i64 0] 23))
  have P3_2 := Lib.hid (S3_2.out.alloc (.cells #[.int .i64 2, .int .i64 2, .int .i64 2, .int .i64 0] 23))
  have P3_3 := Lib.hid (Blk.new w3 [.int .i64 2, .int .i64 2, .int .i64 2, .int .i64 0] 23)
  change Hid (Blk (w3.alloc (.cells #[.int .i64 2, .int .i64 2, .int .i64 2, .int .i64 0] 23)) _ _ _) at P3_3
  have V3 : Hid (Below w.heap.size w (w3.alloc (.cells #[.int .i64 2, .int .i64 2, .int .i64 2, .int .i64 0] 23))) := Lib.hid (U3.out.alloc U3.out.size _)
  clear U3 S3_1 S3_2
  go_wp2_with fail
  refine (C4.out _).mono ?_; rintro e w4 ⟨rfl, hb4⟩
  have S4_1 := Lib.hid (P3_1.out.up hb4 P3_1.out.lt)
  have S4_2 := Lib.hid (P3_2.out.up hb4 P3_2.out.lt)
  have S4_3 := Lib.hid (P3_3.out.up hb4 P3_3.out.lt)
  have U4 := Lib.hid (V3.out.trans (hb4.mono V3.out.size))
  clear hb4 V3 P3_1 P3_2 P3_3
  have P4_1 := Lib.hid (S4_1.out.alloc (.cells #[.int .i64 3, .int .i64 2, .int .i64 0, .int .i64 0] 23))
  have P4_2 := Lib.hid (S4_2.out.alloc (.cells #[.int .i64 3, .int .i64 2, .int .i64 0, .int .i64 0] 23))
  have P4_3 := Lib.hid (S4_3.out.alloc (.cells #[.int .i64 3, .int .i64 2, .int .i64 0, .int .i64 0] 23))
  have P4_4 := Lib.hid (Blk.new w4 [.int .i64 3, .int .i64 2, .int .i64 0, .int .i64 0] 23)
  change Hid (Blk (w4.alloc (.cells #[.int .i64 3, .int .i64 2, .int .i64 0, .int .i64 0] 23)) _ _ _) at P4_4
  have V4 : Hid (Below w.heap.size w (w4.alloc (.cells #[.int .i64 3, .int .i64 2, .int .i64 0, .int .i64 0] 23))) := Lib.hid (U4.out.alloc U4.out.size _)
  clear U4 S4_1 S4_2 S4_3
  go_wp2_with fail
  refine (C5.out _).mono ?_; rintro e w5 ⟨rfl, hb5⟩
  have S5_1 := Lib.hid (P4_1.out.up hb5 P4_1.out.lt)
  have S5_2 := Lib.hid (P4_2.out.up hb5 P4_2.out.lt)
  have S5_3 := Lib.hid (P4_3.out.up hb5 P4_3.out.lt)
  have S5_4 := Lib.hid (P4_4.out.up hb5 P4_4.out.lt)
  have U5 := Lib.hid (V4.out.trans (hb5.mono V4.out.size))
  clear hb5 V4 P4_1 P4_2 P4_3 P4_4
  have P5_1 := Lib.hid (S5_1.out.alloc (.cells #[.int .i64 0, .int .i64 0, .int .i64 0, .int .i64 0] 23))
  have P5_2 := Lib.hid (S5_2.out.alloc (.cells #[.int .i64 0, .int .i64 0, .int .i64 0, .int .i64 0] 23))
  have P5_3 := Lib.hid (S5_3.out.alloc (.cells #[.int .i64 0, .int .i64 0, .int .i64 0, .int .i64 0] 23))
  have P5_4 := Lib.hid (S5_4.out.alloc (.cells #[.int .i64 0, .int .i64 0, .int .i64 0, .int .i64 0] 23))
  have P5_5 := Lib.hid (Blk.new w5 [.int .i64 0, .int .i64 0, .int .i64 0, .int .i64 0] 23)
  change Hid (Blk (w5.alloc (.cells #[.int .i64 0, .int .i64 0, .int .i64 0, .int .i64 0] 23)) _ _ _) at P5_5
  have V5 : Hid (Below w.heap.size w (w5.alloc (.cells #[.int .i64 0, .int .i64 0, .int .i64 0, .int .i64 0] 23))) := Lib.hid (U5.out.alloc U5.out.size _)
  have e0 := fun o => Lib.cell?_alloc_some o (S5_2.out.cell 0 _ rfl)
  have e1 := fun o => Lib.cell?_alloc_some o (S5_2.out.cell 1 _ rfl)
  have e2 := fun o => Lib.cell?_alloc_some o (S5_2.out.cell 2 _ rfl)
  have e3 := fun o => Lib.cell?_alloc_some o (S5_2.out.cell 3 _ rfl)
  clear U5 S5_1 S5_2 S5_3 S5_4
  go_wp2_with fail
  refine (C6.out _).mono ?_; rintro e w6 ⟨rfl, hb6⟩
  clear e0 e1 e2 e3
  have S6_1 := Lib.hid (P5_1.out.up hb6 P5_1.out.lt)
  have S6_2 := Lib.hid (P5_2.out.up hb6 P5_2.out.lt)
  have S6_3 := Lib.hid (P5_3.out.up hb6 P5_3.out.lt)
  have S6_4 := Lib.hid (P5_4.out.up hb6 P5_4.out.lt)
  have S6_5 := Lib.hid (P5_5.out.up hb6 P5_5.out.lt)
  have U6 := Lib.hid (V5.out.trans (hb6.mono V5.out.size))
  clear hb6 V5 P5_1 P5_2 P5_3 P5_4 P5_5
  have P6_1 := Lib.hid (S6_1.out.alloc (.cells #[.int .i64 1, .int .i64 2, .int .i64 1, .int .i64 0] 23))
  have P6_2 := Lib.hid (S6_2.out.alloc (.cells #[.int .i64 1, .int .i64 2, .int .i64 1, .int .i64 0] 23))
  have P6_3 := Lib.hid (S6_3.out.alloc (.cells #[.int .i64 1, .int .i64 2, .int .i64 1, .int .i64 0] 23))
  have P6_4 := Lib.hid (S6_4.out.alloc (.cells #[.int .i64 1, .int .i64 2, .int .i64 1, .int .i64 0] 23))
  have P6_5 := Lib.hid (S6_5.out.alloc (.cells #[.int .i64 1, .int .i64 2, .int .i64 1, .int .i64 0] 23))
  have P6_6 := Lib.hid (Blk.new w6 [.int .i64 1, .int .i64 2, .int .i64 1, .int .i64 0] 23)
  change Hid (Blk (w6.alloc (.cells #[.int .i64 1, .int .i64 2, .int .i64 1, .int .i64 0] 23)) _ _ _) at P6_6
  have V6 : Hid (Below w.heap.size w (w6.alloc (.cells #[.int .i64 1, .int .i64 2, .int .i64 1, .int .i64 0] 23))) := Lib.hid (U6.out.alloc U6.out.size _)
  clear U6 S6_1 S6_2 S6_3 S6_4 S6_5
  have b0 := P6_3.out.cell 0 _ rfl
  have b1 := P6_3.out.cell 1 _ rfl
  have b2 := P6_3.out.cell 2 _ rfl
  have b3 := P6_3.out.cell 3 _ rfl
  have c0 := P6_4.out.cell 0 _ rfl
  have d0 := P6_5.out.cell 0 _ rfl
  have d1 := P6_5.out.cell 1 _ rfl
  have d2 := P6_5.out.cell 2 _ rfl
  have d3 := P6_5.out.cell 3 _ rfl
  have s0 := P6_1.out.cell 0 _ rfl
  have s1 := P6_1.out.cell 1 _ rfl
  have s2 := P6_1.out.cell 2 _ rfl
  have s3 := P6_1.out.cell 3 _ rfl
  go_wp2_with fail
  refine (C7.out _).mono ?_; rintro e w7 ⟨rfl, hb7⟩
  have V7 := Lib.hid (V6.out.trans (hb7.mono V6.out.size))
  have P7_1 := Lib.hid (P6_1.out.up hb7 P6_1.out.lt)
  clear b0 b1 b2 b3 c0 d0 d1 d2 d3 s0 s1 s2 s3 hb7 V6 P6_1 P6_2 P6_3 P6_4 P6_5 P6_6
  have s0 := P7_1.out.cell 0 _ rfl
  have s1 := P7_1.out.cell 1 _ rfl
  have s2 := P7_1.out.cell 2 _ rfl
  have s3 := P7_1.out.cell 3 _ rfl
  go_wp2_with fail
  refine (C8.out _).mono ?_; rintro e w8 ⟨rfl, hb8⟩
  have V8 := Lib.hid (up_trans V7.out hb8)
  clear hb8 s0 s1 s2 s3 P7_1 V7
  go_wp2
  go_ret
  exact ⟨rfl, V8.out⟩
end Go.Proofs.Ytimooelhjgnlnaa
