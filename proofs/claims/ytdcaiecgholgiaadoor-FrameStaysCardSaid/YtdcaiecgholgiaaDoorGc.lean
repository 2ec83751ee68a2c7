/- The law of frames, where a call goes. -/
import Derived.Test.YtdcaiecgholgiaaDoorGa
namespace Go.Proofs.YtdcaiecgholgiaaDoor
open Go.RowKit

set_option maxRecDepth 100000 in
set_option maxHeartbeats 8000000 in
theorem l_stays_ok {f : FR} (hf : f.Ok) (at_ x : Int) (h0 : 0 ≤ at_) (h1 : at_ ≤ 255) (x0 : -2147483648 ≤ x) (x1 : x ≤ 2147483647) (hF : FineF f) (k : Nat) (hk : f.depth = k) (hk8 : k < 8) (h64 : f.pc ≠ 64) (w : World) (ht : EnvT w) :
    Calls Tryd.prog 6 #[.agg f.cells.toArray, .int .u8 at_, .int .i32 x] w fun e w' => e = .returned (.bool true) ∧ Below w.heap.size w w' := by
  have HT := Lib.hid ht
  clear ht
  obtain ⟨r, hr⟩ : ∃ r : Nat, at_ % 8 = r := ⟨(at_ % 8).toNat, by omega⟩
  obtain ⟨s, hs⟩ : ∃ s : Nat, at_ % 16 = s := ⟨(at_ % 16).toNat, by omega⟩
  have hr8 : r < 8 := by omega
  have hs16 : s < 16 := by omega
  have hx := fineW_of x x0 x1
  have N1 := fun W => c_ffine hf W
  rw [fineF_of hF] at N1
  have N2 := fun W => c_fset hf r x W
  rw [v_set hF r hr8 hx] at N2
  have oR := okR hf r x
  have N3 := fun W => c_fstore oR s x W
  rw [v_store hF r s hs16 hx] at N3
  have oB := okB hf r s x
  have N4 := fun W => c_fget oB r W
  rw [v_get hf hF r s hr8 hx] at N4
  have N5 := fun W => c_fload oB s W
  rw [v_load hf hF r s hs16 hx] at N5
  have N6 := fun W => c_ffine oB W
  rw [fineF_of (fineB hF r s hx)] at N6
  have HN1 := Lib.hid N1
  have HN2 := Lib.hid N2
  have HN3 := Lib.hid N3
  have HN4 := Lib.hid N4
  have HN5 := Lib.hid N5
  have HN6 := Lib.hid N6
  have eX : (x != x) = false := by simp
  have HUN := Lib.hid (fun (W : World) (b : Nat) => undo (w := W) (b := b) (x := x) (t := 26) hf hr8 hs16)
  have HCR := Lib.hid (FR.g_reg hf r hr8)
  have HCW := Lib.hid (FR.g_word hf s hs16)
  have HCR2 := Lib.hid (FR.g_reg oB r hr8)
  have HCW2 := Lib.hid (FR.g_word oB s hs16)
  have hs0 : 0 ≤ (s : Int) := by omega
  have hs1 : (s : Int) ≤ 64 := by omega
  have N7 := fun W => c_fcall hf s W
  rw [v_call hF k hk hk8 hs0 hs1 h64] at N7
  have oC := okC hf k s
  have oP := okP hf (f.pc + 1)
  have N8 := fun W => c_fret oC W
  rw [v_ret hf hF k hk hk8 hs0 hs1 h64] at N8
  have N9 := fun W => c_fgo hf (f.pc + 1) W
  rw [v_go hF h64] at N9
  have N10 := fun W => c_ffine oC W
  rw [fineF_of (fineC hF k hk hk8 hs0 hs1 h64)] at N10
  have HN7 := Lib.hid N7
  have HN8 := Lib.hid N8
  have HN9 := Lib.hid N9
  have HN10 := Lib.hid N10
  have p0 := hF.pc0
  have p1 := hF.pc1
  clear N1 N2 N3 N4 N5 N6 N7 N8 N9 N10 hF hx hk hk8 h64 hs0 hs1
  go_enter Tryd.func6, Tryd.ntmps6
  have HD0 := Lib.hid ((Blk.new w f.cells 25).alloc (.cells f.cells.toArray 26))
  have HG0 := Lib.hid (box_two w (.cells f.cells.toArray 25) f 26)
  have HQ0 := Lib.hid (up_trans (up_alloc w (.cells f.cells.toArray 25)) (up_alloc _ (.cells f.cells.toArray 26)))
  go_wp2_with (first | (refine ld_ref hf (Blk.new w f.cells 25) rfl (.tmp 3) rfl rfl ?_) | (refine sn_prog (by simp) hf rfl (.tmp 7) (.tmp 26) rfl rfl rfl ?_) | (refine ld_prog hf HG0.out rfl (.tmp 7) rfl rfl ?_))
  refine (HN1.out _).mono ?_
  rintro e w1 ⟨rfl, hb1⟩
  have HD1 := Lib.hid (HD0.out.up hb1 HD0.out.lt)
  have HG1 := Lib.hid (HG0.out.up hb1 HG0.out.lt)
  have HQ1 := Lib.hid (up_trans HQ0.out hb1)
  clear hb1 HD0 HG0
  go_wp2_with (first | (refine ld_prog hf HG1.out rfl (.tmp 7) rfl rfl ?_))
  refine (HN2.out _).mono ?_
  rintro e w2 ⟨rfl, hb2⟩
  have HD2 := Lib.hid (HD1.out.up hb2 HD1.out.lt)
  have HG2 := Lib.hid (HG1.out.up hb2 HG1.out.lt)
  have HQ2 := Lib.hid (up_trans HQ1.out hb2)
  clear hb2 HD1 HG1
  go_wp2_with (first | (refine sn_prog rfl oR rfl (.tmp 12) (.tmp 57) rfl rfl rfl ?_) | (refine ld_prog oR (Blk.new w2 (withR f r x).cells 26) rfl (.tmp 12) rfl rfl ?_))
  refine (HN3.out _).mono ?_
  rintro e w3 ⟨rfl, hb3⟩
  have HD3 := Lib.hid ((HD2.out.alloc _).up hb3 (Nat.lt_of_lt_of_le HD2.out.lt (up_alloc w2 _).size))
  have HG3 := Lib.hid ((HG2.out.alloc _).up hb3 (Nat.lt_of_lt_of_le HG2.out.lt (up_alloc w2 _).size))
  have HA3 := Lib.hid ((Blk.new w2 (withR f r x).cells 26).up hb3 (by simp))
  have HQ3 := Lib.hid (up_trans HQ2.out (up_trans (up_alloc w2 _) hb3))
  clear hb3 HD2 HG2
  go_wp2_with (first | (refine sn_prog rfl oB rfl (.tmp 14) (.tmp 65) rfl rfl rfl ?_) | (refine ld_prog oB (Blk.new w3 (withB f r s x).cells 26) rfl (.tmp 14) rfl rfl ?_))
  refine (HN4.out _).mono ?_
  rintro e w4 ⟨rfl, hb4⟩
  have HNE := Lib.hid (show w.heap.size + 1 ≠ w3.heap.size from Nat.ne_of_lt HG3.out.lt)
  have HLE := Lib.hid HQ3.out.size
  have HD4 := Lib.hid ((HD3.out.alloc _).up hb4 (Nat.lt_of_lt_of_le HD3.out.lt (up_alloc w3 _).size))
  have HG4 := Lib.hid ((HG3.out.alloc _).up hb4 (Nat.lt_of_lt_of_le HG3.out.lt (up_alloc w3 _).size))
  have HA4 := Lib.hid ((HA3.out.alloc _).up hb4 (Nat.lt_of_lt_of_le HA3.out.lt (up_alloc w3 _).size))
  have HB4 := Lib.hid ((Blk.new w3 (withB f r s x).cells 26).up hb4 (by simp))
  have HQ4 := Lib.hid (up_trans HQ3.out (up_trans (up_alloc w3 _) hb4))
  clear hb4 HD3 HG3 HA3
  go_wp2_with (first | (refine ld_prog oB HB4.out rfl (.tmp 14) rfl rfl ?_))
  refine (HN5.out _).mono ?_
  rintro e w5 ⟨rfl, hb5⟩
  have HD5 := Lib.hid (HD4.out.up hb5 HD4.out.lt)
  have HG5 := Lib.hid (HG4.out.up hb5 HG4.out.lt)
  have HA5 := Lib.hid (HA4.out.up hb5 HA4.out.lt)
  have HB5 := Lib.hid (HB4.out.up hb5 HB4.out.lt)
  have HQ5 := Lib.hid (up_trans HQ4.out hb5)
  clear hb5 HD4 HG4 HA4 HB4
  go_wp2_with (first | (refine lh_prog oB HB5.out (.tmp 14) rfl rfl rfl ?_; simp only [Act.put, List.setIfInBounds_toArray, List.set_cons_zero, List.set_cons_succ]))
  refine (HN6.out _).mono ?_
  rintro e w6 ⟨rfl, hb6⟩
  have HG6 := Lib.hid (HG5.out.up hb6 HG5.out.lt)
  have HB6 := Lib.hid (HB5.out.up hb6 HB5.out.lt)
  have HQ6 := Lib.hid (up_trans HQ5.out hb6)
  clear hb6
  have g1 := HG6.out.cell _ _ HCR.out
  have g2 := HG6.out.cell _ _ HCW.out
  have b1 := HB6.out.cell _ _ HCR2.out
  have b2 := HB6.out.cell _ _ HCW2.out
  have b3 := HB6.out.free (2 + r)
  have b4 := HB6.out.free (10 + s)
  have hne := HNE.out
  have HUB := Lib.hid (HUN.out w6 w3.heap.size HB6.out)
  have HG7 := Lib.hid ((HG6.out.other ⟨w3.heap.size, 2 + r, none⟩ hne (.int .i64 (f.regs.getD r 0))).other ⟨w3.heap.size, 10 + s, none⟩ hne (.int .i64 (f.words.getD s 0)))
  have HQ7 := Lib.hid ((HQ6.out.setCell (p := ⟨w3.heap.size, 2 + r, none⟩) HLE.out (.int .i64 (f.regs.getD r 0))).setCell (p := ⟨w3.heap.size, 10 + s, none⟩) HLE.out (.int .i64 (f.words.getD s 0)))
  go_wp2_with (first | (refine ne_prog hf (.tmp 124) (.tmp 125) _ rfl rfl rfl rfl ?_; simp only [Act.put, List.setIfInBounds_toArray, List.set_cons_zero, List.set_cons_succ]) | (refine ld_prog hf HUB.out rfl (.tmp 14) rfl rfl ?_; simp only [Act.put, List.setIfInBounds_toArray, List.set_cons_zero, List.set_cons_succ]) | (refine ld_prog hf HG7.out rfl (.tmp 7) rfl rfl ?_; simp only [Act.put, List.setIfInBounds_toArray, List.set_cons_zero, List.set_cons_succ]))
  clear g1 g2 b1 b2 b3 b4 hne HUB HG6 HB6 HQ6
  refine (HN7.out _).mono ?_
  rintro e w8 ⟨rfl, hb8⟩
  have HG8 := Lib.hid (HG7.out.up hb8 HG7.out.lt)
  have HQ8 := Lib.hid (up_trans HQ7.out hb8)
  clear hb8 HG7 HQ7
  go_wp2_with (first | (refine sn_prog rfl oC rfl (.tmp 20) (.tmp 131) rfl rfl rfl ?_) | (refine ld_prog oC (Blk.new w8 (withC f k s).cells 26) rfl (.tmp 20) rfl rfl ?_))
  refine (HN8.out _).mono ?_
  rintro e w9 ⟨rfl, hb9⟩
  have HG9 := Lib.hid ((HG8.out.alloc _).up hb9 (Nat.lt_of_lt_of_le HG8.out.lt (up_alloc w8 _).size))
  have HK9 := Lib.hid ((Blk.new w8 (withC f k s).cells 26).up hb9 (by simp))
  have HQ9 := Lib.hid (up_trans HQ8.out (up_trans (up_alloc w8 _) hb9))
  clear hb9 HG8
  have hp0 := (HG9.out.alloc (.cells (withP f (f.pc + 1)).cells.toArray 26)).cell 0 _ (FR.c_pc f)
  go_wp2_with (first | (refine sn_prog rfl oP rfl (.tmp 22) (.tmp 152) rfl rfl rfl ?_) | (refine ld_prog hf (HG9.out.alloc _) rfl (.tmp 7) rfl rfl ?_))
  refine (HN9.out _).mono ?_
  rintro e w10 ⟨rfl, hb10⟩
  have HG10 := Lib.hid ((HG9.out.alloc _).up hb10 (Nat.lt_of_lt_of_le HG9.out.lt (up_alloc w9 _).size))
  have HK10 := Lib.hid ((HK9.out.alloc _).up hb10 (Nat.lt_of_lt_of_le HK9.out.lt (up_alloc w9 _).size))
  have HL10 := Lib.hid ((Blk.new w9 (withP f (f.pc + 1)).cells 26).up hb10 (by simp))
  have HQ10 := Lib.hid (up_trans HQ9.out (up_trans (up_alloc w9 _) hb10))
  clear hb10 HG9 HK9
  clear hp0
  go_wp2_with (first | (refine sn_prog rfl oP rfl (.tmp 24) (.tmp 160) rfl rfl rfl ?_) | (refine ld_prog oC (HK10.out.alloc _) rfl (.tmp 20) rfl rfl ?_))
  refine (HN10.out _).mono ?_
  rintro e w11 ⟨rfl, hb11⟩
  have HG11 := Lib.hid ((HG10.out.alloc _).up hb11 (Nat.lt_of_lt_of_le HG10.out.lt (up_alloc w10 _).size))
  have HK11 := Lib.hid ((HK10.out.alloc _).up hb11 (Nat.lt_of_lt_of_le HK10.out.lt (up_alloc w10 _).size))
  have HL11 := Lib.hid ((HL10.out.alloc _).up hb11 (Nat.lt_of_lt_of_le HL10.out.lt (up_alloc w10 _).size))
  have HM11 := Lib.hid ((Blk.new w10 (withP f (f.pc + 1)).cells 26).up hb11 (by simp))
  have HQ11 := Lib.hid (up_trans HQ10.out (up_trans (up_alloc w10 _) hb11))
  clear hb11 HG10 HK10 HL10
  have hpc := HK11.out.cell 0 _ (FR.c_pc _)
  have hpc' : World.cell? w11 ⟨_, 0, none⟩ = some (.int .i64 (s : Int)) := hpc
  clear hpc
  have eS : ((s : Int) == (s : Int)) = true := beq_self_eq_true _
  go_wp2_with (first | (refine lh_prog oP HL11.out (.tmp 22) rfl rfl rfl ?_; simp only [Act.put, List.setIfInBounds_toArray, List.set_cons_zero, List.set_cons_succ]) | (refine lh_prog oP HM11.out (.tmp 24) rfl rfl rfl ?_; simp only [Act.put, List.setIfInBounds_toArray, List.set_cons_zero, List.set_cons_succ]) | (refine eq_prog oP (.tmp 179) (.tmp 180) _ rfl rfl rfl rfl ?_; simp only [Act.put, List.setIfInBounds_toArray, List.set_cons_zero, List.set_cons_succ]) | (go_at_call 13; refine (c_alive _ (HT.out.up HQ11.out)).mono ?_; rintro e wz ⟨rfl, hbz⟩))
  go_ret
  exact ⟨rfl, up_trans HQ11.out hbz⟩
end Go.Proofs.YtdcaiecgholgiaaDoor
