/- The law on a frame's registers and memory. -/
import Derived.Test.YtdcaiecgholgiaaDoorFv
namespace Go.Proofs.YtdcaiecgholgiaaDoor
open Go.RowKit

set_option maxRecDepth 100000 in
set_option maxHeartbeats 8000000 in
theorem l_keeps {f : FR} (hf : f.Ok) (at_ x : Int) (w : World) (ht : EnvT w) : Calls Tryd.prog 4 #[.agg f.cells.toArray, .int .i64 at_, .int .i64 x] w fun e w' => e = .returned (.bool true) ∧ Below w.heap.size w w' := by
  have HT := Lib.hid ht
  clear ht
  have Na := fun W => c_fget hf at_ W
  have Ma := fun W => c_rget hf at_ W
  generalize (getF f at_).1 = a at Na Ma
  generalize (getF f at_).2 = ea at Na Ma
  have HNa := Lib.hid Na
  have HMa := Lib.hid Ma
  have eIa : (a == a) = true := beq_self_eq_true _
  have eEea : (ea == ea) = true := beq_self_eq_true _
  clear Na Ma
  have Nc := fun W => c_fload hf at_ W
  have Mc := fun W => c_rload hf at_ W
  generalize (loadF f at_).1 = c at Nc Mc
  generalize (loadF f at_).2 = ec at Nc Mc
  have HNc := Lib.hid Nc
  have HMc := Lib.hid Mc
  have eIc : (c == c) = true := beq_self_eq_true _
  have eEec : (ec == ec) = true := beq_self_eq_true _
  clear Nc Mc
  have Nk := fun W => c_fset hf at_ x W
  have Mk := fun W => c_rset hf at_ x W
  have ok : (setF f at_ x).1.Ok := setF_ok hf at_ x
  generalize (setF f at_ x).1 = k at ok Nk Mk
  generalize (setF f at_ x).2 = ek at Nk Mk
  have HNk := Lib.hid Nk
  have HMk := Lib.hid Mk
  have eEek : (ek == ek) = true := beq_self_eq_true _
  clear Nk Mk
  have Np := fun W => c_fstore hf at_ x W
  have Mp := fun W => c_rstore hf at_ x W
  have op : (storeF f at_ x).1.Ok := storeF_ok hf at_ x
  generalize (storeF f at_ x).1 = p at op Np Mp
  generalize (storeF f at_ x).2 = ep at Np Mp
  have HNp := Lib.hid Np
  have HMp := Lib.hid Mp
  have eEep : (ep == ep) = true := beq_self_eq_true _
  clear Np Mp
  go_enter Tryd.func4, Tryd.ntmps4
  have HD0 := Lib.hid ((Blk.new w f.cells 25).alloc (.cells f.cells.toArray 26))
  have HG0 := Lib.hid (box_two w (.cells f.cells.toArray 25) f 26)
  have HQ0 := Lib.hid (up_trans (up_alloc w (.cells f.cells.toArray 25)) (up_alloc _ (.cells f.cells.toArray 26)))
  go_wp2_with (first | (refine ld_ref hf (Blk.new w f.cells 25) rfl (.tmp 3) rfl rfl ?_) | (refine sn_prog (by simp) hf rfl (.tmp 7) (.tmp 24) rfl rfl rfl ?_) | (refine ld_prog hf HG0.out rfl (.tmp 7) rfl rfl ?_))
  refine (HNa.out _).mono ?_
  rintro e w1 ⟨rfl, hb1⟩
  have HD1 := Lib.hid (HD0.out.up hb1 HD0.out.lt)
  have HG1 := Lib.hid (HG0.out.up hb1 HG0.out.lt)
  have HQ1 := Lib.hid (up_trans HQ0.out hb1)
  clear hb1 HD0 HG0
  go_wp2_with (first | (refine ld_ref hf HD1.out rfl (.tmp 3) rfl rfl ?_))
  refine (HMa.out _).mono ?_
  rintro e w2 ⟨rfl, hb2⟩
  have HD2 := Lib.hid (HD1.out.up hb2 HD1.out.lt)
  have HG2 := Lib.hid (HG1.out.up hb2 HG1.out.lt)
  have HQ2 := Lib.hid (up_trans HQ1.out hb2)
  clear hb2 HD1 HG1
  go_wp2_with (first | (refine ld_prog hf HG2.out rfl (.tmp 7) rfl rfl ?_))
  refine (HNc.out _).mono ?_
  rintro e w3 ⟨rfl, hb3⟩
  have HD3 := Lib.hid (HD2.out.up hb3 HD2.out.lt)
  have HG3 := Lib.hid (HG2.out.up hb3 HG2.out.lt)
  have HQ3 := Lib.hid (up_trans HQ2.out hb3)
  clear hb3 HD2 HG2
  go_wp2_with (first | (refine ld_ref hf HD3.out rfl (.tmp 3) rfl rfl ?_))
  refine (HMc.out _).mono ?_
  rintro e w4 ⟨rfl, hb4⟩
  have HD4 := Lib.hid (HD3.out.up hb4 HD3.out.lt)
  have HG4 := Lib.hid (HG3.out.up hb4 HG3.out.lt)
  have HQ4 := Lib.hid (up_trans HQ3.out hb4)
  clear hb4 HD3 HG3
  go_wp2_with (first | (refine ld_prog hf HG4.out rfl (.tmp 7) rfl rfl ?_))
  refine (HNk.out _).mono ?_
  rintro e w5 ⟨rfl, hb5⟩
  have HD5 := Lib.hid (HD4.out.up hb5 HD4.out.lt)
  have HG5 := Lib.hid (HG4.out.up hb5 HG4.out.lt)
  have HQ5 := Lib.hid (up_trans HQ4.out hb5)
  clear hb5 HD4 HG4
  go_wp2_with (first | (refine sn_prog rfl ok rfl (.tmp 16) (.tmp 54) rfl rfl rfl ?_) | (refine ld_ref hf (HD5.out.alloc _) rfl (.tmp 3) rfl rfl ?_))
  refine (HMk.out _).mono ?_
  rintro e w6 ⟨rfl, hb6⟩
  have HD6 := Lib.hid ((HD5.out.alloc _).up hb6 (Nat.lt_of_lt_of_le HD5.out.lt (up_alloc w5 _).size))
  have HG6 := Lib.hid ((HG5.out.alloc _).up hb6 (Nat.lt_of_lt_of_le HG5.out.lt (up_alloc w5 _).size))
  have HK6 := Lib.hid ((Blk.new w5 k.cells 26).up hb6 (by simp))
  have HQ6 := Lib.hid (up_trans HQ5.out (up_trans (up_alloc w5 _) hb6))
  clear hb6 HD5 HG5
  go_wp2_with (first | (refine sn_ref rfl ok rfl (.tmp 18) (.tmp 61) rfl rfl rfl ?_) | (refine ld_prog hf (HG6.out.alloc _) rfl (.tmp 7) rfl rfl ?_))
  refine (HNp.out _).mono ?_
  rintro e w7 ⟨rfl, hb7⟩
  have HD7 := Lib.hid ((HD6.out.alloc _).up hb7 (Nat.lt_of_lt_of_le HD6.out.lt (up_alloc w6 _).size))
  have HG7 := Lib.hid ((HG6.out.alloc _).up hb7 (Nat.lt_of_lt_of_le HG6.out.lt (up_alloc w6 _).size))
  have HK7 := Lib.hid ((HK6.out.alloc _).up hb7 (Nat.lt_of_lt_of_le HK6.out.lt (up_alloc w6 _).size))
  have HL7 := Lib.hid ((Blk.new w6 k.cells 25).up hb7 (by simp))
  have HQ7 := Lib.hid (up_trans HQ6.out (up_trans (up_alloc w6 _) hb7))
  clear hb7 HD6 HG6 HK6
  go_wp2_with (first | (refine sn_prog rfl op rfl (.tmp 20) (.tmp 68) rfl rfl rfl ?_) | (refine ld_ref hf (HD7.out.alloc _) rfl (.tmp 3) rfl rfl ?_))
  refine (HMp.out _).mono ?_
  rintro e w8 ⟨rfl, hb8⟩
  have HD8 := Lib.hid ((HD7.out.alloc _).up hb8 (Nat.lt_of_lt_of_le HD7.out.lt (up_alloc w7 _).size))
  have HG8 := Lib.hid ((HG7.out.alloc _).up hb8 (Nat.lt_of_lt_of_le HG7.out.lt (up_alloc w7 _).size))
  have HK8 := Lib.hid ((HK7.out.alloc _).up hb8 (Nat.lt_of_lt_of_le HK7.out.lt (up_alloc w7 _).size))
  have HL8 := Lib.hid ((HL7.out.alloc _).up hb8 (Nat.lt_of_lt_of_le HL7.out.lt (up_alloc w7 _).size))
  have HP8 := Lib.hid ((Blk.new w7 p.cells 26).up hb8 (by simp))
  have HQ8 := Lib.hid (up_trans HQ7.out (up_trans (up_alloc w7 _) hb8))
  clear hb8 HD7 HG7 HK7 HL7
  go_wp2_with (first | (refine sn_ref rfl op rfl (.tmp 22) (.tmp 75) rfl rfl rfl ?_) | (refine lh_prog ok (HK8.out.alloc _) (.tmp 16) rfl rfl rfl ?_; simp only [Act.put, List.setIfInBounds_toArray, List.set_cons_zero, List.set_cons_succ]) | (refine lh_ref ok (HL8.out.alloc _) (.tmp 18) rfl rfl rfl ?_; simp only [Act.put, List.setIfInBounds_toArray, List.set_cons_zero, List.set_cons_succ]) | (refine lh_prog op (HP8.out.alloc _) (.tmp 20) rfl rfl rfl ?_; simp only [Act.put, List.setIfInBounds_toArray, List.set_cons_zero, List.set_cons_succ]) | (refine lh_ref op (Blk.new w8 p.cells 25) (.tmp 22) rfl rfl rfl ?_; simp only [Act.put, List.setIfInBounds_toArray, List.set_cons_zero, List.set_cons_succ]) | (refine eq_ref ok (.tmp 96) (.tmp 97) _ rfl rfl rfl rfl ?_; simp only [Act.put, List.setIfInBounds_toArray, List.set_cons_zero, List.set_cons_succ]) | (refine eq_ref op (.tmp 106) (.tmp 107) _ rfl rfl rfl rfl ?_; simp only [Act.put, List.setIfInBounds_toArray, List.set_cons_zero, List.set_cons_succ]) | (go_at_call 13; refine (c_alive _ (HT.out.up (up_trans HQ8.out (up_alloc w8 _)))).mono ?_; rintro e wz ⟨rfl, hbz⟩))
  go_ret
  exact ⟨rfl, up_trans (up_trans HQ8.out (up_alloc w8 _)) hbz⟩
end Go.Proofs.YtdcaiecgholgiaaDoor
