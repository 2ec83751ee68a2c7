/- The law on places: the program's and the document's frames at another place, within a call, behind one. -/
import Derived.Test.YtdcaiecgholgiaaDoorFv
namespace Go.Proofs.YtdcaiecgholgiaaDoor
open Go.RowKit

set_option maxRecDepth 100000 in
set_option maxHeartbeats 8000000 in
theorem l_goes {f : FR} (hf : f.Ok) (r : Int) (w : World) (ht : EnvT w) : Calls Tryd.prog 5 #[.agg f.cells.toArray, .int .i64 r] w fun e w' => e = .returned (.bool true) ∧ Below w.heap.size w w' := by
  have HT := Lib.hid ht
  clear ht
  have Na := fun W => c_fgo hf r W
  have Ma := fun W => c_rgo hf r W
  have oa : (goF f r).1.Ok := goF_ok hf r
  generalize (goF f r).1 = a at oa Na Ma
  generalize (goF f r).2 = ea at Na Ma
  have HNa := Lib.hid Na
  have HMa := Lib.hid Ma
  have eEea : (ea == ea) = true := beq_self_eq_true _
  clear Na Ma
  have Nc := fun W => c_fcall hf r W
  have Mc := fun W => c_rcall hf r W
  have oc : (callF f r).1.Ok := callF_ok hf r
  generalize (callF f r).1 = c at oc Nc Mc
  generalize (callF f r).2 = ec at Nc Mc
  have HNc := Lib.hid Nc
  have HMc := Lib.hid Mc
  have eEec : (ec == ec) = true := beq_self_eq_true _
  clear Nc Mc
  have Nk := fun W => c_fret hf W
  have Mk := fun W => c_rret hf W
  have ok : (retF f).1.Ok := retF_ok hf
  generalize (retF f).1 = k at ok Nk Mk
  generalize (retF f).2 = ek at Nk Mk
  have HNk := Lib.hid Nk
  have HMk := Lib.hid Mk
  have eEek : (ek == ek) = true := beq_self_eq_true _
  clear Nk Mk
  go_enter Tryd.func5, Tryd.ntmps5
  have HD0 := Lib.hid ((Blk.new w f.cells 25).alloc (.cells f.cells.toArray 26))
  have HG0 := Lib.hid (box_two w (.cells f.cells.toArray 25) f 26)
  have HQ0 := Lib.hid (up_trans (up_alloc w (.cells f.cells.toArray 25)) (up_alloc _ (.cells f.cells.toArray 26)))
  go_wp2_with (first | (refine ld_ref hf (Blk.new w f.cells 25) rfl (.tmp 2) rfl rfl ?_) | (refine sn_prog (by simp) hf rfl (.tmp 5) (.tmp 18) rfl rfl rfl ?_) | (refine ld_prog hf HG0.out rfl (.tmp 5) rfl rfl ?_; simp only [Act.put, List.setIfInBounds_toArray, List.set_cons_zero, List.set_cons_succ]))
  refine (HNa.out _).mono ?_
  rintro e w1 ⟨rfl, hb1⟩
  have HD1 := Lib.hid (HD0.out.up hb1 HD0.out.lt)
  have HG1 := Lib.hid (HG0.out.up hb1 HG0.out.lt)
  have HQ1 := Lib.hid (up_trans HQ0.out hb1)
  clear hb1 HD0 HG0
  go_wp2_with (first | (refine sn_prog rfl oa rfl (.tmp 6) (.tmp 23) rfl rfl rfl ?_) | (refine ld_ref hf (HD1.out.alloc _) rfl (.tmp 2) rfl rfl ?_; simp only [Act.put, List.setIfInBounds_toArray, List.set_cons_zero, List.set_cons_succ]))
  refine (HMa.out _).mono ?_
  rintro e w2 ⟨rfl, hb2⟩
  have HD2 := Lib.hid ((HD1.out.alloc _).up hb2 (Nat.lt_of_lt_of_le HD1.out.lt (up_alloc w1 _).size))
  have HG2 := Lib.hid ((HG1.out.alloc _).up hb2 (Nat.lt_of_lt_of_le HG1.out.lt (up_alloc w1 _).size))
  have HA2 := Lib.hid ((Blk.new w1 a.cells 26).up hb2 (by simp))
  have HQ2 := Lib.hid (up_trans HQ1.out (up_trans (up_alloc w1 _) hb2))
  clear hb2 HD1 HG1
  go_wp2_with (first | (refine sn_ref rfl oa rfl (.tmp 8) (.tmp 29) rfl rfl rfl ?_) | (refine ld_prog hf (HG2.out.alloc _) rfl (.tmp 5) rfl rfl ?_; simp only [Act.put, List.setIfInBounds_toArray, List.set_cons_zero, List.set_cons_succ]))
  refine (HNc.out _).mono ?_
  rintro e w3 ⟨rfl, hb3⟩
  have HD3 := Lib.hid ((HD2.out.alloc _).up hb3 (Nat.lt_of_lt_of_le HD2.out.lt (up_alloc w2 _).size))
  have HG3 := Lib.hid ((HG2.out.alloc _).up hb3 (Nat.lt_of_lt_of_le HG2.out.lt (up_alloc w2 _).size))
  have HA3 := Lib.hid ((HA2.out.alloc _).up hb3 (Nat.lt_of_lt_of_le HA2.out.lt (up_alloc w2 _).size))
  have HB3 := Lib.hid ((Blk.new w2 a.cells 25).up hb3 (by simp))
  have HQ3 := Lib.hid (up_trans HQ2.out (up_trans (up_alloc w2 _) hb3))
  clear hb3 HD2 HG2 HA2
  go_wp2_with (first | (refine sn_prog rfl oc rfl (.tmp 10) (.tmp 35) rfl rfl rfl ?_) | (refine ld_ref hf (HD3.out.alloc _) rfl (.tmp 2) rfl rfl ?_; simp only [Act.put, List.setIfInBounds_toArray, List.set_cons_zero, List.set_cons_succ]))
  refine (HMc.out _).mono ?_
  rintro e w4 ⟨rfl, hb4⟩
  have HD4 := Lib.hid ((HD3.out.alloc _).up hb4 (Nat.lt_of_lt_of_le HD3.out.lt (up_alloc w3 _).size))
  have HG4 := Lib.hid ((HG3.out.alloc _).up hb4 (Nat.lt_of_lt_of_le HG3.out.lt (up_alloc w3 _).size))
  have HA4 := Lib.hid ((HA3.out.alloc _).up hb4 (Nat.lt_of_lt_of_le HA3.out.lt (up_alloc w3 _).size))
  have HB4 := Lib.hid ((HB3.out.alloc _).up hb4 (Nat.lt_of_lt_of_le HB3.out.lt (up_alloc w3 _).size))
  have HK4 := Lib.hid ((Blk.new w3 c.cells 26).up hb4 (by simp))
  have HQ4 := Lib.hid (up_trans HQ3.out (up_trans (up_alloc w3 _) hb4))
  clear hb4 HD3 HG3 HA3 HB3
  go_wp2_with (first | (refine sn_ref rfl oc rfl (.tmp 12) (.tmp 41) rfl rfl rfl ?_) | (refine ld_prog hf (HG4.out.alloc _) rfl (.tmp 5) rfl rfl ?_; simp only [Act.put, List.setIfInBounds_toArray, List.set_cons_zero, List.set_cons_succ]))
  refine (HNk.out _).mono ?_
  rintro e w5 ⟨rfl, hb5⟩
  have HD5 := Lib.hid ((HD4.out.alloc _).up hb5 (Nat.lt_of_lt_of_le HD4.out.lt (up_alloc w4 _).size))
  have HG5 := Lib.hid ((HG4.out.alloc _).up hb5 (Nat.lt_of_lt_of_le HG4.out.lt (up_alloc w4 _).size))
  have HA5 := Lib.hid ((HA4.out.alloc _).up hb5 (Nat.lt_of_lt_of_le HA4.out.lt (up_alloc w4 _).size))
  have HB5 := Lib.hid ((HB4.out.alloc _).up hb5 (Nat.lt_of_lt_of_le HB4.out.lt (up_alloc w4 _).size))
  have HK5 := Lib.hid ((HK4.out.alloc _).up hb5 (Nat.lt_of_lt_of_le HK4.out.lt (up_alloc w4 _).size))
  have HL5 := Lib.hid ((Blk.new w4 c.cells 25).up hb5 (by simp))
  have HQ5 := Lib.hid (up_trans HQ4.out (up_trans (up_alloc w4 _) hb5))
  clear hb5 HD4 HG4 HA4 HB4 HK4
  go_wp2_with (first | (refine sn_prog rfl ok rfl (.tmp 14) (.tmp 46) rfl rfl rfl ?_) | (refine ld_ref hf (HD5.out.alloc _) rfl (.tmp 2) rfl rfl ?_; simp only [Act.put, List.setIfInBounds_toArray, List.set_cons_zero, List.set_cons_succ]))
  refine (HMk.out _).mono ?_
  rintro e w6 ⟨rfl, hb6⟩
  have HD6 := Lib.hid ((HD5.out.alloc _).up hb6 (Nat.lt_of_lt_of_le HD5.out.lt (up_alloc w5 _).size))
  have HG6 := Lib.hid ((HG5.out.alloc _).up hb6 (Nat.lt_of_lt_of_le HG5.out.lt (up_alloc w5 _).size))
  have HA6 := Lib.hid ((HA5.out.alloc _).up hb6 (Nat.lt_of_lt_of_le HA5.out.lt (up_alloc w5 _).size))
  have HB6 := Lib.hid ((HB5.out.alloc _).up hb6 (Nat.lt_of_lt_of_le HB5.out.lt (up_alloc w5 _).size))
  have HK6 := Lib.hid ((HK5.out.alloc _).up hb6 (Nat.lt_of_lt_of_le HK5.out.lt (up_alloc w5 _).size))
  have HL6 := Lib.hid ((HL5.out.alloc _).up hb6 (Nat.lt_of_lt_of_le HL5.out.lt (up_alloc w5 _).size))
  have HP6 := Lib.hid ((Blk.new w5 k.cells 26).up hb6 (by simp))
  have HQ6 := Lib.hid (up_trans HQ5.out (up_trans (up_alloc w5 _) hb6))
  clear hb6 HD5 HG5 HA5 HB5 HK5 HL5
  go_wp2_with (first | (refine sn_ref rfl ok rfl (.tmp 16) (.tmp 51) rfl rfl rfl ?_) | (refine ld_prog oa (HA6.out.alloc _) rfl (.tmp 6) rfl rfl ?_; simp only [Act.put, List.setIfInBounds_toArray, List.set_cons_zero, List.set_cons_succ]) | (refine ld_ref oa (HB6.out.alloc _) rfl (.tmp 8) rfl rfl ?_; simp only [Act.put, List.setIfInBounds_toArray, List.set_cons_zero, List.set_cons_succ]) | (refine lh_prog oc (HK6.out.alloc _) (.tmp 10) rfl rfl rfl ?_; simp only [Act.put, List.setIfInBounds_toArray, List.set_cons_zero, List.set_cons_succ]) | (refine lh_ref oc (HL6.out.alloc _) (.tmp 12) rfl rfl rfl ?_; simp only [Act.put, List.setIfInBounds_toArray, List.set_cons_zero, List.set_cons_succ]) | (refine lh_prog ok (HP6.out.alloc _) (.tmp 14) rfl rfl rfl ?_; simp only [Act.put, List.setIfInBounds_toArray, List.set_cons_zero, List.set_cons_succ]) | (refine lh_ref ok (Blk.new w6 k.cells 25) (.tmp 16) rfl rfl rfl ?_; simp only [Act.put, List.setIfInBounds_toArray, List.set_cons_zero, List.set_cons_succ]) | (refine eq_ref oa (.tmp 53) (.tmp 54) _ rfl rfl rfl rfl ?_; simp only [Act.put, List.setIfInBounds_toArray, List.set_cons_zero, List.set_cons_succ]) | (refine eq_ref oc (.tmp 62) (.tmp 63) _ rfl rfl rfl rfl ?_; simp only [Act.put, List.setIfInBounds_toArray, List.set_cons_zero, List.set_cons_succ]) | (refine eq_ref ok (.tmp 72) (.tmp 73) _ rfl rfl rfl rfl ?_; simp only [Act.put, List.setIfInBounds_toArray, List.set_cons_zero, List.set_cons_succ]) | (go_at_call 13; refine (c_alive _ (HT.out.up (up_trans HQ6.out (up_alloc w6 _)))).mono ?_; rintro e wz ⟨rfl, hbz⟩))
  go_ret
  exact ⟨rfl, up_trans (up_trans HQ6.out (up_alloc w6 _)) hbz⟩
end Go.Proofs.YtdcaiecgholgiaaDoor
