/- The contract of the document's Ret. -/
import Derived.Test.YtdcaiecgholgiaaDoorFh
import Derived.BigRegion
namespace Go.Proofs.YtdcaiecgholgiaaDoor
open Go.RowKit

set_option maxRecDepth 100000 in
set_option maxHeartbeats 2000000 in
theorem c_rret {f : FR} (hf : f.Ok) (w : World) :
    Calls Tryd.prog 27 #[.agg f.cells.toArray] w fun e w' => e = .returned (.tuple #[.agg (retF f).1.cells.toArray, .int .i64 (retF f).2]) ∧ Below w.heap.size w w' := by
  have HX := Lib.hid (box2 w f 25)
  have C := Lib.hid (c_rfine hf ((w.alloc (.cells f.cells.toArray 25)).alloc (.cells #[.int .i64 0, .bool false, .int .i64 0, .int .i64 0, .int .i64 0, .int .i64 0, .int .i64 0, .int .i64 0, .int .i64 0, .int .i64 0, .int .i64 0, .int .i64 0, .int .i64 0, .int .i64 0, .int .i64 0, .int .i64 0, .int .i64 0, .int .i64 0, .int .i64 0, .int .i64 0, .int .i64 0, .int .i64 0, .int .i64 0, .int .i64 0, .int .i64 0, .int .i64 0, .int .i64 0, .int .i64 0, .int .i64 0, .int .i64 0, .int .i64 0, .int .i64 0, .int .i64 0, .int .i64 0, .int .i64 0] 25)))
  cases hff : fineF f
  · have HV : retF f = (f, 1) := if_pos hff
    rw [HV]
    rw [hff] at C
    clear hff HV
    go_enter Tryd.func27, Tryd.ntmps27
    go_wp2_with (first | (refine ld_ref hf HX.out.box rfl (.tmp 1) rfl rfl ?_) | (go_at_call 10; refine C.out.mono ?_; rintro e w3 ⟨rfl, hb3⟩; have HB := Lib.hid (HX.out.box.up hb3 HX.out.box.lt); have HR := Lib.hid (HX.out.res.up hb3 HX.out.res.lt); have HQ := Lib.hid (up_trans HX.out.up hb3); clear hb3) | (refine ld_ref hf HB.out rfl (.tmp 1) rfl rfl ?_) | (refine st_ref hf FR.zero_ok HR.out rfl (.tmp 2) (.tmp 7) rfl rfl rfl ?_))
    refine bodyPost_ret (v := .tuple #[.agg f.cells.toArray, .int .i64 1]) (results_re (fn := Tryd.f27) (p := 2) (t := 3) rfl _ _ _ hf rfl (HR.out.row _)) rfl ?_
    exact ⟨rfl, below_setRow HQ.out (by omega) _⟩
  rw [hff] at C
  have hF := (fineF_iff f).1 hff
  have d0 := hF.d0
  have d1 := hF.d1
  by_cases hd : f.depth = 0
  · have HV : retF f = (f, 19) := by
      unfold retF
      rw [if_neg (by rw [hff]; decide), if_pos hd]
    rw [HV]
    have hdb : (f.depth == 0) = true := by simpa using hd
    clear hff HV hF hd
    go_enter Tryd.func27, Tryd.ntmps27
    go_wp2_with (first | (refine ld_ref hf HX.out.box rfl (.tmp 1) rfl rfl ?_) | (go_at_call 10; refine C.out.mono ?_; rintro e w3 ⟨rfl, hb3⟩; have HB := Lib.hid (HX.out.box.up hb3 HX.out.box.lt); have HR := Lib.hid (HX.out.res.up hb3 HX.out.res.lt); have HQ := Lib.hid (up_trans HX.out.up hb3); clear hb3; have hd26 := HB.out.cell 26 _ (FR.c_depth hf)) | (refine ld_ref hf HB.out rfl (.tmp 1) rfl rfl ?_) | (refine st_ref hf FR.zero_ok HR.out rfl (.tmp 2) (.tmp 11) rfl rfl rfl ?_))
    refine bodyPost_ret (v := .tuple #[.agg f.cells.toArray, .int .i64 19]) (results_re (fn := Tryd.f27) (p := 2) (t := 3) rfl _ _ _ hf rfl (HR.out.row _)) rfl ?_
    exact ⟨rfl, below_setRow HQ.out (by omega) _⟩
  obtain ⟨k, hk⟩ : ∃ k : Nat, f.depth = (k : Int) + 1 := ⟨(f.depth - 1).toNat, by omega⟩
  have hk8 : k < 8 := by omega
  obtain ⟨s, hs0⟩ : ∃ s, f.stack.getD k 0 = s := ⟨_, rfl⟩
  have HV : retF f = ({ f with pc := s, stack := f.stack.set k 0, depth := (k : Int) }, 0) := by
    unfold retF
    rw [if_neg (by rw [hff]; decide), if_neg hd, hk, show (k : Int) + 1 - 1 = (k : Int) by omega, Int.toNat_natCast, hs0]
  rw [HV]
  have HG : ({ f with pc := s, stack := f.stack.set k 0, depth := (k : Int) } : FR).Ok := ((hf.pc s).stk k 0).dep _
  have hc26 := FR.c_depth hf
  have hcs := FR.g_stack hf k hk8
  rw [hk] at hc26
  rw [hs0] at hcs
  have HC26 := Lib.hid hc26
  have HCS := Lib.hid hcs
  have hdb : ((k : Int) + 1 == 0) = false := by simp; omega
  clear hff HV hF hd hk d0 d1 hc26 hcs hs0
  go_enter Tryd.func27, Tryd.ntmps27
  go_wp2_with (first | (refine ld_ref hf HX.out.box rfl (.tmp 1) rfl rfl ?_) | (go_at_call 10; refine C.out.mono ?_; rintro e w3 ⟨rfl, hb3⟩; have HB := Lib.hid (HX.out.box.up hb3 HX.out.box.lt); have HR := Lib.hid (HX.out.res.up hb3 HX.out.res.lt); have HQ := Lib.hid (up_trans HX.out.up hb3); clear hb3; have hd26 := HB.out.cell 26 _ HC26.out; have hp0 := HB.out.cell 0 _ (FR.c_pc f); have hs := HB.out.cell _ _ HCS.out; have hf0 := HB.out.free 0; have hf26 := HB.out.free 26; have hfs := HB.out.free (27 + k)) | (refine ld_ref (t := 25) HG ?_ rfl (.tmp 1) rfl rfl ?_; · exact ((((HB.out.spc s).sstack (hf.pc s) k 0).sdepth ((hf.pc s).stk k 0) (k : Int)))) | (refine st_ref (t := 25) HG FR.zero_ok ?_ rfl (.tmp 2) (.tmp 28) rfl rfl rfl ?_; · exact (((HR.out.other ⟨w.heap.size, 0, none⟩ (by simp) _).other ⟨w.heap.size, 27 + k, none⟩ (by simp) _).other ⟨w.heap.size, 26, none⟩ (by simp) _)))
  refine bodyPost_ret (v := .tuple #[.agg ({ f with pc := s, stack := f.stack.set k 0, depth := (k : Int) } : FR).cells.toArray, .int .i64 0]) (results_re (fn := Tryd.f27) (p := 2) (t := 3) rfl _ _ _ HG rfl ((((HR.out.other ⟨w.heap.size, 0, none⟩ (by simp) _).other ⟨w.heap.size, 27 + k, none⟩ (by simp) _).other ⟨w.heap.size, 26, none⟩ (by simp) _).row _)) rfl ?_
  exact ⟨rfl, below_setRow (((HQ.out.setCell (Nat.le_refl _) _).setCell (Nat.le_refl _) _).setCell (Nat.le_refl _) _) (by omega) _⟩
end Go.Proofs.YtdcaiecgholgiaaDoor
