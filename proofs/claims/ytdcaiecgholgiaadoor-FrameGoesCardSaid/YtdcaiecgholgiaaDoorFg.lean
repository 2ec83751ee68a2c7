/- The contract of package frame's Call. -/
import Derived.Test.YtdcaiecgholgiaaDoorFe
import Derived.BigRegion
namespace Go.Proofs.YtdcaiecgholgiaaDoor
open Go.RowKit

set_option maxRecDepth 100000 in
set_option maxHeartbeats 2000000 in
theorem c_fcall {f : FR} (hf : f.Ok) (r : Int) (w : World) :
    Calls Tryd.prog 24 #[.agg f.cells.toArray, .int .i64 r] w fun e w' => e = .returned (.tuple #[.agg (callF f r).1.cells.toArray, .int .i64 (callF f r).2]) ∧ Below w.heap.size w w' := by
  have HX := Lib.hid (box2 w f 26)
  have C := Lib.hid (c_ffine hf ((w.alloc (.cells f.cells.toArray 26)).alloc (.cells #[.int .i64 0, .bool false, .int .i64 0, .int .i64 0, .int .i64 0, .int .i64 0, .int .i64 0, .int .i64 0, .int .i64 0, .int .i64 0, .int .i64 0, .int .i64 0, .int .i64 0, .int .i64 0, .int .i64 0, .int .i64 0, .int .i64 0, .int .i64 0, .int .i64 0, .int .i64 0, .int .i64 0, .int .i64 0, .int .i64 0, .int .i64 0, .int .i64 0, .int .i64 0, .int .i64 0, .int .i64 0, .int .i64 0, .int .i64 0, .int .i64 0, .int .i64 0, .int .i64 0, .int .i64 0, .int .i64 0] 26)))
  have C2 := fun W => c_isPlace r W
  cases hff : fineF f
  · have HV : callF f r = (f, 1) := if_pos hff
    rw [HV]
    rw [hff] at C
    clear hff HV
    go_enter Tryd.func24, Tryd.ntmps24
    go_wp2_with (first | (refine ld_prog hf HX.out.box rfl (.tmp 2) rfl rfl ?_) | (go_at_call 9; refine C.out.mono ?_; rintro e w3 ⟨rfl, hb3⟩; have HB := Lib.hid (HX.out.box.up hb3 HX.out.box.lt); have HR := Lib.hid (HX.out.res.up hb3 HX.out.res.lt); have HQ := Lib.hid (up_trans HX.out.up hb3); clear hb3) | (refine ld_prog hf HB.out rfl (.tmp 2) rfl rfl ?_) | (refine st_prog hf FR.zero_ok HR.out rfl (.tmp 4) (.tmp 10) rfl rfl rfl ?_))
    refine bodyPost_ret (v := .tuple #[.agg f.cells.toArray, .int .i64 1]) (results_fe (fn := Tryd.f24) (p := 4) (t := 5) rfl _ _ _ hf rfl (HR.out.row _)) rfl ?_
    exact ⟨rfl, below_setRow HQ.out (by omega) _⟩
  rw [hff] at C
  have hF := (fineF_iff f).1 hff
  have p0 := hF.pc0
  have p1 := hF.pc1
  have d0 := hF.d0
  have d1 := hF.d1
  by_cases hd : f.depth = 8
  · have HV : callF f r = (f, 19) := by
      unfold callF
      rw [if_neg (by rw [hff]; decide), if_pos hd]
    rw [HV]
    have hdb : (f.depth == 8) = true := by simpa using hd
    clear hff HV hF hd
    go_enter Tryd.func24, Tryd.ntmps24
    go_wp2_with (first | (refine ld_prog hf HX.out.box rfl (.tmp 2) rfl rfl ?_) | (go_at_call 9; refine C.out.mono ?_; rintro e w3 ⟨rfl, hb3⟩; have HB := Lib.hid (HX.out.box.up hb3 HX.out.box.lt); have HR := Lib.hid (HX.out.res.up hb3 HX.out.res.lt); have HQ := Lib.hid (up_trans HX.out.up hb3); clear hb3; have hd26 := HB.out.cell 26 _ (FR.c_depth hf)) | (refine ld_prog hf HB.out rfl (.tmp 2) rfl rfl ?_) | (refine st_prog hf FR.zero_ok HR.out rfl (.tmp 4) (.tmp 15) rfl rfl rfl ?_))
    refine bodyPost_ret (v := .tuple #[.agg f.cells.toArray, .int .i64 19]) (results_fe (fn := Tryd.f24) (p := 4) (t := 5) rfl _ _ _ hf rfl (HR.out.row _)) rfl ?_
    exact ⟨rfl, below_setRow HQ.out (by omega) _⟩
  have hdb : (f.depth == 8) = false := by simpa using hd
  cases hb : placeB r
  · have HV : callF f r = (f, 8) := by
      unfold callF
      rw [if_neg (by rw [hff]; decide), if_neg hd, if_neg (by rw [hb]; simp)]
    rw [HV]
    simp only [hb] at C2
    clear hff HV hF hd
    go_enter Tryd.func24, Tryd.ntmps24
    go_wp2_with (first | (refine ld_prog hf HX.out.box rfl (.tmp 2) rfl rfl ?_) | (go_at_call 9; refine C.out.mono ?_; rintro e w3 ⟨rfl, hb3⟩; have HB := Lib.hid (HX.out.box.up hb3 HX.out.box.lt); have HR := Lib.hid (HX.out.res.up hb3 HX.out.res.lt); have HQ := Lib.hid (up_trans HX.out.up hb3); clear hb3; have hd26 := HB.out.cell 26 _ (FR.c_depth hf); have hp0 := HB.out.cell 0 _ (FR.c_pc f)) | (go_at_call 30; first | (refine (C2 _).mono ?_; rintro e w' ⟨rfl, rfl⟩)) | (refine ld_prog hf HB.out rfl (.tmp 2) rfl rfl ?_) | (refine st_prog hf FR.zero_ok HR.out rfl (.tmp 4) (.tmp 27) rfl rfl rfl ?_))
    refine bodyPost_ret (v := .tuple #[.agg f.cells.toArray, .int .i64 8]) (results_fe (fn := Tryd.f24) (p := 4) (t := 5) rfl _ _ _ hf rfl (HR.out.row _)) rfl ?_
    exact ⟨rfl, below_setRow HQ.out (by omega) _⟩
  simp only [hb] at C2
  by_cases h64 : f.pc = 64
  · have HV : callF f r = (f, 8) := by
      unfold callF
      rw [if_neg (by rw [hff]; decide), if_neg hd, if_neg (fun h => h.2 h64)]
    rw [HV]
    have C3 := fun W => c_isPlace (f.pc + 1) W
    simp only [show placeB (f.pc + 1) = false by rw [h64]; rfl] at C3
    clear hff HV hF hd h64
    go_enter Tryd.func24, Tryd.ntmps24
    go_wp2_with (first | (refine ld_prog hf HX.out.box rfl (.tmp 2) rfl rfl ?_) | (go_at_call 9; refine C.out.mono ?_; rintro e w3 ⟨rfl, hb3⟩; have HB := Lib.hid (HX.out.box.up hb3 HX.out.box.lt); have HR := Lib.hid (HX.out.res.up hb3 HX.out.res.lt); have HQ := Lib.hid (up_trans HX.out.up hb3); clear hb3; have hd26 := HB.out.cell 26 _ (FR.c_depth hf); have hp0 := HB.out.cell 0 _ (FR.c_pc f)) | (go_at_call 30; first | (refine (C2 _).mono ?_; rintro e w' ⟨rfl, rfl⟩) | (refine (C3 _).mono ?_; rintro e w' ⟨rfl, rfl⟩)) | (refine ld_prog hf HB.out rfl (.tmp 2) rfl rfl ?_) | (refine st_prog hf FR.zero_ok HR.out rfl (.tmp 4) (.tmp 27) rfl rfl rfl ?_))
    refine bodyPost_ret (v := .tuple #[.agg f.cells.toArray, .int .i64 8]) (results_fe (fn := Tryd.f24) (p := 4) (t := 5) rfl _ _ _ hf rfl (HR.out.row _)) rfl ?_
    exact ⟨rfl, below_setRow HQ.out (by omega) _⟩
  obtain ⟨k, hk⟩ : ∃ k : Nat, f.depth = k := ⟨f.depth.toNat, by omega⟩
  have hk8 : k < 8 := by omega
  have HV : callF f r = ({ f with pc := r, stack := f.stack.set k (f.pc + 1), depth := (k : Int) + 1 }, 0) := by
    unfold callF
    rw [if_neg (by rw [hff]; decide), if_neg hd, if_pos ⟨hb, h64⟩, hk, Int.toNat_natCast]
  rw [HV]
  have C3 := fun W => c_isPlace (f.pc + 1) W
  simp only [show placeB (f.pc + 1) = true from (placeB_iff _).2 (by omega)] at C3
  have HG : ({ f with pc := r, stack := f.stack.set k (f.pc + 1), depth := (k : Int) + 1 } : FR).Ok := ((hf.pc r).stk k (f.pc + 1)).dep _
  have hc26 := FR.c_depth hf
  rw [hk] at hc26 hdb
  have HC26 := Lib.hid hc26
  clear hff HV hF hd hk d0 d1 hc26 hb
  go_enter Tryd.func24, Tryd.ntmps24
  go_wp2_with (first | (refine ld_prog hf HX.out.box rfl (.tmp 2) rfl rfl ?_) | (go_at_call 9; refine C.out.mono ?_; rintro e w3 ⟨rfl, hb3⟩; have HB := Lib.hid (HX.out.box.up hb3 HX.out.box.lt); have HR := Lib.hid (HX.out.res.up hb3 HX.out.res.lt); have HQ := Lib.hid (up_trans HX.out.up hb3); clear hb3; have hd26 := HB.out.cell 26 _ HC26.out; have hp0 := HB.out.cell 0 _ (FR.c_pc f); have hs := HB.out.cell _ _ (FR.g_stack hf k hk8); have hf0 := HB.out.free 0; have hf26 := HB.out.free 26; have hfs := HB.out.free (27 + k)) | (go_at_call 30; first | (refine (C2 _).mono ?_; rintro e w' ⟨rfl, rfl⟩) | (refine (C3 _).mono ?_; rintro e w' ⟨rfl, rfl⟩)) | (refine ld_prog (t := 26) HG ?_ rfl (.tmp 2) rfl rfl ?_; · exact (((HB.out.spc r).sstack (hf.pc r) k (f.pc + 1)).sdepth ((hf.pc r).stk k (f.pc + 1)) ((k : Int) + 1))) | (refine st_prog (t := 26) HG FR.zero_ok ?_ rfl (.tmp 4) (.tmp 41) rfl rfl rfl ?_; · exact (((HR.out.other ⟨w.heap.size, 0, none⟩ (by simp) _).other ⟨w.heap.size, 27 + k, none⟩ (by simp) _).other ⟨w.heap.size, 26, none⟩ (by simp) _)))
  refine bodyPost_ret (v := .tuple #[.agg ({ f with pc := r, stack := f.stack.set k (f.pc + 1), depth := (k : Int) + 1 } : FR).cells.toArray, .int .i64 0]) (results_fe (fn := Tryd.f24) (p := 4) (t := 5) rfl _ _ _ HG rfl ((((HR.out.other ⟨w.heap.size, 0, none⟩ (by simp) _).other ⟨w.heap.size, 27 + k, none⟩ (by simp) _).other ⟨w.heap.size, 26, none⟩ (by simp) _).row _)) rfl ?_
  exact ⟨rfl, below_setRow (((HQ.out.setCell (Nat.le_refl _) _).setCell (Nat.le_refl _) _).setCell (Nat.le_refl _) _) (by omega) _⟩
end Go.Proofs.YtdcaiecgholgiaaDoor
