/- The laws Tells and Reads, walked. -/
import Derived.Test.YtajbpplklmhfmaaDoorEvo
import Derived.Test.YtajbpplklmhfmaaDoorEvl
import Derived.Test.YtajbpplklmhfmaaDoorEvm
namespace Go.Proofs.YtajbpplklmhfmaaDoor
open Go.RowKit

set_option maxRecDepth 100000 in
set_option maxHeartbeats 4000000 in
theorem l_tells (k o h n : Int) (w : World) (hv : EnvE w) : Calls Tryd.prog 3 #[.agg #[.int .i64 k, .int .i64 o, .int .i64 h, .int .i64 n]] w fun e w' => e = .returned (.bool true) ∧ Below w.heap.size w w' := by
  have HU := Lib.hid (up_alloc w (.cells #[.int .i64 k, .int .i64 o, .int .i64 h, .int .i64 n] 23))
  have HB := Lib.hid (Blk.new w [.int .i64 k, .int .i64 o, .int .i64 h, .int .i64 n] 23)
  have HV := Lib.hid hv
  have C1 := Lib.hid (fun W => c_evtxt k o h n W)
  have C2 := Lib.hid (fun W => c_rtxt k o h n W)
  have C3 := Lib.hid (fun W => c_evchk k o h n W)
  have C4 := Lib.hid (fun W => c_rchk k o h n W)
  have hl := evTxt_len k o h n
  generalize evTxt k o h n = s at C1 C2 hl
  generalize evChk k o h n = x at C1 C2 C3 C4
  clear hv
  have HV1 := Lib.hid (HV.out.up HU.out)
  go_enter Tryd.func3, Tryd.ntmps3
  go_wp2_with fail
  refine (C1.out _ HV1.out).mono ?_; rintro e w2 ⟨rfl, hb2⟩
  have HB2 := HB.out.up hb2 HB.out.lt
  have HU2 := Lib.hid (up_trans HU.out hb2)
  have i0 := HB2.cell 0 _ rfl
  have i1 := HB2.cell 1 _ rfl
  have i2 := HB2.cell 2 _ rfl
  have i3 := HB2.cell 3 _ rfl
  go_wp2_with fail
  refine (C2.out _).mono ?_; rintro e w3 ⟨rfl, hb3⟩
  have HB3 := HB2.up hb3 HB2.lt
  have HU3 := Lib.hid (up_trans HU2.out hb3)
  have HV3 := HV.out.up HU3.out
  have c3 := grown_call (w := w3) fun W _ => C3.out W
  have c4 := grown_call (w := w3) fun W _ => C4.out W
  have c5 := grown_call (w := w3) fun W hW => c_alive W (HV3.up hW)
  have j0 := cell_regrown (HB3.cell 0 _ rfl)
  have j1 := cell_regrown (HB3.cell 1 _ rfl)
  have j2 := cell_regrown (HB3.cell 2 _ rfl)
  have j3 := cell_regrown (HB3.cell 3 _ rfl)
  clear HB2 HB3 HB HU HU2 hb2 hb3 i0 i1 i2 i3 HV1 HV3
  go_wp2_with fail
  refine wp_region_quiet_below (by kernel_rfl) (by kernel_rfl) ?_
  repeat (go_big_quiet_step (first | (with_reducible exact c3 _ _) | (with_reducible exact c4 _ _) | (with_reducible exact c5 _ _)))
  refine wpQuiet_nil ?_
  intro _ hw'
  obtain ⟨⟨dq, osq⟩, hw''⟩ := hw'
  have HQ := Lib.hid (up_trans HU3.out (hw'' ▸ below_regrown w3 dq osq))
  clear hw''
  go_wp2
  go_ret
  exact ⟨rfl, HQ.out⟩

set_option maxRecDepth 100000 in
set_option maxHeartbeats 4000000 in
theorem l_reads (s : ByteArray) (w : World) (hv : EnvE w) : Calls Tryd.prog 4 #[.string s] w fun e w' => e = .returned (.bool true) ∧ Below w.heap.size w w' := by
  have HV := Lib.hid hv
  have CA := Lib.hid (fun W => c_alive W)
  clear hv
  by_cases hs : (200 : Int) < s.size
  · go_enter Tryd.func4, Tryd.ntmps4
    go_wp2_with fail
    refine (CA.out _ HV.out).mono ?_; rintro e w2 ⟨rfl, hb2⟩
    go_wp2
    go_ret
    exact ⟨rfl, hb2⟩
  · have C1 := Lib.hid (fun W => c_evparse s (by omega) W)
    have C2 := Lib.hid (fun W => c_rpar s (by omega) W)
    rw [evPar_two] at C1
    obtain ⟨⟨⟨k, o, h, n⟩, x⟩, hX⟩ : ∃ X, evPar plainV s.data.toList = X := ⟨_, rfl⟩
    rw [hX] at C1 C2
    have hE := fun W => eql_rev k o h n k o h n W
    simp only [beq_self_eq_true, Bool.and_self] at hE
    clear hX
    go_enter Tryd.func4, Tryd.ntmps4
    go_wp2_with fail
    refine (C1.out _ HV.out).mono ?_; rintro e w2 ⟨rfl, hb2⟩
    have HE2 := Lib.hid (Blk.new w2 [.int .i64 k, .int .i64 o, .int .i64 h, .int .i64 n] 27)
    have HU2 := Lib.hid (hb2.alloc hb2.size (.cells #[.int .i64 k, .int .i64 o, .int .i64 h, .int .i64 n] 27))
    clear hb2
    go_wp2_with fail
    refine (C2.out _).mono ?_; rintro e w3 ⟨rfl, hb3⟩
    have HE3 := (HE2.out.up hb3 HE2.out.lt)
    have hbx := HU2.out.trans (hb3.mono HU2.out.size)
    have HU3 := Lib.hid (hbx.alloc hbx.size (.cells #[.int .i64 k, .int .i64 o, .int .i64 h, .int .i64 n] 23))
    have e0 := HE3.cell 0 _ rfl
    have e1 := HE3.cell 1 _ rfl
    have e2 := HE3.cell 2 _ rfl
    have e3 := HE3.cell 3 _ rfl
    have k0 := fun o => Lib.cell?_alloc_some o e0
    have k1 := fun o => Lib.cell?_alloc_some o e1
    have k2 := fun o => Lib.cell?_alloc_some o e2
    have k3 := fun o => Lib.cell?_alloc_some o e3
    have HV3 := Lib.hid (HV.out.up HU3.out)
    clear HE3 hbx hb3
    go_wp2_with fail
    refine (CA.out _ HV3.out).mono ?_; rintro e w4 ⟨rfl, hb4⟩
    go_wp2
    go_ret
    exact ⟨rfl, HU3.out.trans (hb4.mono HU3.out.size)⟩
end Go.Proofs.YtajbpplklmhfmaaDoor
