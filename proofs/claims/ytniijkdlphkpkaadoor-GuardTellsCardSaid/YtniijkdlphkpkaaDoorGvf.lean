/- Package guard's wanted: the text of what a guard waits for. -/
import Derived.Test.YtniijkdlphkpkaaDoorGvd
import Derived.Test.YtniijkdlphkpkaaDoorIt
import Derived.Lib.QuietBelow
import Derived.BigQuiet
import Derived.Deep.QuietTactic
import Derived.Lib.Strings
namespace Go.Proofs.YtniijkdlphkpkaaDoor
open Go.RowKit

/-- A string of bytes that is a list. -/
theorem str_app (a b : List UInt8) : (⟨a.toArray⟩ : ByteArray) ++ ⟨b.toArray⟩ = ⟨(a ++ b).toArray⟩ := bytes_app a b
set_option maxRecDepth 100000 in
set_option maxHeartbeats 4000000 in
theorem c_gwanted (k o v r n : Int) (o0 : -9223372036854775808 ≤ o) (o1 : o ≤ 9223372036854775807) (v0 : -9223372036854775808 ≤ v) (v1 : v ≤ 9223372036854775807) (r0 : -9223372036854775808 ≤ r) (r1 : r ≤ 9223372036854775807) (w : World) (hT : EnvT w) :
    Calls Tryd.prog 20 #[.agg #[.int .i64 k, .int .i64 o, .int .i64 v, .int .i64 r, .int .i64 n]] w fun e w' => e = .returned (.string ⟨(wantL k o v r).toArray⟩) ∧ Below w.heap.size w w' := by
  have HB := Blk.new w [.int .i64 k, .int .i64 o, .int .i64 v, .int .i64 r, .int .i64 n] 23
  have HU := up_alloc w (.cells #[.int .i64 k, .int .i64 o, .int .i64 v, .int .i64 r, .int .i64 n] 23)
  generalize hw1 : w.alloc (.cells [.int .i64 k, .int .i64 o, .int .i64 v, .int .i64 r, .int .i64 n].toArray 23) = w1 at HB
  have HT1 : EnvT w1 := by rw [← hw1]; exact hT.up HU
  have HU1 : Hid (Below w.heap.size w w1) := Lib.hid (by rw [← hw1]; exact HU)
  have HW := Lib.hid hw1
  clear hw1 HU hT
  have cO := grown_call (w := w1) fun W hW => c_itoa o o0 o1 W (HT1.up hW)
  have cV := grown_call (w := w1) fun W hW => c_itoa v v0 v1 W (HT1.up hW)
  have cR := grown_call (w := w1) fun W hW => c_itoa r r0 r1 W (HT1.up hW)
  have lO := it_len o0 o1
  have lV := it_len v0 v1
  have lR := it_len r0 r1
  have j0 := HB.cell 0 _ rfl
  have i1 := cell_regrown (HB.cell 1 _ rfl)
  have i2 := cell_regrown (HB.cell 2 _ rfl)
  have i3 := cell_regrown (HB.cell 3 _ rfl)
  obtain ⟨so, hso⟩ : ∃ x, Lib.itoa o = x := ⟨_, rfl⟩
  obtain ⟨sv, hsv⟩ : ∃ x, Lib.itoa v = x := ⟨_, rfl⟩
  obtain ⟨sr, hsr⟩ : ∃ x, Lib.itoa r = x := ⟨_, rfl⟩
  have HL := Lib.hid (show wantL k o v r = if k = 1 then [105, 110, 32, 99] ++ (so ++ ([32, 114] ++ sr)) else if k = 2 then [111, 117, 116, 32, 99] ++ (so ++ ([32] ++ sv)) else if k = 3 then [98, 97, 114, 32, 98] ++ so else if k = 4 then [116, 105, 109, 101, 32] ++ sv else if k = 6 then [106, 111, 105, 110, 32] ++ (sv ++ ([32, 114] ++ sr)) else [115, 107, 105, 112] from by rw [← hso, ← hsv, ← hsr]; rfl)
  rw [hso] at cO lO
  rw [hsv] at cV lV
  rw [hsr] at cR lR
  clear hso hsv hsr HT1 HB o0 o1 v0 v1 r0 r1
  by_cases h1 : k = 1
  · subst h1
    have HV : Hid (wantL 1 o v r = [105, 110, 32, 99] ++ (so ++ ([32, 114] ++ sr))) := Lib.hid (by rw [HL.out]; rw [if_pos rfl])
    clear HL
    go_enter Tryd.func20, Tryd.ntmps20
    go_upto_region 1 with fail
    rw [HW.out]
    refine wp_region_quiet_below (by kernel_rfl) (by kernel_rfl) ?_
    repeat (go_big_quiet_step (first | exact cO _ _ | exact cV _ _ | exact cR _ _))
    refine wpQuiet_nil ?_
    intro _ hw'
    obtain ⟨⟨dq, osq⟩, hw''⟩ := hw'
    have HQ := Lib.hid (up_trans HU1.out (hw'' ▸ below_regrown w1 dq osq))
    have i0 := cell_regrown j0 dq osq
    rw [← hw''] at i0
    clear hw'' j0 i1 i2 i3 cO cV cR
    go_wp2
    go_ret
    refine ⟨ret_str ?_, HQ.out⟩
    rw [HV.out]
    apply ByteArray.ext
    simp
  have t1 : (k == 1) = false := by simpa using h1
  by_cases h2 : k = 2
  · subst h2
    have HV : Hid (wantL 2 o v r = [111, 117, 116, 32, 99] ++ (so ++ ([32] ++ sv))) := Lib.hid (by rw [HL.out]; rw [if_neg (by decide), if_pos rfl])
    clear HL
    go_enter Tryd.func20, Tryd.ntmps20
    go_upto_region 1 with fail
    rw [HW.out]
    refine wp_region_quiet_below (by kernel_rfl) (by kernel_rfl) ?_
    repeat (go_big_quiet_step (first | exact cO _ _ | exact cV _ _ | exact cR _ _))
    refine wpQuiet_nil ?_
    intro _ hw'
    obtain ⟨⟨dq, osq⟩, hw''⟩ := hw'
    have HQ := Lib.hid (up_trans HU1.out (hw'' ▸ below_regrown w1 dq osq))
    have i0 := cell_regrown j0 dq osq
    rw [← hw''] at i0
    clear hw'' j0 i1 i2 i3 cO cV cR
    go_wp2
    go_ret
    refine ⟨ret_str ?_, HQ.out⟩
    rw [HV.out]
    apply ByteArray.ext
    simp
  have t2 : (k == 2) = false := by simpa using h2
  by_cases h3 : k = 3
  · subst h3
    have HV : Hid (wantL 3 o v r = [98, 97, 114, 32, 98] ++ so) := Lib.hid (by rw [HL.out]; rw [if_neg (by decide), if_neg (by decide), if_pos rfl])
    clear HL
    go_enter Tryd.func20, Tryd.ntmps20
    go_upto_region 1 with fail
    rw [HW.out]
    refine wp_region_quiet_below (by kernel_rfl) (by kernel_rfl) ?_
    repeat (go_big_quiet_step (first | exact cO _ _ | exact cV _ _ | exact cR _ _))
    refine wpQuiet_nil ?_
    intro _ hw'
    obtain ⟨⟨dq, osq⟩, hw''⟩ := hw'
    have HQ := Lib.hid (up_trans HU1.out (hw'' ▸ below_regrown w1 dq osq))
    have i0 := cell_regrown j0 dq osq
    rw [← hw''] at i0
    clear hw'' j0 i1 i2 i3 cO cV cR
    go_wp2
    go_ret
    refine ⟨ret_str ?_, HQ.out⟩
    rw [HV.out]
    apply ByteArray.ext
    simp
  have t3 : (k == 3) = false := by simpa using h3
  by_cases h4 : k = 4
  · subst h4
    have HV : Hid (wantL 4 o v r = [116, 105, 109, 101, 32] ++ sv) := Lib.hid (by rw [HL.out]; rw [if_neg (by decide), if_neg (by decide), if_neg (by decide), if_pos rfl])
    clear HL
    go_enter Tryd.func20, Tryd.ntmps20
    go_upto_region 1 with fail
    rw [HW.out]
    refine wp_region_quiet_below (by kernel_rfl) (by kernel_rfl) ?_
    repeat (go_big_quiet_step (first | exact cO _ _ | exact cV _ _ | exact cR _ _))
    refine wpQuiet_nil ?_
    intro _ hw'
    obtain ⟨⟨dq, osq⟩, hw''⟩ := hw'
    have HQ := Lib.hid (up_trans HU1.out (hw'' ▸ below_regrown w1 dq osq))
    have i0 := cell_regrown j0 dq osq
    rw [← hw''] at i0
    clear hw'' j0 i1 i2 i3 cO cV cR
    go_wp2
    go_ret
    refine ⟨ret_str ?_, HQ.out⟩
    rw [HV.out]
    apply ByteArray.ext
    simp
  have t4 : (k == 4) = false := by simpa using h4
  by_cases h6 : k = 6
  · subst h6
    have HV : Hid (wantL 6 o v r = [106, 111, 105, 110, 32] ++ (sv ++ ([32, 114] ++ sr))) := Lib.hid (by rw [HL.out]; rw [if_neg (by decide), if_neg (by decide), if_neg (by decide), if_neg (by decide), if_pos rfl])
    clear HL
    go_enter Tryd.func20, Tryd.ntmps20
    go_upto_region 1 with fail
    rw [HW.out]
    refine wp_region_quiet_below (by kernel_rfl) (by kernel_rfl) ?_
    repeat (go_big_quiet_step (first | exact cO _ _ | exact cV _ _ | exact cR _ _))
    refine wpQuiet_nil ?_
    intro _ hw'
    obtain ⟨⟨dq, osq⟩, hw''⟩ := hw'
    have HQ := Lib.hid (up_trans HU1.out (hw'' ▸ below_regrown w1 dq osq))
    have i0 := cell_regrown j0 dq osq
    rw [← hw''] at i0
    clear hw'' j0 i1 i2 i3 cO cV cR
    go_wp2
    go_ret
    refine ⟨ret_str ?_, HQ.out⟩
    rw [HV.out]
    apply ByteArray.ext
    simp
  have t6 : (k == 6) = false := by simpa using h6
  have HV0 := Lib.hid (show wantL k o v r = [115, 107, 105, 112] from by rw [HL.out, if_neg h1, if_neg h2, if_neg h3, if_neg h4, if_neg h6])
  clear h1 h2 h3 h4 h6
  have HV : Hid (wantL k o v r = [115, 107, 105, 112]) := Lib.hid (by rw [HL.out]; rw [← HL.out]; exact HV0.out)
  clear HL
  go_enter Tryd.func20, Tryd.ntmps20
  go_upto_region 1 with fail
  rw [HW.out]
  refine wp_region_quiet_below (by kernel_rfl) (by kernel_rfl) ?_
  repeat (go_big_quiet_step (first | exact cO _ _ | exact cV _ _ | exact cR _ _))
  refine wpQuiet_nil ?_
  intro _ hw'
  obtain ⟨⟨dq, osq⟩, hw''⟩ := hw'
  have HQ := Lib.hid (up_trans HU1.out (hw'' ▸ below_regrown w1 dq osq))
  have i0 := cell_regrown j0 dq osq
  rw [← hw''] at i0
  clear hw'' j0 i1 i2 i3 cO cV cR
  go_wp2
  go_ret
  refine ⟨ret_str ?_, HQ.out⟩
  rw [HV.out]
end Go.Proofs.YtniijkdlphkpkaaDoor
