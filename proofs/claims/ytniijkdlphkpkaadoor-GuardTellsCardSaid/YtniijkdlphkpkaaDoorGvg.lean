/- Package guard's Text. -/
import Derived.Test.YtniijkdlphkpkaaDoorGvf
namespace Go.Proofs.YtniijkdlphkpkaaDoor
open Go.RowKit

/-- A guard's text, or none. -/
def txtE (k o v r n : Int) : List UInt8 := if chkE k o v r n = 0 then textL k o v r n else []
theorem txtE_ok {k o v r n : Int} (h : chkE k o v r n = 0) : txtE k o v r n = textL k o v r n := if_pos h
theorem txtE_no {k o v r n : Int} (h : chkE k o v r n ≠ 0) : txtE k o v r n = [] := if_neg h
theorem want_len {k o v r n : Int} (h : Fit k o v r n) : (wantL k o v r).length ≤ 60 := by
  have h1 := it_len (n := o) (by have := h.o0; omega) (by have := h.o1; omega)
  have h2 := it_len (n := v) (by have := h.v0; omega) (by have := h.v1; omega)
  have h3 := it_len (n := r) (by have := h.r0; omega) (by have := h.r1; omega)
  unfold wantL
  repeat' split
  all_goals simp only [List.length_append, List.length_cons, List.length_nil]; omega
theorem textL_len {k o v r n : Int} (h : Fit k o v r n) : (textL k o v r n).length ≤ 90 := by
  have h1 := want_len h
  have h2 := it_len (n := n) (by have := h.n0; omega) (by have := h.n1; omega)
  unfold textL
  simp only [List.length_append, List.length_cons, List.length_nil]
  omega
theorem txtE_len (k o v r n : Int) : (txtE k o v r n).length ≤ 90 := by
  unfold txtE
  split
  · next h => exact textL_len (fit_of h)
  · simp
set_option maxRecDepth 100000 in
set_option maxHeartbeats 4000000 in
theorem c_gtext (k o v r n : Int) (w : World) (hT : EnvT w) :
    Calls Tryd.prog 6 #[.agg #[.int .i64 k, .int .i64 o, .int .i64 v, .int .i64 r, .int .i64 n]] w fun e w' => e = .returned (.tuple #[.string ⟨(txtE k o v r n).toArray⟩, .int .i64 (chkE k o v r n)]) ∧ Below w.heap.size w w' := by
  have HB := Blk.new w [.int .i64 k, .int .i64 o, .int .i64 v, .int .i64 r, .int .i64 n] 23
  have HU := up_alloc w (.cells #[.int .i64 k, .int .i64 o, .int .i64 v, .int .i64 r, .int .i64 n] 23)
  have CC := Lib.hid (c_gcheck k o v r n (w.alloc (.cells #[.int .i64 k, .int .i64 o, .int .i64 v, .int .i64 r, .int .i64 n] 23)))
  by_cases h0 : chkE k o v r n = 0
  · have HX := Lib.hid (txtE_ok h0)
    have hf := fit_of h0
    rw [h0] at CC ⊢
    have HF := Lib.hid hf
    clear h0 hf
    go_enter Tryd.func6, Tryd.ntmps6
    go_wp2_with fail
    refine CC.out.mono ?_; rintro e w2 ⟨rfl, hb2⟩
    have HB2 := HB.up hb2 HB.lt
    have HT2 := hT.up (up_trans HU hb2)
    have HU2 := Lib.hid (up_trans HU hb2)
    have cW := grown_call (w := w2) fun W hW => c_gwanted k o v r n (by have := HF.out.o0; omega) (by have := HF.out.o1; omega) (by have := HF.out.v0; omega) (by have := HF.out.v1; omega) (by have := HF.out.r0; omega) (by have := HF.out.r1; omega) W (HT2.up hW)
    have cI := grown_call (w := w2) fun W hW => c_itoa n (by have := HF.out.n0; omega) (by have := HF.out.n1; omega) W (HT2.up hW)
    have l1 := want_len HF.out
    have l2 := it_len (n := n) (by have := HF.out.n0; omega) (by have := HF.out.n1; omega)
    have i0 := cell_regrown (HB2.cell 0 _ rfl)
    have i1 := cell_regrown (HB2.cell 1 _ rfl)
    have i2 := cell_regrown (HB2.cell 2 _ rfl)
    have i3 := cell_regrown (HB2.cell 3 _ rfl)
    have i4 := cell_regrown (HB2.cell 4 _ rfl)
    have HY : Hid (textL k o v r n = Lib.itoa n ++ ([58, 32] ++ wantL k o v r)) := Lib.hid rfl
    rw [HY.out] at HX
    clear HY
    generalize wantL k o v r = sw at cW l1 HX
    generalize Lib.itoa n = sn at cI l2 HX
    clear HB2 HT2 hb2 HB HU CC hT
    go_wp2_with fail
    refine wp_region_quiet_below (by kernel_rfl) (by kernel_rfl) ?_
    repeat (go_big_quiet_step (first | exact cW _ _ | exact cI _ _))
    refine wpQuiet_nil ?_
    intro _ hw'
    obtain ⟨⟨dq, osq⟩, hw''⟩ := hw'
    have HQ := Lib.hid (up_trans HU2.out (hw'' ▸ below_regrown w2 dq osq))
    clear hw''
    go_wp2
    go_ret2
    refine ⟨ret_str2 ?_ rfl, HQ.out⟩
    rw [HX.out]
    apply ByteArray.ext
    simp
  · have HX := Lib.hid (txtE_no h0)
    have hb : (chkE k o v r n != 0) = true := by simpa [bne] using h0
    generalize chkE k o v r n = x at CC hb
    clear h0 hT
    go_enter Tryd.func6, Tryd.ntmps6
    go_wp2_with fail
    refine CC.out.mono ?_; rintro e w2 ⟨rfl, hb2⟩
    go_wp2
    go_ret2
    exact ⟨ret_str2 (by rw [HX.out]) rfl, up_trans HU hb2⟩
end Go.Proofs.YtniijkdlphkpkaaDoor
