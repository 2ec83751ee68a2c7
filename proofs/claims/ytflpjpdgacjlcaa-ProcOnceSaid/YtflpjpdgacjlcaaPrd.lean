/- Package proc: may. -/
import Derived.Test.YtflpjpdgacjlcaaPrc
import Derived.Test.YtflpjpdgacjlcaaP3
namespace Go.Proofs.Ytflpjpdgacjlcaa
open Go.RowKit

set_option maxRecDepth 100000 in
set_option maxHeartbeats 4000000 in
theorem c_prmay (q : PR) (w : World) : Calls Try.prog 34 #[.agg (prC q).toArray] w fun e w' => e = .returned (.bool (mayP q)) ∧ Below w.heap.size w w' := by
  have hX := px w q 69
  generalize hw1 : w.alloc (.cells (prC q).toArray 69) = w1 at hX
  have HW := Lib.hid hw1
  have HX := Lib.hid hX
  have c0 := hX.c0
  have c1 := hX.c1
  have c38 := hX.c38
  have c41 := hX.c41
  clear hw1 hX
  cases h0 : decide (q.gen < 0)
  rotate_left
  · skip
    have HC : Hid (mayP q = false) := Lib.hid (by unfold mayP; simp only [h0]; rfl)
    go_enter Try.func34, Try.ntmps34
    go_upto_region 1 with fail
    rw [HW.out]
    go_wp2
    go_ret
    exact ⟨ret_bool HC.out.symm, HX.out.up⟩
  cases h1 : decide (65535 < q.gen)
  rotate_left
  · skip
    have HC : Hid (mayP q = false) := Lib.hid (by unfold mayP; simp only [h0, h1]; rfl)
    go_enter Try.func34, Try.ntmps34
    go_upto_region 1 with fail
    rw [HW.out]
    go_wp2
    go_ret
    exact ⟨ret_bool HC.out.symm, HX.out.up⟩
  obtain ⟨lv, hl⟩ : ∃ b, q.live = b := ⟨_, rfl⟩
  rw [hl] at c1
  cases lv
  · skip
    have HC : Hid (mayP q = emptyP q) := Lib.hid (by unfold mayP; rw [h0, h1, hl]; rfl)
    have CE := Lib.hid (fun W => c_prempty q W)
    generalize emptyP q = r at HC CE
    go_enter Try.func34, Try.ntmps34
    go_upto_region 1 with fail
    rw [HW.out]
    go_wp2_with (first | (refine ldr (b := w.heap.size) (t := 69) (cs := prC q) (.tmp 1) rfl rfl Try.underlying69 rfl (info_p q) rfl ?_ ?_; (· exact HX.out.box)) | (go_at_call 52; refine (CE.out _).mono ?_; rintro e w2 ⟨rfl, hb2⟩))
    go_ret
    exact ⟨ret_bool HC.out.symm, up_trans HX.out.up hb2⟩
  have HM : Hid (mayP q = liveP q) := Lib.hid (by unfold mayP; rw [h0, h1, hl]; rfl)
  cases k0 : (decide (0 < q.gen))
  · skip
    have HC : Hid (mayP q = false) := Lib.hid (by rw [HM.out]; unfold liveP; simp only [k0]; rfl)
    go_enter Try.func34, Try.ntmps34
    go_upto_region 1 with fail
    rw [HW.out]
    go_wp2
    go_ret
    exact ⟨ret_bool HC.out.symm, HX.out.up⟩
  cases k1 : (decide (0 ≤ q.mode))
  · skip
    have HC : Hid (mayP q = false) := Lib.hid (by rw [HM.out]; unfold liveP; simp only [k0, k1]; rfl)
    go_enter Try.func34, Try.ntmps34
    go_upto_region 1 with fail
    rw [HW.out]
    go_wp2
    go_ret
    exact ⟨ret_bool HC.out.symm, HX.out.up⟩
  cases k2 : (decide (q.mode ≤ 3))
  · skip
    have HC : Hid (mayP q = false) := Lib.hid (by rw [HM.out]; unfold liveP; simp only [k0, k1, k2]; rfl)
    go_enter Try.func34, Try.ntmps34
    go_upto_region 1 with fail
    rw [HW.out]
    go_wp2
    go_ret
    exact ⟨ret_bool HC.out.symm, HX.out.up⟩
  cases k3 : (fineF q.frm)
  · skip
    have HC : Hid (mayP q = false) := Lib.hid (by rw [HM.out]; unfold liveP; simp only [k0, k1, k2, k3]; rfl)
    have CF0 := fun W => c_ffine q.ok W
    rw [k3] at CF0
    have CF := Lib.hid CF0
    clear CF0
    go_enter Try.func34, Try.ntmps34
    go_upto_region 1 with fail
    rw [HW.out]
    go_wp2_with (refine lmr (b := w.heap.size) (q := 3) (cs := q.frm.cells) (.tmp 30) rfl rfl Try.underlying67 rfl (info_fp q.ok) rfl ?_ ?_; (· exact HX.out.frm))
    refine (CF.out _).mono ?_; rintro e w2 ⟨rfl, hb2⟩
    have HX2 := Lib.hid (HX.out.next hb2); have d38 := HX2.out.c38; have d41 := HX2.out.c41; clear hb2 c0 c1 c38 c41
    go_wp2
    go_ret
    exact ⟨ret_bool HC.out.symm, HX2.out.up⟩
  obtain ⟨x, hx⟩ : ∃ b, (q.mode == 1) = b := ⟨_, rfl⟩
  obtain ⟨y, hy⟩ : ∃ b, decide ((0 : Int) < (q.gn : Int)) = b := ⟨_, rfl⟩
  have HY := Lib.hid (show decide (0 < q.gn) = y by rw [← hy]; simp)
  have HC : Hid (mayP q = (x == y)) := Lib.hid (by rw [HM.out]; unfold liveP; simp only [k0, k1, k2, k3, hx, hy]; rfl)
  have CF0 := fun W => c_ffine q.ok W
  rw [k3] at CF0
  have CF := Lib.hid CF0
  clear CF0
  go_enter Try.func34, Try.ntmps34
  go_upto_region 1 with fail
  rw [HW.out]
  go_wp2_with (refine lmr (b := w.heap.size) (q := 3) (cs := q.frm.cells) (.tmp 30) rfl rfl Try.underlying67 rfl (info_fp q.ok) rfl ?_ ?_; (· exact HX.out.frm))
  refine (CF.out _).mono ?_; rintro e w2 ⟨rfl, hb2⟩
  have HX2 := Lib.hid (HX.out.next hb2); have d38 := HX2.out.c38; have d41 := HX2.out.c41; clear hb2 c0 c1 c38 c41
  go_wp2
  go_ret
  exact ⟨ret_bool (by rw [HC.out, HY.out]), HX2.out.up⟩
end Go.Proofs.Ytflpjpdgacjlcaa
