/- Package proc: empty, may. -/
import Derived.Test.YtflpjpdgacjlcaaPrb
namespace Go.Proofs.Ytflpjpdgacjlcaa
open Go.RowKit

/-- The box of a process, as a world; its cells. -/
structure PX (w w1 : World) (q : PR) (t : TypeId) : Prop where
  up : Below w.heap.size w w1
  box : Blk w1 w.heap.size (prC q) t
theorem px (w : World) (q : PR) (t : TypeId) : PX w (w.alloc (.cells (prC q).toArray t)) q t := ⟨up_alloc _ _, Blk.new w _ t⟩
theorem PX.next {w w1 w2 : World} {q : PR} {t : TypeId} (h : PX w w1 q t) (hb : Below w1.heap.size w1 w2) : PX w w2 q t := ⟨up_trans h.up hb, h.box.up hb h.box.lt⟩
theorem PX.c0 {w w1 : World} {q : PR} {t : TypeId} (h : PX w w1 q t) : w1.cell? ⟨w.heap.size, 0, none⟩ = some (.int .i64 q.gen) := h.box.cell 0 _ (prC_0 q)
theorem PX.c1 {w w1 : World} {q : PR} {t : TypeId} (h : PX w w1 q t) : w1.cell? ⟨w.heap.size, 1, none⟩ = some (.bool q.live) := h.box.cell 1 _ (prC_1 q)
theorem PX.c2 {w w1 : World} {q : PR} {t : TypeId} (h : PX w w1 q t) : w1.cell? ⟨w.heap.size, 2, none⟩ = some (.int .i64 q.prog) := h.box.cell 2 _ (prC_2 q)
theorem PX.c38 {w w1 : World} {q : PR} {t : TypeId} (h : PX w w1 q t) : w1.cell? ⟨w.heap.size, 38, none⟩ = some (.int .i64 q.mode) := h.box.cell 38 _ (prC_38 q)
theorem PX.c39 {w w1 : World} {q : PR} {t : TypeId} (h : PX w w1 q t) : w1.cell? ⟨w.heap.size, 39, none⟩ = some (.int .i64 q.how) := h.box.cell 39 _ (prC_39 q)
theorem PX.c40 {w w1 : World} {q : PR} {t : TypeId} (h : PX w w1 q t) : w1.cell? ⟨w.heap.size, 40, none⟩ = some (.int .i64 q.turn) := h.box.cell 40 _ (prC_40 q)
theorem PX.c41 {w w1 : World} {q : PR} {t : TypeId} (h : PX w w1 q t) : w1.cell? ⟨w.heap.size, 41, none⟩ = some (.slice q.gA q.gn q.gc) := h.box.cell 41 _ (prC_41 q)
theorem PX.frm {w w1 : World} {q : PR} {t : TypeId} (h : PX w w1 q t) : w1.rangeAt w.heap.size 3 q.frm.cells := h.box.part 3 35 (prC_frm q)

set_option maxRecDepth 100000 in
set_option maxHeartbeats 4000000 in
theorem c_prempty (q : PR) (w : World) : Calls Try.prog 52 #[.agg (prC q).toArray] w fun e w' => e = .returned (.bool (emptyP q)) ∧ Below w.heap.size w w' := by
  have hX := px w q 69
  generalize hw1 : w.alloc (.cells (prC q).toArray 69) = w1 at hX
  have HW := Lib.hid hw1
  have HX := Lib.hid hX
  have c2 := hX.c2
  have c38 := hX.c38
  have c39 := hX.c39
  have c40 := hX.c40
  have c41 := hX.c41
  clear hw1 hX
  cases h0 : (q.prog == 0)
  · skip
    have HC : Hid (emptyP q = false) := Lib.hid (by unfold emptyP; simp only [h0]; rfl)
    go_enter Try.func52, Try.ntmps52
    go_upto_region 1 with fail
    rw [HW.out]
    go_wp2
    go_ret
    exact ⟨ret_bool HC.out.symm, HX.out.up⟩
  cases h1 : (frEq q.frm FR.zero)
  · skip
    have HC : Hid (emptyP q = false) := Lib.hid (by unfold emptyP; simp only [h0, h1]; rfl)
    go_enter Try.func52, Try.ntmps52
    go_upto_region 1 with fail
    rw [HW.out]
    go_wp2_with (first | (refine lmr (cs := q.frm.cells) (.tmp 7) rfl rfl Try.underlying67 rfl (info_fp q.ok) rfl ?_ ?_; (· exact HX.out.frm)) | (refine bdw (T := 67) _ FR.zero.cells.toArray rfl rfl built_fz ?_) | (refine eqFr (r := false) (.tmp 8) (.tmp 9) _ rfl rfl rfl rfl ft_prog q.ok FR.zero_ok h1 ?_))
    go_ret
    exact ⟨ret_bool HC.out.symm, HX.out.up⟩
  cases h2 : (q.mode == 0)
  · skip
    have HC : Hid (emptyP q = false) := Lib.hid (by unfold emptyP; simp only [h0, h1, h2]; rfl)
    go_enter Try.func52, Try.ntmps52
    go_upto_region 1 with fail
    rw [HW.out]
    go_wp2_with (first | (refine lmr (cs := q.frm.cells) (.tmp 7) rfl rfl Try.underlying67 rfl (info_fp q.ok) rfl ?_ ?_; (· exact HX.out.frm)) | (refine bdw (T := 67) _ FR.zero.cells.toArray rfl rfl built_fz ?_) | (refine eqFr (r := true) (.tmp 8) (.tmp 9) _ rfl rfl rfl rfl ft_prog q.ok FR.zero_ok h1 ?_))
    go_ret
    exact ⟨ret_bool HC.out.symm, HX.out.up⟩
  cases h3 : (q.how == 0)
  · skip
    have HC : Hid (emptyP q = false) := Lib.hid (by unfold emptyP; simp only [h0, h1, h2, h3]; rfl)
    go_enter Try.func52, Try.ntmps52
    go_upto_region 1 with fail
    rw [HW.out]
    go_wp2_with (first | (refine lmr (cs := q.frm.cells) (.tmp 7) rfl rfl Try.underlying67 rfl (info_fp q.ok) rfl ?_ ?_; (· exact HX.out.frm)) | (refine bdw (T := 67) _ FR.zero.cells.toArray rfl rfl built_fz ?_) | (refine eqFr (r := true) (.tmp 8) (.tmp 9) _ rfl rfl rfl rfl ft_prog q.ok FR.zero_ok h1 ?_))
    go_ret
    exact ⟨ret_bool HC.out.symm, HX.out.up⟩
  cases h4 : (q.turn == 0)
  · skip
    have HC : Hid (emptyP q = false) := Lib.hid (by unfold emptyP; simp only [h0, h1, h2, h3, h4]; rfl)
    go_enter Try.func52, Try.ntmps52
    go_upto_region 1 with fail
    rw [HW.out]
    go_wp2_with (first | (refine lmr (cs := q.frm.cells) (.tmp 7) rfl rfl Try.underlying67 rfl (info_fp q.ok) rfl ?_ ?_; (· exact HX.out.frm)) | (refine bdw (T := 67) _ FR.zero.cells.toArray rfl rfl built_fz ?_) | (refine eqFr (r := true) (.tmp 8) (.tmp 9) _ rfl rfl rfl rfl ft_prog q.ok FR.zero_ok h1 ?_))
    go_ret
    exact ⟨ret_bool HC.out.symm, HX.out.up⟩
  cases h5 : ((q.gn : Int) == 0)
  · skip
    have HC : Hid (emptyP q = false) := Lib.hid (by unfold emptyP; simp only [h0, h1, h2, h3, h4, h5]; rfl)
    go_enter Try.func52, Try.ntmps52
    go_upto_region 1 with fail
    rw [HW.out]
    go_wp2_with (first | (refine lmr (cs := q.frm.cells) (.tmp 7) rfl rfl Try.underlying67 rfl (info_fp q.ok) rfl ?_ ?_; (· exact HX.out.frm)) | (refine bdw (T := 67) _ FR.zero.cells.toArray rfl rfl built_fz ?_) | (refine eqFr (r := true) (.tmp 8) (.tmp 9) _ rfl rfl rfl rfl ft_prog q.ok FR.zero_ok h1 ?_))
    go_ret
    exact ⟨ret_bool HC.out.symm, HX.out.up⟩
  have HC : Hid (emptyP q = true) := Lib.hid (by unfold emptyP; simp only [h0, h1, h2, h3, h4, h5]; rfl)
  go_enter Try.func52, Try.ntmps52
  go_upto_region 1 with fail
  rw [HW.out]
  go_wp2_with (first | (refine lmr (cs := q.frm.cells) (.tmp 7) rfl rfl Try.underlying67 rfl (info_fp q.ok) rfl ?_ ?_; (· exact HX.out.frm)) | (refine bdw (T := 67) _ FR.zero.cells.toArray rfl rfl built_fz ?_) | (refine eqFr (r := true) (.tmp 8) (.tmp 9) _ rfl rfl rfl rfl ft_prog q.ok FR.zero_ok h1 ?_))
  go_ret
  exact ⟨ret_bool HC.out.symm, HX.out.up⟩
end Go.Proofs.Ytflpjpdgacjlcaa
