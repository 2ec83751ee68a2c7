/- The document's SameProc: of a process and a free place's, and of a process twice. -/
import Derived.Test.YtflpjpdgacjlcaaPsa
import Derived.Test.YtflpjpdgacjlcaaPrb
namespace Go.Proofs.Ytflpjpdgacjlcaa
open Go.RowKit

/-- Two boxes. -/
structure PX2 (w w1 : World) (q r : PR) (t : TypeId) : Prop where
  up : Below w.heap.size w w1
  a : Blk w1 w.heap.size (prC q) t
  b : Blk w1 (w.heap.size + 1) (prC r) t
theorem px2 (w : World) (q r : PR) (t : TypeId) : PX2 w ((w.alloc (.cells (prC q).toArray t)).alloc (.cells (prC r).toArray t)) q r t := by
  refine ⟨up_trans (up_alloc _ _) (up_alloc _ _), (Blk.new w _ t).alloc _, ?_⟩
  have := Blk.new (w.alloc (.cells (prC q).toArray t)) (prC r) t
  rwa [show (w.alloc (.cells (prC q).toArray t)).heap.size = w.heap.size + 1 by simp] at this
set_option maxRecDepth 100000 in
set_option maxHeartbeats 8000000 in
theorem c_same0 (q : PR) (hl : q.live = false) (w : World) : Calls Try.prog 35 #[.agg (prC q).toArray, .agg (prC (PR.nil q.gen)).toArray] w fun e w' => e = .returned (.bool (emptyP q)) ∧ Below w.heap.size w w' := by
  have hX := px2 w q (PR.nil q.gen) 66
  generalize hrr : PR.nil q.gen = r at hX
  obtain ⟨r0, r1, r2, r3, r4, r5, r6, r7, r8⟩ : r.gen = q.gen ∧ r.live = false ∧ r.prog = 0 ∧ r.frm = FR.zero ∧ r.mode = 0 ∧ r.how = 0 ∧ r.turn = 0 ∧ (Value.slice r.gA r.gn r.gc = .slice none 0 0) ∧ True := by subst hrr; exact ⟨rfl, rfl, rfl, rfl, rfl, rfl, rfl, rfl, trivial⟩
  generalize hw1 : (w.alloc (.cells (prC q).toArray 66)).alloc (.cells (prC r).toArray 66) = w1 at hX
  have HW := Lib.hid hw1
  have HX := Lib.hid hX
  have a0 := hX.a.cell 0 _ (prC_0 _)
  have a1 := hX.a.cell 1 _ (prC_1 _)
  have a2 := hX.a.cell 2 _ (prC_2 _)
  have a38 := hX.a.cell 38 _ (prC_38 _)
  have a39 := hX.a.cell 39 _ (prC_39 _)
  have a40 := hX.a.cell 40 _ (prC_40 _)
  have a41 := hX.a.cell 41 _ (prC_41 _)
  have b0 := hX.b.cell 0 _ (prC_0 _)
  have b1 := hX.b.cell 1 _ (prC_1 _)
  have b2 := hX.b.cell 2 _ (prC_2 _)
  have b38 := hX.b.cell 38 _ (prC_38 _)
  have b39 := hX.b.cell 39 _ (prC_39 _)
  have b40 := hX.b.cell 40 _ (prC_40 _)
  have b41 := hX.b.cell 41 _ (prC_41 _)
  have HFA := Lib.hid (hX.a.part 3 35 (prC_frm q))
  have HFB := Lib.hid (hX.b.part 3 35 (prC_frm r))
  rw [hl] at a1
  rw [r0] at b0
  rw [r1] at b1
  rw [r2] at b2
  rw [r3] at HFB
  rw [r4] at b38
  rw [r5] at b39
  rw [r6] at b40
  rw [r7] at b41
  have g0 : (q.gen == q.gen) = true := beq_self_eq_true _
  clear hw1 hX r0 r1 r2 r3 r4 r5 r6 r7 r8 hrr
  cases h0 : (q.prog == 0)
  · skip
    have HC : Hid (emptyP q = false) := Lib.hid (by unfold emptyP; simp only [h0]; rfl)
    go_enter Try.func35, Try.ntmps35
    go_upto_region 1 with fail
    rw [HW.out]
    go_wp2
    go_ret
    exact ⟨ret_bool HC.out.symm, HX.out.up⟩
  cases h1 : (frEq q.frm FR.zero)
  · skip
    have HC : Hid (emptyP q = false) := Lib.hid (by unfold emptyP; simp only [h0, h1]; rfl)
    go_enter Try.func35, Try.ntmps35
    go_upto_region 1 with fail
    rw [HW.out]
    go_wp2_with (first | (refine lmr (b := w.heap.size) (q := 3) (cs := q.frm.cells) (.tmp 25) rfl rfl Try.underlying63 rfl (info_fr q.ok) rfl ?_ ?_; (· exact HFA.out)) | (refine lmr (b := w.heap.size + 1) (q := 3) (cs := FR.zero.cells) (.tmp 27) rfl rfl Try.underlying63 rfl (info_fr FR.zero_ok) rfl ?_ ?_; (· exact HFB.out)) | (refine eqFr (r := false) (.tmp 26) (.tmp 28) _ rfl rfl rfl rfl ft_ref q.ok FR.zero_ok h1 ?_; go_wp2; go_ret; exact ⟨ret_bool HC.out.symm, HX.out.up⟩))
  cases h2 : (q.mode == 0)
  · skip
    have HC : Hid (emptyP q = false) := Lib.hid (by unfold emptyP; simp only [h0, h1, h2]; rfl)
    go_enter Try.func35, Try.ntmps35
    go_upto_region 1 with fail
    rw [HW.out]
    go_wp2_with (first | (refine lmr (b := w.heap.size) (q := 3) (cs := q.frm.cells) (.tmp 25) rfl rfl Try.underlying63 rfl (info_fr q.ok) rfl ?_ ?_; (· exact HFA.out)) | (refine lmr (b := w.heap.size + 1) (q := 3) (cs := FR.zero.cells) (.tmp 27) rfl rfl Try.underlying63 rfl (info_fr FR.zero_ok) rfl ?_ ?_; (· exact HFB.out)) | (refine eqFr (r := true) (.tmp 26) (.tmp 28) _ rfl rfl rfl rfl ft_ref q.ok FR.zero_ok h1 ?_; go_wp2; go_ret; exact ⟨ret_bool HC.out.symm, HX.out.up⟩))
  cases h3 : (q.how == 0)
  · skip
    have HC : Hid (emptyP q = false) := Lib.hid (by unfold emptyP; simp only [h0, h1, h2, h3]; rfl)
    go_enter Try.func35, Try.ntmps35
    go_upto_region 1 with fail
    rw [HW.out]
    go_wp2_with (first | (refine lmr (b := w.heap.size) (q := 3) (cs := q.frm.cells) (.tmp 25) rfl rfl Try.underlying63 rfl (info_fr q.ok) rfl ?_ ?_; (· exact HFA.out)) | (refine lmr (b := w.heap.size + 1) (q := 3) (cs := FR.zero.cells) (.tmp 27) rfl rfl Try.underlying63 rfl (info_fr FR.zero_ok) rfl ?_ ?_; (· exact HFB.out)) | (refine eqFr (r := true) (.tmp 26) (.tmp 28) _ rfl rfl rfl rfl ft_ref q.ok FR.zero_ok h1 ?_; go_wp2; go_ret; exact ⟨ret_bool HC.out.symm, HX.out.up⟩))
  cases h4 : (q.turn == 0)
  · skip
    have HC : Hid (emptyP q = false) := Lib.hid (by unfold emptyP; simp only [h0, h1, h2, h3, h4]; rfl)
    go_enter Try.func35, Try.ntmps35
    go_upto_region 1 with fail
    rw [HW.out]
    go_wp2_with (first | (refine lmr (b := w.heap.size) (q := 3) (cs := q.frm.cells) (.tmp 25) rfl rfl Try.underlying63 rfl (info_fr q.ok) rfl ?_ ?_; (· exact HFA.out)) | (refine lmr (b := w.heap.size + 1) (q := 3) (cs := FR.zero.cells) (.tmp 27) rfl rfl Try.underlying63 rfl (info_fr FR.zero_ok) rfl ?_ ?_; (· exact HFB.out)) | (refine eqFr (r := true) (.tmp 26) (.tmp 28) _ rfl rfl rfl rfl ft_ref q.ok FR.zero_ok h1 ?_; go_wp2; go_ret; exact ⟨ret_bool HC.out.symm, HX.out.up⟩))
  have HC : Hid (emptyP q = ((q.gn : Int) == 0)) := Lib.hid (by unfold emptyP; simp only [h0, h1, h2, h3, h4]; rfl)
  have CS := Lib.hid (fun W => c_sg0 q.gA q.gn q.gc W)
  generalize ((q.gn : Int) == 0) = y at HC CS
  go_enter Try.func35, Try.ntmps35
  go_upto_region 1 with fail
  rw [HW.out]
  go_wp2_with (first | (refine lmr (b := w.heap.size) (q := 3) (cs := q.frm.cells) (.tmp 25) rfl rfl Try.underlying63 rfl (info_fr q.ok) rfl ?_ ?_; (· exact HFA.out)) | (refine lmr (b := w.heap.size + 1) (q := 3) (cs := FR.zero.cells) (.tmp 27) rfl rfl Try.underlying63 rfl (info_fr FR.zero_ok) rfl ?_ ?_; (· exact HFB.out)) | (refine eqFr (r := true) (.tmp 26) (.tmp 28) _ rfl rfl rfl rfl ft_ref q.ok FR.zero_ok h1 ?_; go_wp2_with fail; refine (CS.out _).mono ?_; rintro e w2 ⟨rfl, hb2⟩; go_wp2; go_ret; exact ⟨ret_bool HC.out.symm, up_trans HX.out.up hb2⟩))
set_option maxRecDepth 100000 in
set_option maxHeartbeats 8000000 in
theorem c_same1 {w : World} {pl pl' : Nat → Prop} {q : PR} {A : Option Addr} {d : Nat} (hq : prK.E pl q w) (hr : prK.E pl' { q with gA := A, gc := d } w) (hn : q.gn ≤ 1000) : Calls Try.prog 35 #[.agg (prC q).toArray, .agg (prC { q with gA := A, gc := d }).toArray] w fun e w' => e = .returned (.bool true) ∧ Below w.heap.size w w' := by
  have hX := px2 w q { q with gA := A, gc := d } 66
  generalize hrr : ({ q with gA := A, gc := d } : PR) = r at hX hr
  obtain ⟨r0, r1, r2, r3, r4, r5, r6, r7, r8⟩ : r.gen = q.gen ∧ r.live = q.live ∧ r.prog = q.prog ∧ r.frm = q.frm ∧ r.mode = q.mode ∧ r.how = q.how ∧ r.turn = q.turn ∧ (Value.slice r.gA r.gn r.gc = .slice A q.gn d) ∧ (RD w pl' 5 A q.gn (q.gs.flatMap gdC)) := by subst hrr; exact ⟨rfl, rfl, rfl, rfl, rfl, rfl, rfl, rfl, hr.2⟩
  generalize hw1 : (w.alloc (.cells (prC q).toArray 66)).alloc (.cells (prC r).toArray 66) = w1 at hX
  have HW := Lib.hid hw1
  have HX := Lib.hid hX
  have a0 := hX.a.cell 0 _ (prC_0 _)
  have a1 := hX.a.cell 1 _ (prC_1 _)
  have a2 := hX.a.cell 2 _ (prC_2 _)
  have a38 := hX.a.cell 38 _ (prC_38 _)
  have a39 := hX.a.cell 39 _ (prC_39 _)
  have a40 := hX.a.cell 40 _ (prC_40 _)
  have a41 := hX.a.cell 41 _ (prC_41 _)
  have b0 := hX.b.cell 0 _ (prC_0 _)
  have b1 := hX.b.cell 1 _ (prC_1 _)
  have b2 := hX.b.cell 2 _ (prC_2 _)
  have b38 := hX.b.cell 38 _ (prC_38 _)
  have b39 := hX.b.cell 39 _ (prC_39 _)
  have b40 := hX.b.cell 40 _ (prC_40 _)
  have b41 := hX.b.cell 41 _ (prC_41 _)
  have HFA := Lib.hid (hX.a.part 3 35 (prC_frm q))
  have HFB := Lib.hid (hX.b.part 3 35 (prC_frm r))
  rw [r0] at b0
  rw [r1] at b1
  rw [r2] at b2
  rw [r3] at HFB
  rw [r4] at b38
  rw [r5] at b39
  rw [r6] at b40
  rw [r7] at b41
  have g0 : (q.gen == q.gen) = true := beq_self_eq_true _
  have g1 : (q.live == q.live) = true := beq_self_eq_true _
  have g2 : (q.prog == q.prog) = true := beq_self_eq_true _
  have g3 : (q.mode == q.mode) = true := beq_self_eq_true _
  have g4 : (q.how == q.how) = true := beq_self_eq_true _
  have g5 : (q.turn == q.turn) = true := beq_self_eq_true _
  have CS := Lib.hid (fun W (hb : Below w.heap.size w W) => c_sg1 (c := q.gc) (d := d) (hq.2.below hb) (r8.below hb) hq.1 hn)
  clear hw1 hX r0 r1 r2 r3 r4 r5 r6 r7 r8 hrr hr hq
  go_enter Try.func35, Try.ntmps35
  go_upto_region 1 with fail
  rw [HW.out]
  go_wp2_with (first | (refine lmr (b := w.heap.size) (q := 3) (cs := q.frm.cells) (.tmp 25) rfl rfl Try.underlying63 rfl (info_fr q.ok) rfl ?_ ?_; (· exact HFA.out)) | (refine lmr (b := w.heap.size + 1) (q := 3) (cs := q.frm.cells) (.tmp 27) rfl rfl Try.underlying63 rfl (info_fr q.ok) rfl ?_ ?_; (· exact HFB.out)) | (refine eqFr (r := true) (.tmp 26) (.tmp 28) _ rfl rfl rfl rfl ft_ref q.ok q.ok (frEq_refl _) ?_; go_wp2_with fail; refine (CS.out _ HX.out.up).mono ?_; rintro e w2 ⟨rfl, hb2⟩; go_wp2; go_ret; exact ⟨rfl, up_trans HX.out.up hb2⟩))
end Go.Proofs.Ytflpjpdgacjlcaa
