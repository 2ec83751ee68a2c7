/- Package channel: Fine. -/
import Derived.Test.YtnmjjemkaamcfaaJc
import Derived.BigQuiet
import Derived.Deep.QuietTactic
namespace Go.Proofs.Ytnmjjemkaamcfaa
open Go.RowKit

/-- A channel's lists are short. -/
structure ChFew (M : SM) : Prop where
  v : M.V.n ≤ 1000
  w_ : M.W.n ≤ 1000
  s : M.S.n ≤ 1000
  g : M.G.n ≤ 1000
theorem ChFew.of {w : World} {pl : Nat → Prop} {C : CP} {M : SM} (h : ChW w pl C M) (k : C.V.length ≤ 1000 ∧ C.W.length ≤ 1000 ∧ C.S.length ≤ 1000 ∧ C.G.length ≤ 1000) : ChFew M :=
  ⟨by have := h.v.len; omega, by have := h.w_.len; omega, by have := h.s.len; omega, by have := h.g.len; omega⟩
theorem ChFew.nil : ChFew SM.nil := by constructor <;> show (0 : Nat) ≤ 1000 <;> omega
theorem bx1_ch (w : World) (C : CP) (M : SM) : Bx1 w (w.alloc (.cells (chC C M).toArray 73)) (chC C M) 73 := bx1 w _ _
set_option maxRecDepth 100000 in
set_option maxHeartbeats 4000000 in
theorem c_chfine {w : World} {pl : Nat → Prop} {C : CP} {M : SM} (h : ChW w pl C M) (hn : ChFew M) :
    Calls Try.prog 25 #[.agg (chC C M).toArray] w fun e w' => e = .returned (.bool (chFine C)) ∧ Below w.heap.size w w' := by
  have hX := bx1_ch w C M
  generalize hw1 : w.alloc (.cells (chC C M).toArray 73) = w1 at hX
  have HW := Lib.hid hw1
  have HX := Lib.hid hX
  clear hw1 hX
  have CK := Lib.hid (fun W => c_chk C.k C.r C.i C.o W)
  have CZ := Lib.hid (fun W => c_pzfine C.lv W)
  have CV := Lib.hid (fun W (hW : Below w.heap.size w W) => c_chwords (h.v.below hW) (by have := hn.v; omega))
  have CT := Lib.hid (fun W (hW : Below w.heap.size w W) => c_chwords (h.s.below hW) (by have := hn.s; omega))
  have CS := Lib.hid (fun W => c_chms C.k W)
  have CG := Lib.hid (fun W => c_chmg C.k W)
  have CW := Lib.hid (fun W (hW : Below w.heap.size w W) => c_lnfine (h.w_.below hW) (by have := hn.w_; omega) C.os)
  have CI := Lib.hid (fun W (hW : Below w.heap.size w W) => c_lnfine (h.g.below hW) (by have := hn.g; omega) C.is)
  have HE := Lib.hid (show chFine C = ((ccE C.k C.r C.i C.o == 0) && (pzFine C.lv && (decide ((C.V.length : Int) ≤ C.r) && (wordsL C.V && (((C.S.length : Int) == (C.W.length : Int)) && (wordsL C.S && ((C.os == chOs C.k) && (lnFine C.os C.W && ((C.is == chIs C.k) && lnFine C.is C.G))))))))) from rfl)
  rw [h.v.len, h.w_.len, h.s.len] at HE
  generalize chFine C = q at HE ⊢
  generalize ccE C.k C.r C.i C.o = x0 at CK HE
  generalize pzFine C.lv = q1 at CZ HE
  generalize wordsL C.V = q3 at CV HE
  generalize wordsL C.S = q5 at CT HE
  generalize chOs C.k = x6 at CS HE
  generalize lnFine C.os C.W = q7 at CW HE
  generalize chIs C.k = x8 at CG HE
  generalize lnFine C.is C.G = q9 at CI HE
  obtain ⟨q0, hq0⟩ : ∃ q, (x0 == 0) = q := ⟨_, rfl⟩
  obtain ⟨q2, hq2⟩ : ∃ q, decide ((M.V.n : Int) ≤ C.r) = q := ⟨_, rfl⟩
  obtain ⟨q4, hq4⟩ : ∃ q, ((M.S.n : Int) == (M.W.n : Int)) = q := ⟨_, rfl⟩
  obtain ⟨q6, hq6⟩ : ∃ q, (C.os == x6) = q := ⟨_, rfl⟩
  obtain ⟨q8, hq8⟩ : ∃ q, (C.is == x8) = q := ⟨_, rfl⟩
  rw [hq0, hq2, hq4, hq6, hq8] at HE
  clear h hn
  have gK := grown_call (w := w1) fun W _ => CK.out W
  have gZ := grown_call (w := w1) fun W _ => same_below (CZ.out W)
  have gV := grown_call (w := w1) fun W hW => same_below (CV.out W (up_trans HX.out.up hW))
  have gT := grown_call (w := w1) fun W hW => same_below (CT.out W (up_trans HX.out.up hW))
  have gS := grown_call (w := w1) fun W _ => same_below (CS.out W)
  have gG := grown_call (w := w1) fun W _ => same_below (CG.out W)
  have gW := grown_call (w := w1) fun W hW => CW.out W (up_trans HX.out.up hW)
  have gI := grown_call (w := w1) fun W hW => CI.out W (up_trans HX.out.up hW)
  clear CK CZ CV CT CS CG CW CI
  have c0 := cell_regrown (HX.out.box.cell 0 _ rfl)
  have c1 := cell_regrown (HX.out.box.cell 1 _ rfl)
  have c2 := cell_regrown (HX.out.box.cell 2 _ rfl)
  have c3 := cell_regrown (HX.out.box.cell 3 _ rfl)
  have c4 := cell_regrown (HX.out.box.cell 4 _ rfl)
  have c5 := cell_regrown (HX.out.box.cell 5 _ rfl)
  have c6 := cell_regrown (HX.out.box.cell 6 _ rfl)
  have c7 := cell_regrown (HX.out.box.cell 7 _ rfl)
  have c8 := cell_regrown (HX.out.box.cell 8 _ rfl)
  have c9 := cell_regrown (HX.out.box.cell 9 _ rfl)
  have c10 := cell_regrown (HX.out.box.cell 10 _ rfl)
  cases q0
  · go_enter Try.func25, Try.ntmps25
    go_wp2_with fail
    rw [HW.out]
    refine wp_region_quiet_below (by kernel_rfl) (by kernel_rfl) ?_
    simp only [List.append_eq, List.cons_append, List.nil_append]
    repeat (go_big_quiet_step (first | (go_at_call 47; with_reducible exact gK _ _) | (go_at_call 48; with_reducible exact gZ _ _) | (go_at_call 49; with_reducible exact gV _ _) | (go_at_call 49; with_reducible exact gT _ _) | (go_at_call 50; with_reducible exact gS _ _) | (go_at_call 51; with_reducible exact gW _ _) | (go_at_call 52; with_reducible exact gG _ _) | (go_at_call 51; with_reducible exact gI _ _)))
    refine wpQuiet_nil ?_
    intro _ hw'
    obtain ⟨⟨dq, osq⟩, hw''⟩ := hw'
    subst hw''
    go_wp2
    go_ret
    exact ⟨ret_bool HE.out.symm, up_trans HX.out.up (below_regrown _ dq osq)⟩
  cases q1
  · go_enter Try.func25, Try.ntmps25
    go_wp2_with fail
    rw [HW.out]
    refine wp_region_quiet_below (by kernel_rfl) (by kernel_rfl) ?_
    simp only [List.append_eq, List.cons_append, List.nil_append]
    repeat (go_big_quiet_step (first | (go_at_call 47; with_reducible exact gK _ _) | (go_at_call 48; with_reducible exact gZ _ _) | (go_at_call 49; with_reducible exact gV _ _) | (go_at_call 49; with_reducible exact gT _ _) | (go_at_call 50; with_reducible exact gS _ _) | (go_at_call 51; with_reducible exact gW _ _) | (go_at_call 52; with_reducible exact gG _ _) | (go_at_call 51; with_reducible exact gI _ _)))
    refine wpQuiet_nil ?_
    intro _ hw'
    obtain ⟨⟨dq, osq⟩, hw''⟩ := hw'
    subst hw''
    go_wp2
    go_ret
    exact ⟨ret_bool HE.out.symm, up_trans HX.out.up (below_regrown _ dq osq)⟩
  cases q2
  · go_enter Try.func25, Try.ntmps25
    go_wp2_with fail
    rw [HW.out]
    refine wp_region_quiet_below (by kernel_rfl) (by kernel_rfl) ?_
    simp only [List.append_eq, List.cons_append, List.nil_append]
    repeat (go_big_quiet_step (first | (go_at_call 47; with_reducible exact gK _ _) | (go_at_call 48; with_reducible exact gZ _ _) | (go_at_call 49; with_reducible exact gV _ _) | (go_at_call 49; with_reducible exact gT _ _) | (go_at_call 50; with_reducible exact gS _ _) | (go_at_call 51; with_reducible exact gW _ _) | (go_at_call 52; with_reducible exact gG _ _) | (go_at_call 51; with_reducible exact gI _ _)))
    refine wpQuiet_nil ?_
    intro _ hw'
    obtain ⟨⟨dq, osq⟩, hw''⟩ := hw'
    subst hw''
    go_wp2
    go_ret
    exact ⟨ret_bool HE.out.symm, up_trans HX.out.up (below_regrown _ dq osq)⟩
  cases q3
  · go_enter Try.func25, Try.ntmps25
    go_wp2_with fail
    rw [HW.out]
    refine wp_region_quiet_below (by kernel_rfl) (by kernel_rfl) ?_
    simp only [List.append_eq, List.cons_append, List.nil_append]
    repeat (go_big_quiet_step (first | (go_at_call 47; with_reducible exact gK _ _) | (go_at_call 48; with_reducible exact gZ _ _) | (go_at_call 49; with_reducible exact gV _ _) | (go_at_call 49; with_reducible exact gT _ _) | (go_at_call 50; with_reducible exact gS _ _) | (go_at_call 51; with_reducible exact gW _ _) | (go_at_call 52; with_reducible exact gG _ _) | (go_at_call 51; with_reducible exact gI _ _)))
    refine wpQuiet_nil ?_
    intro _ hw'
    obtain ⟨⟨dq, osq⟩, hw''⟩ := hw'
    subst hw''
    go_wp2
    go_ret
    exact ⟨ret_bool HE.out.symm, up_trans HX.out.up (below_regrown _ dq osq)⟩
  cases q4
  · go_enter Try.func25, Try.ntmps25
    go_wp2_with fail
    rw [HW.out]
    refine wp_region_quiet_below (by kernel_rfl) (by kernel_rfl) ?_
    simp only [List.append_eq, List.cons_append, List.nil_append]
    repeat (go_big_quiet_step (first | (go_at_call 47; with_reducible exact gK _ _) | (go_at_call 48; with_reducible exact gZ _ _) | (go_at_call 49; with_reducible exact gV _ _) | (go_at_call 49; with_reducible exact gT _ _) | (go_at_call 50; with_reducible exact gS _ _) | (go_at_call 51; with_reducible exact gW _ _) | (go_at_call 52; with_reducible exact gG _ _) | (go_at_call 51; with_reducible exact gI _ _)))
    refine wpQuiet_nil ?_
    intro _ hw'
    obtain ⟨⟨dq, osq⟩, hw''⟩ := hw'
    subst hw''
    go_wp2
    go_ret
    exact ⟨ret_bool HE.out.symm, up_trans HX.out.up (below_regrown _ dq osq)⟩
  cases q5
  · go_enter Try.func25, Try.ntmps25
    go_wp2_with fail
    rw [HW.out]
    refine wp_region_quiet_below (by kernel_rfl) (by kernel_rfl) ?_
    simp only [List.append_eq, List.cons_append, List.nil_append]
    repeat (go_big_quiet_step (first | (go_at_call 47; with_reducible exact gK _ _) | (go_at_call 48; with_reducible exact gZ _ _) | (go_at_call 49; with_reducible exact gV _ _) | (go_at_call 49; with_reducible exact gT _ _) | (go_at_call 50; with_reducible exact gS _ _) | (go_at_call 51; with_reducible exact gW _ _) | (go_at_call 52; with_reducible exact gG _ _) | (go_at_call 51; with_reducible exact gI _ _)))
    refine wpQuiet_nil ?_
    intro _ hw'
    obtain ⟨⟨dq, osq⟩, hw''⟩ := hw'
    subst hw''
    go_wp2
    go_ret
    exact ⟨ret_bool HE.out.symm, up_trans HX.out.up (below_regrown _ dq osq)⟩
  cases q6
  · go_enter Try.func25, Try.ntmps25
    go_wp2_with fail
    rw [HW.out]
    refine wp_region_quiet_below (by kernel_rfl) (by kernel_rfl) ?_
    simp only [List.append_eq, List.cons_append, List.nil_append]
    repeat (go_big_quiet_step (first | (go_at_call 47; with_reducible exact gK _ _) | (go_at_call 48; with_reducible exact gZ _ _) | (go_at_call 49; with_reducible exact gV _ _) | (go_at_call 49; with_reducible exact gT _ _) | (go_at_call 50; with_reducible exact gS _ _) | (go_at_call 51; with_reducible exact gW _ _) | (go_at_call 52; with_reducible exact gG _ _) | (go_at_call 51; with_reducible exact gI _ _)))
    refine wpQuiet_nil ?_
    intro _ hw'
    obtain ⟨⟨dq, osq⟩, hw''⟩ := hw'
    subst hw''
    go_wp2
    go_ret
    exact ⟨ret_bool HE.out.symm, up_trans HX.out.up (below_regrown _ dq osq)⟩
  cases q7
  · go_enter Try.func25, Try.ntmps25
    go_wp2_with fail
    rw [HW.out]
    refine wp_region_quiet_below (by kernel_rfl) (by kernel_rfl) ?_
    simp only [List.append_eq, List.cons_append, List.nil_append]
    repeat (go_big_quiet_step (first | (go_at_call 47; with_reducible exact gK _ _) | (go_at_call 48; with_reducible exact gZ _ _) | (go_at_call 49; with_reducible exact gV _ _) | (go_at_call 49; with_reducible exact gT _ _) | (go_at_call 50; with_reducible exact gS _ _) | (go_at_call 51; with_reducible exact gW _ _) | (go_at_call 52; with_reducible exact gG _ _) | (go_at_call 51; with_reducible exact gI _ _)))
    refine wpQuiet_nil ?_
    intro _ hw'
    obtain ⟨⟨dq, osq⟩, hw''⟩ := hw'
    subst hw''
    go_wp2
    go_ret
    exact ⟨ret_bool HE.out.symm, up_trans HX.out.up (below_regrown _ dq osq)⟩
  cases q8
  · go_enter Try.func25, Try.ntmps25
    go_wp2_with fail
    rw [HW.out]
    refine wp_region_quiet_below (by kernel_rfl) (by kernel_rfl) ?_
    simp only [List.append_eq, List.cons_append, List.nil_append]
    repeat (go_big_quiet_step (first | (go_at_call 47; with_reducible exact gK _ _) | (go_at_call 48; with_reducible exact gZ _ _) | (go_at_call 49; with_reducible exact gV _ _) | (go_at_call 49; with_reducible exact gT _ _) | (go_at_call 50; with_reducible exact gS _ _) | (go_at_call 51; with_reducible exact gW _ _) | (go_at_call 52; with_reducible exact gG _ _) | (go_at_call 51; with_reducible exact gI _ _)))
    refine wpQuiet_nil ?_
    intro _ hw'
    obtain ⟨⟨dq, osq⟩, hw''⟩ := hw'
    subst hw''
    go_wp2
    go_ret
    exact ⟨ret_bool HE.out.symm, up_trans HX.out.up (below_regrown _ dq osq)⟩
  go_enter Try.func25, Try.ntmps25
  go_wp2_with fail
  rw [HW.out]
  refine wp_region_quiet_below (by kernel_rfl) (by kernel_rfl) ?_
  simp only [List.append_eq, List.cons_append, List.nil_append]
  repeat (go_big_quiet_step (first | (go_at_call 47; with_reducible exact gK _ _) | (go_at_call 48; with_reducible exact gZ _ _) | (go_at_call 49; with_reducible exact gV _ _) | (go_at_call 49; with_reducible exact gT _ _) | (go_at_call 50; with_reducible exact gS _ _) | (go_at_call 51; with_reducible exact gW _ _) | (go_at_call 52; with_reducible exact gG _ _) | (go_at_call 51; with_reducible exact gI _ _)))
  refine wpQuiet_nil ?_
  intro _ hw'
  obtain ⟨⟨dq, osq⟩, hw''⟩ := hw'
  subst hw''
  go_wp2
  go_ret
  exact ⟨ret_bool HE.out.symm, up_trans HX.out.up (below_regrown _ dq osq)⟩
end Go.Proofs.Ytnmjjemkaamcfaa
