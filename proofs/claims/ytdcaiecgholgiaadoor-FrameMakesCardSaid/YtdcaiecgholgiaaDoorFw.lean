/- The law on new frames, on what may be, and on texts: the program's and the document's are the same. -/
import Derived.Test.YtdcaiecgholgiaaDoorFv
namespace Go.Proofs.YtdcaiecgholgiaaDoor
open Go.RowKit

theorem quiet_same {o : Oper} {a : Act} {C : World → Prop} {K : Act → Prop} {f : FR} (hf : f.Ok) (x y : Operand) (u : TypeId) (ho : o.op = .binOp .eql 25 x y u)
    (hx : a.eval x = .agg f.cells.toArray) (hy : a.eval y = .agg f.cells.toArray) (hk : K (a.put o.dst (.bool true))) : o.quiet Tryd.prog a C K :=
  ⟨_, fun w _ => by
    have hm : Tryd.prog.eqGuardType Tryd.prog.depth 25 = false := by kernel_rfl
    unfold Oper.quietAt execOp
    simp only [ho, hx, hy, Sem.run_bind, run_eqGuard_agg w .eql 25 x y _ _ hm, run_eql_struct, run_eqR hf, Result.andThen_ok, Sem.run_pure]
    exact ⟨rfl, rfl⟩, hk⟩
theorem load_grownR {w2 : World} {b : Nat} {f : FR} (hf : f.Ok) (h : Blk w2 b f.cells 25) : ∀ W, (∃ p : Regrown, W = Sort.grow (redrawn w2 p.d) p.os) → (loadVar 25 ⟨b, 0, none⟩).run Tryd.prog W = .ok (.agg f.cells.toArray) W := by
  rintro W ⟨p, rfl⟩
  exact load_ref hf (h.up (below_regrown _ p.d p.os) h.lt)

set_option maxRecDepth 100000 in
set_option maxHeartbeats 8000000 in
theorem l_makes {f : FR} (hf : f.Ok) (arg : Int) (w : World) (ht : EnvT w) : Calls Tryd.prog 3 #[.int .i64 arg, .agg f.cells.toArray] w fun e w' => e = .returned (.bool true) ∧ Below w.heap.size w w' := by
  have HT := Lib.hid ht
  have N1 := fun W => c_fnew arg W
  have M1 := fun W => c_rnew arg W
  have oa := newF_ok arg
  generalize (newF arg).1 = a at oa N1 M1
  generalize (newF arg).2 = ea at N1 M1
  have eE : (ea == ea) = true := beq_self_eq_true _
  have HN1 := Lib.hid N1
  have HM1 := Lib.hid M1
  have HD0 := Lib.hid (Blk.new w f.cells 25)
  have HQ0 := Lib.hid (up_alloc w (.cells f.cells.toArray 25))
  have F1 := Lib.hid (fun W => c_ffine hf W)
  have F2 := Lib.hid (fun W => c_rfine hf W)
  have F3 := Lib.hid (fun W (h : EnvT W) => c_ftext hf W h)
  have F4 := Lib.hid (fun W => c_rtext hf W)
  obtain ⟨bf, hbf⟩ : ∃ b, fineF f = b := ⟨_, rfl⟩
  obtain ⟨tx, htx⟩ : ∃ t, textF f = t := ⟨_, rfl⟩
  rw [hbf] at F1 F2
  rw [htx] at F3 F4
  have eB : (bf == bf) = true := beq_self_eq_true _
  have eT : (tx == tx) = true := beq_self_eq_true _
  clear ht N1 M1 hbf htx
  go_enter Tryd.func3, Tryd.ntmps3
  go_wp2_with fail
  refine (HN1.out _).mono ?_
  rintro e w1 ⟨rfl, hb1⟩
  have HD1 := Lib.hid (HD0.out.up hb1 HD0.out.lt)
  have HQ1 := Lib.hid (up_trans HQ0.out hb1)
  clear hb1 HD0 HQ0
  go_wp2_with (refine sn_prog rfl oa rfl (.tmp 5) (.tmp 12) rfl rfl rfl ?_)
  refine (HM1.out _).mono ?_
  rintro e w2 ⟨rfl, hb2⟩
  have HD2 := Lib.hid ((HD1.out.alloc _).up hb2 (Nat.lt_of_lt_of_le HD1.out.lt (up_alloc w1 _).size))
  have HA2 := Lib.hid ((Blk.new w1 a.cells 26).up hb2 (by simp))
  have HQ2 := Lib.hid (up_trans HQ1.out (up_trans (up_alloc w1 _) hb2))
  clear hb2 HD1 HQ1
  go_wp2_with (refine sn_ref rfl oa rfl (.tmp 7) (.tmp 17) rfl rfl rfl ?_)
  have HD3 := Lib.hid (HD2.out.alloc (.cells a.cells.toArray 25))
  have HA3 := Lib.hid (HA2.out.alloc (.cells a.cells.toArray 25))
  have HB3 := Lib.hid (Blk.new w2 a.cells 25)
  have HQ3 := Lib.hid (up_trans HQ2.out (up_alloc w2 (.cells a.cells.toArray 25)))
  have G1 := Lib.hid (grown_call (w := w2.alloc (.cells a.cells.toArray 25)) fun W _ => F1.out W)
  have G2 := Lib.hid (grown_call (w := w2.alloc (.cells a.cells.toArray 25)) fun W _ => F2.out W)
  have G3 := Lib.hid (grown_call (w := w2.alloc (.cells a.cells.toArray 25)) fun W hW => F3.out W (HT.out.up (up_trans HQ3.out hW)))
  have G4 := Lib.hid (grown_call (w := w2.alloc (.cells a.cells.toArray 25)) fun W _ => F4.out W)
  have G5 := Lib.hid (grown_call (w := w2.alloc (.cells a.cells.toArray 25)) fun W hW => c_alive W (HT.out.up (up_trans HQ3.out hW)))
  refine wp_region_quiet_below (by kernel_rfl) (by kernel_rfl) ?_
  go_big_quiet_want
  refine quiet_load _ (.tmp 5) w1.heap.size _ rfl rfl (load_grown2 oa HA3.out) ?_
  simp only [Act.put, List.setIfInBounds_toArray, List.set_cons_zero, List.set_cons_succ]
  go_big_quiet_on
  go_big_quiet_want
  refine quiet_load _ (.tmp 7) w2.heap.size _ rfl rfl (load_grownR oa HB3.out) ?_
  simp only [Act.put, List.setIfInBounds_toArray, List.set_cons_zero, List.set_cons_succ]
  go_big_quiet_on
  go_big_quiet_want
  refine quiet_same oa (.tmp 19) (.tmp 20) _ rfl rfl rfl ?_
  simp only [Act.put, List.setIfInBounds_toArray, List.set_cons_zero, List.set_cons_succ]
  go_big_quiet_on
  go_big_quiet_step (first | exact G1.out _ _ | exact G2.out _ _ | exact G3.out _ _ | exact G4.out _ _ | exact G5.out _ _)
  go_big_quiet_step (first | exact G1.out _ _ | exact G2.out _ _ | exact G3.out _ _ | exact G4.out _ _ | exact G5.out _ _)
  go_big_quiet_step (first | exact G1.out _ _ | exact G2.out _ _ | exact G3.out _ _ | exact G4.out _ _ | exact G5.out _ _)
  go_big_quiet_step (first | exact G1.out _ _ | exact G2.out _ _ | exact G3.out _ _ | exact G4.out _ _ | exact G5.out _ _)
  go_big_quiet_step (first | exact G1.out _ _ | exact G2.out _ _ | exact G3.out _ _ | exact G4.out _ _ | exact G5.out _ _)
  go_big_quiet_step (first | exact G1.out _ _ | exact G2.out _ _ | exact G3.out _ _ | exact G4.out _ _ | exact G5.out _ _)
  go_big_quiet_want
  refine quiet_load _ (.tmp 3) w.heap.size _ rfl rfl (load_grownR hf HD3.out) ?_
  simp only [Act.put, List.setIfInBounds_toArray, List.set_cons_zero, List.set_cons_succ]
  go_big_quiet_on
  go_big_quiet_step (first | exact G1.out _ _ | exact G2.out _ _ | exact G3.out _ _ | exact G4.out _ _ | exact G5.out _ _)
  go_big_quiet_want
  refine quiet_load _ (.tmp 3) w.heap.size _ rfl rfl (load_grownR hf HD3.out) ?_
  simp only [Act.put, List.setIfInBounds_toArray, List.set_cons_zero, List.set_cons_succ]
  go_big_quiet_on
  go_big_quiet_step (first | exact G1.out _ _ | exact G2.out _ _ | exact G3.out _ _ | exact G4.out _ _ | exact G5.out _ _)
  go_big_quiet_step (first | exact G1.out _ _ | exact G2.out _ _ | exact G3.out _ _ | exact G4.out _ _ | exact G5.out _ _)
  go_big_quiet_step (first | exact G1.out _ _ | exact G2.out _ _ | exact G3.out _ _ | exact G4.out _ _ | exact G5.out _ _)
  go_big_quiet_step (first | exact G1.out _ _ | exact G2.out _ _ | exact G3.out _ _ | exact G4.out _ _ | exact G5.out _ _)
  go_big_quiet_want
  refine quiet_load _ (.tmp 3) w.heap.size _ rfl rfl (load_grownR hf HD3.out) ?_
  simp only [Act.put, List.setIfInBounds_toArray, List.set_cons_zero, List.set_cons_succ]
  go_big_quiet_on
  go_big_quiet_step (first | exact G1.out _ _ | exact G2.out _ _ | exact G3.out _ _ | exact G4.out _ _ | exact G5.out _ _)
  go_big_quiet_want
  refine quiet_load _ (.tmp 3) w.heap.size _ rfl rfl (load_grownR hf HD3.out) ?_
  simp only [Act.put, List.setIfInBounds_toArray, List.set_cons_zero, List.set_cons_succ]
  go_big_quiet_on
  go_big_quiet_step (first | exact G1.out _ _ | exact G2.out _ _ | exact G3.out _ _ | exact G4.out _ _ | exact G5.out _ _)
  repeat (go_big_quiet_step (first | exact G1.out _ _ | exact G2.out _ _ | exact G3.out _ _ | exact G4.out _ _ | exact G5.out _ _))
  refine wpQuiet_nil ?_
  intro _ hw'
  obtain ⟨⟨dq, osq⟩, hw''⟩ := hw'
  subst hw''
  have hbq := below_regrown (w2.alloc (.cells a.cells.toArray 25)) dq osq
  go_wp2
  go_ret
  exact ⟨rfl, up_trans HQ3.out hbq⟩
end Go.Proofs.YtdcaiecgholgiaaDoor
