/- The contracts of package frame's Get and Load. -/
import Derived.Test.YtdcaiecgholgiaaDoorFc
namespace Go.Proofs.YtdcaiecgholgiaaDoor
open Go.RowKit

theorem quiet_load {P : Program} {o : Oper} {a : Act} {C : World → Prop} {K : Act → Prop} (ty : TypeId) (x : Operand) (b : Nat) (v : Value) (ho : o.op = .load ty x) (hx : a.eval x = .pointer (some ⟨b, 0, none⟩))
    (hl : ∀ w, C w → (loadVar ty ⟨b, 0, none⟩).run P w = .ok v w) (hk : K (a.put o.dst v)) : o.quiet P a C K :=
  ⟨v, fun w hw => by
    unfold Oper.quietAt execOp
    simp only [ho, hx, Instr.loadAt, Instr.sureAddr, Sem.run_bind, Sem.run_pure, Result.andThen_ok, hl w hw]
    exact ⟨rfl, rfl⟩, hk⟩
/-- A frame's box, seen from all worlds that have grown out of the one in which it is new. -/
theorem load_grown {w : World} {f : FR} (hf : f.Ok) : ∀ W, (∃ p : Regrown, W = Sort.grow (redrawn (w.alloc (.cells f.cells.toArray 26)) p.d) p.os) → (loadVar 26 ⟨w.heap.size, 0, none⟩).run Tryd.prog W = .ok (.agg f.cells.toArray) W := by
  rintro W ⟨p, rfl⟩
  exact load_prog hf ((Blk.new w f.cells 26).up (below_regrown _ p.d p.os) (Blk.new w f.cells 26).lt)
theorem faultE_no {f : FR} (h : fineF f = false) (b : Bool) : faultE f b = 1 := if_pos h
theorem faultE_8 {f : FR} (h : fineF f = true) : faultE f false = 8 := by unfold faultE; rw [h]; rfl
theorem faultE_0 {f : FR} (h : fineF f = true) : faultE f true = 0 := by unfold faultE; rw [h]; rfl
/-- fault's contract in what has grown out of the boxed world, at a literal. -/
theorem g_fault {f : FR} (hf : f.Ok) (b : Bool) {e : Int} (h : faultE f b = e) (w : World) (d : Nat) (os : Array Obj) :
    Calls Tryd.prog 37 #[.agg f.cells.toArray, .bool b] (Sort.grow (redrawn w d) os) fun en w' => en = .returned (.int .i64 e) ∧ ∃ p : Regrown, w' = Sort.grow (redrawn w p.d) p.os :=
  grown_call (w := w) (fun W _ => h ▸ c_fault hf b W) d os
theorem g_within (n many : Int) {b : Bool} (h : decide (0 ≤ n ∧ n < many) = b) (w : World) (d : Nat) (os : Array Obj) :
    Calls Tryd.prog 38 #[.int .i64 n, .int .i64 many] (Sort.grow (redrawn w d) os) fun en w' => en = .returned (.bool b) ∧ ∃ p : Regrown, w' = Sort.grow (redrawn w p.d) p.os :=
  grown_call (w := w) (fun W _ => h ▸ same_below (c_within n many W)) d os
theorem g_place (n : Int) {b : Bool} (h : placeB n = b) (w : World) (d : Nat) (os : Array Obj) :
    Calls Tryd.prog 30 #[.int .i64 n] (Sort.grow (redrawn w d) os) fun en w' => en = .returned (.bool b) ∧ ∃ p : Regrown, w' = Sort.grow (redrawn w p.d) p.os :=
  grown_call (w := w) (fun W _ => h ▸ same_below (c_isPlace n W)) d os
theorem g_wfine (n : Int) {b : Bool} (h : fineW n = b) (w : World) (d : Nat) (os : Array Obj) :
    Calls Tryd.prog 28 #[.int .i64 n] (Sort.grow (redrawn w d) os) fun en w' => en = .returned (.bool b) ∧ ∃ p : Regrown, w' = Sort.grow (redrawn w p.d) p.os :=
  grown_call (w := w) (fun W _ => h ▸ same_below (c_wfine n W)) d os
set_option maxRecDepth 100000 in
set_option maxHeartbeats 1000000 in
theorem c_fget {f : FR} (hf : f.Ok) (r : Int) (w : World) :
    Calls Tryd.prog 14 #[.agg f.cells.toArray, .int .i64 r] w fun e w' => e = .returned (.tuple #[.int .i64 (getF f r).1, .int .i64 (getF f r).2]) ∧ Below w.heap.size w w' := by
  have hX := boxed w f 26
  have HX := Lib.hid hX
  cases hff : fineF f
  · have HE := faultE_no hff
    have HV : getF f r = (0, 1) := if_pos hff
    rw [HV]
    obtain ⟨b, hb⟩ : ∃ b, decide (0 ≤ r ∧ r < 8) = b := ⟨_, rfl⟩
    clear hX hff HV
    go_enter Tryd.func14, Tryd.ntmps14
    go_wp2_with fail
    refine wp_region_quiet_below (by kernel_rfl) (by kernel_rfl) ?_
    go_big_quiet_want
    refine quiet_load _ (.tmp 2) w.heap.size _ rfl rfl (load_grown hf) ?_
    simp only [Act.put, List.setIfInBounds_toArray, List.set_cons_zero, List.set_cons_succ]
    go_big_quiet_on
    repeat (go_big_quiet_step (first | exact g_within _ _ hb _ _ _ | exact g_fault hf b (HE b) _ _ _))
    refine wpQuiet_nil ?_
    intro _ hw'
    obtain ⟨⟨dq, osq⟩, hw''⟩ := hw'
    subst hw''
    have hbq := below_regrown (w.alloc (.cells f.cells.toArray 26)) dq osq
    go_wp2
    go_ret2
    exact ⟨rfl, up_trans HX.out.up hbq⟩
  by_cases hr : 0 ≤ r ∧ r < 8
  · have hb : decide (0 ≤ r ∧ r < 8) = true := decide_eq_true hr
    have HE := faultE_0 hff
    obtain ⟨k, rfl⟩ : ∃ k : Nat, r = k := ⟨r.toNat, by omega⟩
    have HV : getF f k = (f.regs.getD k 0, 0) := by
      unfold getF
      rw [if_neg (by rw [hff]; decide), if_pos hr, Int.toNat_natCast]
    rw [HV]
    have hk : k < 8 := by omega
    have hc := cell_regrown (hX.box.cell _ _ (FR.g_reg hf k hk))
    generalize f.regs.getD k 0 = x at hc
    clear hX hff HV hr
    go_enter Tryd.func14, Tryd.ntmps14
    go_wp2_with fail
    refine wp_region_quiet_below (by kernel_rfl) (by kernel_rfl) ?_
    go_big_quiet_want
    refine quiet_load _ (.tmp 2) w.heap.size _ rfl rfl (load_grown hf) ?_
    simp only [Act.put, List.setIfInBounds_toArray, List.set_cons_zero, List.set_cons_succ]
    go_big_quiet_on
    repeat (go_big_quiet_step (first | exact g_within _ _ hb _ _ _ | exact g_fault hf _ HE _ _ _))
    refine wpQuiet_nil ?_
    intro _ hw'
    obtain ⟨⟨dq, osq⟩, hw''⟩ := hw'
    subst hw''
    have hbq := below_regrown (w.alloc (.cells f.cells.toArray 26)) dq osq
    have hc := hc dq osq
    go_wp2
    go_ret2
    exact ⟨rfl, up_trans HX.out.up hbq⟩
  · have hb : decide (0 ≤ r ∧ r < 8) = false := decide_eq_false hr
    have HE := faultE_8 hff
    have HV : getF f r = (0, 8) := by
      unfold getF
      rw [if_neg (by rw [hff]; decide), if_neg hr]
    rw [HV]
    clear hX hff HV hr
    go_enter Tryd.func14, Tryd.ntmps14
    go_wp2_with fail
    refine wp_region_quiet_below (by kernel_rfl) (by kernel_rfl) ?_
    go_big_quiet_want
    refine quiet_load _ (.tmp 2) w.heap.size _ rfl rfl (load_grown hf) ?_
    simp only [Act.put, List.setIfInBounds_toArray, List.set_cons_zero, List.set_cons_succ]
    go_big_quiet_on
    repeat (go_big_quiet_step (first | exact g_within _ _ hb _ _ _ | exact g_fault hf _ HE _ _ _))
    refine wpQuiet_nil ?_
    intro _ hw'
    obtain ⟨⟨dq, osq⟩, hw''⟩ := hw'
    subst hw''
    have hbq := below_regrown (w.alloc (.cells f.cells.toArray 26)) dq osq
    go_wp2
    go_ret2
    exact ⟨rfl, up_trans HX.out.up hbq⟩
set_option maxRecDepth 100000 in
set_option maxHeartbeats 1000000 in
theorem c_fload {f : FR} (hf : f.Ok) (r : Int) (w : World) :
    Calls Tryd.prog 16 #[.agg f.cells.toArray, .int .i64 r] w fun e w' => e = .returned (.tuple #[.int .i64 (loadF f r).1, .int .i64 (loadF f r).2]) ∧ Below w.heap.size w w' := by
  have hX := boxed w f 26
  have HX := Lib.hid hX
  cases hff : fineF f
  · have HE := faultE_no hff
    have HV : loadF f r = (0, 1) := if_pos hff
    rw [HV]
    obtain ⟨b, hb⟩ : ∃ b, decide (0 ≤ r ∧ r < 16) = b := ⟨_, rfl⟩
    clear hX hff HV
    go_enter Tryd.func16, Tryd.ntmps16
    go_wp2_with fail
    refine wp_region_quiet_below (by kernel_rfl) (by kernel_rfl) ?_
    go_big_quiet_want
    refine quiet_load _ (.tmp 2) w.heap.size _ rfl rfl (load_grown hf) ?_
    simp only [Act.put, List.setIfInBounds_toArray, List.set_cons_zero, List.set_cons_succ]
    go_big_quiet_on
    repeat (go_big_quiet_step (first | exact g_within _ _ hb _ _ _ | exact g_fault hf b (HE b) _ _ _))
    refine wpQuiet_nil ?_
    intro _ hw'
    obtain ⟨⟨dq, osq⟩, hw''⟩ := hw'
    subst hw''
    have hbq := below_regrown (w.alloc (.cells f.cells.toArray 26)) dq osq
    go_wp2
    go_ret2
    exact ⟨rfl, up_trans HX.out.up hbq⟩
  by_cases hr : 0 ≤ r ∧ r < 16
  · have hb : decide (0 ≤ r ∧ r < 16) = true := decide_eq_true hr
    have HE := faultE_0 hff
    obtain ⟨k, rfl⟩ : ∃ k : Nat, r = k := ⟨r.toNat, by omega⟩
    have HV : loadF f k = (f.words.getD k 0, 0) := by
      unfold loadF
      rw [if_neg (by rw [hff]; decide), if_pos hr, Int.toNat_natCast]
    rw [HV]
    have hk : k < 16 := by omega
    have hc := cell_regrown (hX.box.cell _ _ (FR.g_word hf k hk))
    generalize f.words.getD k 0 = x at hc
    clear hX hff HV hr
    go_enter Tryd.func16, Tryd.ntmps16
    go_wp2_with fail
    refine wp_region_quiet_below (by kernel_rfl) (by kernel_rfl) ?_
    go_big_quiet_want
    refine quiet_load _ (.tmp 2) w.heap.size _ rfl rfl (load_grown hf) ?_
    simp only [Act.put, List.setIfInBounds_toArray, List.set_cons_zero, List.set_cons_succ]
    go_big_quiet_on
    repeat (go_big_quiet_step (first | exact g_within _ _ hb _ _ _ | exact g_fault hf _ HE _ _ _))
    refine wpQuiet_nil ?_
    intro _ hw'
    obtain ⟨⟨dq, osq⟩, hw''⟩ := hw'
    subst hw''
    have hbq := below_regrown (w.alloc (.cells f.cells.toArray 26)) dq osq
    have hc := hc dq osq
    go_wp2
    go_ret2
    exact ⟨rfl, up_trans HX.out.up hbq⟩
  · have hb : decide (0 ≤ r ∧ r < 16) = false := decide_eq_false hr
    have HE := faultE_8 hff
    have HV : loadF f r = (0, 8) := by
      unfold loadF
      rw [if_neg (by rw [hff]; decide), if_neg hr]
    rw [HV]
    clear hX hff HV hr
    go_enter Tryd.func16, Tryd.ntmps16
    go_wp2_with fail
    refine wp_region_quiet_below (by kernel_rfl) (by kernel_rfl) ?_
    go_big_quiet_want
    refine quiet_load _ (.tmp 2) w.heap.size _ rfl rfl (load_grown hf) ?_
    simp only [Act.put, List.setIfInBounds_toArray, List.set_cons_zero, List.set_cons_succ]
    go_big_quiet_on
    repeat (go_big_quiet_step (first | exact g_within _ _ hb _ _ _ | exact g_fault hf _ HE _ _ _))
    refine wpQuiet_nil ?_
    intro _ hw'
    obtain ⟨⟨dq, osq⟩, hw''⟩ := hw'
    subst hw''
    have hbq := below_regrown (w.alloc (.cells f.cells.toArray 26)) dq osq
    go_wp2
    go_ret2
    exact ⟨rfl, up_trans HX.out.up hbq⟩
end Go.Proofs.YtdcaiecgholgiaaDoor
