/- The contracts of package frame's Set, Store and Go. -/
import Derived.Test.YtdcaiecgholgiaaDoorFd
namespace Go.Proofs.YtdcaiecgholgiaaDoor
open Go.RowKit

/-- The world of a function that boxes its frame, and has a cell for the frame that it gives. -/
structure Box2 (w w2 : World) (f : FR) (t : TypeId) : Prop where
  up : Below w.heap.size w w2
  box : Blk w2 w.heap.size f.cells t
  res : Blk w2 (w.heap.size + 1) FR.zero.cells t
theorem box2 (w : World) (f : FR) (t : TypeId) : Box2 w ((w.alloc (.cells f.cells.toArray t)).alloc (.cells #[.int .i64 0, .bool false, .int .i64 0, .int .i64 0, .int .i64 0, .int .i64 0, .int .i64 0, .int .i64 0, .int .i64 0, .int .i64 0, .int .i64 0, .int .i64 0, .int .i64 0, .int .i64 0, .int .i64 0, .int .i64 0, .int .i64 0, .int .i64 0, .int .i64 0, .int .i64 0, .int .i64 0, .int .i64 0, .int .i64 0, .int .i64 0, .int .i64 0, .int .i64 0, .int .i64 0, .int .i64 0, .int .i64 0, .int .i64 0, .int .i64 0, .int .i64 0, .int .i64 0, .int .i64 0, .int .i64 0] t)) f t := by
  refine ⟨up_trans (up_alloc _ _) (up_alloc _ _), (Blk.new w f.cells t).alloc _, ?_⟩
  have := Blk.new (w.alloc (.cells f.cells.toArray t)) FR.zero.cells t
  rw [show (w.alloc (.cells f.cells.toArray t)).heap.size = w.heap.size + 1 by simp] at this
  exact this
theorem Blk.sreg {w : World} {b : Nat} {f : FR} {t : TypeId} (hf : f.Ok) (h : Blk w b f.cells t) (k : Nat) (hk : k < 8) (x : Int) : Blk (w.setCell ⟨b, 2 + k, none⟩ (.int .i64 x)) b ({ f with regs := f.regs.set k x } : FR).cells t := by
  rw [← FR.s_reg hf k hk]; exact h.set _ _
theorem Blk.sword {w : World} {b : Nat} {f : FR} {t : TypeId} (hf : f.Ok) (h : Blk w b f.cells t) (k : Nat) (hk : k < 16) (x : Int) : Blk (w.setCell ⟨b, 10 + k, none⟩ (.int .i64 x)) b ({ f with words := f.words.set k x } : FR).cells t := by
  rw [← FR.s_word hf k hk]; exact h.set _ _
theorem Blk.sstack {w : World} {b : Nat} {f : FR} {t : TypeId} (hf : f.Ok) (h : Blk w b f.cells t) (k : Nat) (x : Int) : Blk (w.setCell ⟨b, 27 + k, none⟩ (.int .i64 x)) b ({ f with stack := f.stack.set k x } : FR).cells t := by
  rw [← FR.s_stack hf k]; exact h.set _ _
theorem Blk.sdepth {w : World} {b : Nat} {f : FR} {t : TypeId} (hf : f.Ok) (h : Blk w b f.cells t) (x : Int) : Blk (w.setCell ⟨b, 26, none⟩ (.int .i64 x)) b ({ f with depth := x } : FR).cells t := by
  rw [← FR.s_depth hf]; exact h.set _ _
theorem Blk.spc {w : World} {b : Nat} {f : FR} {t : TypeId} (h : Blk w b f.cells t) (x : Int) : Blk (w.setCell ⟨b, 0, none⟩ (.int .i64 x)) b ({ f with pc := x } : FR).cells t := by
  rw [← FR.s_pc f]; exact h.set _ _
/-- A frame's box, seen from all worlds that have grown out of one in which it lies. -/
theorem load_grown2 {w2 : World} {b : Nat} {f : FR} (hf : f.Ok) (h : Blk w2 b f.cells 26) : ∀ W, (∃ p : Regrown, W = Sort.grow (redrawn w2 p.d) p.os) → (loadVar 26 ⟨b, 0, none⟩).run Tryd.prog W = .ok (.agg f.cells.toArray) W := by
  rintro W ⟨p, rfl⟩
  exact load_prog hf (h.up (below_regrown _ p.d p.os) h.lt)
/-- What a function with a frame and a number as its results gives back. -/
theorem results_fe {fn : Func} {p t : Tmp} (h : fn.results = #[.cell p 26, .tmp t]) (tmps : Array Value) (w : World) (b : Nat) {f : FR} (hf : f.Ok) {ty : TypeId}
    (hp : tmps.getD p undef = .pointer (some ⟨b, 0, none⟩)) (hg : Blk w b f.cells ty) :
    (results fn tmps).run Tryd.prog w = .ok (.tuple #[.agg f.cells.toArray, tmps.getD t undef]) w := by
  have hp' : tmps[p]?.getD undef = .pointer (some ⟨b, 0, none⟩) := by simpa using hp
  simp [results, h, hp', asAddr, load_prog hf hg]
set_option maxRecDepth 100000 in
set_option maxHeartbeats 1000000 in
theorem c_fset {f : FR} (hf : f.Ok) (r x : Int) (w : World) :
    Calls Tryd.prog 18 #[.agg f.cells.toArray, .int .i64 r, .int .i64 x] w fun e w' => e = .returned (.tuple #[.agg (setF f r x).1.cells.toArray, .int .i64 (setF f r x).2]) ∧ Below w.heap.size w w' := by
  have hX := box2 w f 26
  generalize hw2 : (w.alloc (.cells f.cells.toArray 26)).alloc (.cells #[.int .i64 0, .bool false, .int .i64 0, .int .i64 0, .int .i64 0, .int .i64 0, .int .i64 0, .int .i64 0, .int .i64 0, .int .i64 0, .int .i64 0, .int .i64 0, .int .i64 0, .int .i64 0, .int .i64 0, .int .i64 0, .int .i64 0, .int .i64 0, .int .i64 0, .int .i64 0, .int .i64 0, .int .i64 0, .int .i64 0, .int .i64 0, .int .i64 0, .int .i64 0, .int .i64 0, .int .i64 0, .int .i64 0, .int .i64 0, .int .i64 0, .int .i64 0, .int .i64 0, .int .i64 0, .int .i64 0] 26) = w2 at hX
  have HW := Lib.hid hw2
  have HX := Lib.hid hX
  clear hw2 hX
  cases hff : fineF f
  · have HE := faultE_no hff
    have HV : setF f r x = (f, 1) := if_pos hff
    rw [HV]
    cases hb : decide (0 ≤ r ∧ r < 8)
    · clear hff HV
      go_enter Tryd.func18, Tryd.ntmps18
      go_wp2_with fail
      rw [HW.out]
      refine wp_region_quiet_below (by kernel_rfl) (by kernel_rfl) ?_
      go_big_quiet_want
      refine quiet_load _ (.tmp 3) w.heap.size _ rfl rfl (load_grown2 hf HX.out.box) ?_
      simp only [Act.put, List.setIfInBounds_toArray, List.set_cons_zero, List.set_cons_succ]
      go_big_quiet_on
      repeat (go_big_quiet_step (first | exact g_within _ _ hb _ _ _ | exact g_fault hf false (HE _) _ _ _))
      refine wpQuiet_nil ?_
      intro _ hw'
      obtain ⟨⟨dq, osq⟩, hw''⟩ := hw'
      subst hw''
      have hbq := below_regrown w2 dq osq
      generalize hw3 : Sort.grow (redrawn w2 dq) osq = w3 at hbq
      clear hw3
      have HB := Lib.hid (HX.out.box.up hbq HX.out.box.lt)
      have HR := Lib.hid (HX.out.res.up hbq HX.out.res.lt)
      have HQ := Lib.hid (up_trans HX.out.up hbq)
      clear hbq
      go_wp2_with (first | (refine ld_prog hf HB.out rfl (.tmp 3) rfl rfl ?_) | (refine st_prog hf FR.zero_ok HR.out rfl (.tmp 6) (.tmp 19) rfl rfl rfl ?_))
      refine bodyPost_ret (v := .tuple #[.agg f.cells.toArray, .int .i64 1]) (results_fe (fn := Tryd.f18) (p := 6) (t := 7) rfl _ _ _ hf rfl (HR.out.row _)) rfl ?_
      exact ⟨rfl, below_setRow HQ.out (by omega) _⟩
    · obtain ⟨c, hc⟩ : ∃ c, fineW x = c := ⟨_, rfl⟩
      clear hff HV
      go_enter Tryd.func18, Tryd.ntmps18
      go_wp2_with fail
      rw [HW.out]
      refine wp_region_quiet_below (by kernel_rfl) (by kernel_rfl) ?_
      go_big_quiet_want
      refine quiet_load _ (.tmp 3) w.heap.size _ rfl rfl (load_grown2 hf HX.out.box) ?_
      simp only [Act.put, List.setIfInBounds_toArray, List.set_cons_zero, List.set_cons_succ]
      go_big_quiet_on
      repeat (go_big_quiet_step (first | exact g_within _ _ hb _ _ _ | exact g_wfine _ hc _ _ _ | exact g_fault hf c (HE _) _ _ _))
      refine wpQuiet_nil ?_
      intro _ hw'
      obtain ⟨⟨dq, osq⟩, hw''⟩ := hw'
      subst hw''
      have hbq := below_regrown w2 dq osq
      generalize hw3 : Sort.grow (redrawn w2 dq) osq = w3 at hbq
      clear hw3
      have HB := Lib.hid (HX.out.box.up hbq HX.out.box.lt)
      have HR := Lib.hid (HX.out.res.up hbq HX.out.res.lt)
      have HQ := Lib.hid (up_trans HX.out.up hbq)
      clear hbq
      go_wp2_with (first | (refine ld_prog hf HB.out rfl (.tmp 3) rfl rfl ?_) | (refine st_prog hf FR.zero_ok HR.out rfl (.tmp 6) (.tmp 19) rfl rfl rfl ?_))
      refine bodyPost_ret (v := .tuple #[.agg f.cells.toArray, .int .i64 1]) (results_fe (fn := Tryd.f18) (p := 6) (t := 7) rfl _ _ _ hf rfl (HR.out.row _)) rfl ?_
      exact ⟨rfl, below_setRow HQ.out (by omega) _⟩
  by_cases hr : 0 ≤ r ∧ r < 8
  · have hb : decide (0 ≤ r ∧ r < 8) = true := decide_eq_true hr
    cases hc : fineW x
    · have HE := faultE_8 hff
      have HV : setF f r x = (f, 8) := by
        unfold setF
        rw [if_neg (by rw [hff]; decide), if_neg (by rw [hc]; simp)]
      rw [HV]
      clear hff HV hr
      go_enter Tryd.func18, Tryd.ntmps18
      go_wp2_with fail
      rw [HW.out]
      refine wp_region_quiet_below (by kernel_rfl) (by kernel_rfl) ?_
      go_big_quiet_want
      refine quiet_load _ (.tmp 3) w.heap.size _ rfl rfl (load_grown2 hf HX.out.box) ?_
      simp only [Act.put, List.setIfInBounds_toArray, List.set_cons_zero, List.set_cons_succ]
      go_big_quiet_on
      repeat (go_big_quiet_step (first | exact g_within _ _ hb _ _ _ | exact g_wfine _ hc _ _ _ | exact g_fault hf _ HE _ _ _))
      refine wpQuiet_nil ?_
      intro _ hw'
      obtain ⟨⟨dq, osq⟩, hw''⟩ := hw'
      subst hw''
      have hbq := below_regrown w2 dq osq
      generalize hw3 : Sort.grow (redrawn w2 dq) osq = w3 at hbq
      clear hw3
      have HB := Lib.hid (HX.out.box.up hbq HX.out.box.lt)
      have HR := Lib.hid (HX.out.res.up hbq HX.out.res.lt)
      have HQ := Lib.hid (up_trans HX.out.up hbq)
      clear hbq
      go_wp2_with (first | (refine ld_prog hf HB.out rfl (.tmp 3) rfl rfl ?_) | (refine st_prog hf FR.zero_ok HR.out rfl (.tmp 6) (.tmp 19) rfl rfl rfl ?_))
      refine bodyPost_ret (v := .tuple #[.agg f.cells.toArray, .int .i64 8]) (results_fe (fn := Tryd.f18) (p := 6) (t := 7) rfl _ _ _ hf rfl (HR.out.row _)) rfl ?_
      exact ⟨rfl, below_setRow HQ.out (by omega) _⟩
    · have HE := faultE_0 hff
      obtain ⟨k, rfl⟩ : ∃ k : Nat, r = k := ⟨r.toNat, by omega⟩
      have hk : k < 8 := by omega
      have HV : setF f k x = ({ f with regs := f.regs.set k x }, 0) := by
        unfold setF
        rw [if_neg (by rw [hff]; decide), if_pos ⟨hr.1, hr.2, hc⟩, Int.toNat_natCast]
      rw [HV]
      clear hff HV hr
      go_enter Tryd.func18, Tryd.ntmps18
      go_wp2_with fail
      rw [HW.out]
      refine wp_region_quiet_below (by kernel_rfl) (by kernel_rfl) ?_
      go_big_quiet_want
      refine quiet_load _ (.tmp 3) w.heap.size _ rfl rfl (load_grown2 hf HX.out.box) ?_
      simp only [Act.put, List.setIfInBounds_toArray, List.set_cons_zero, List.set_cons_succ]
      go_big_quiet_on
      repeat (go_big_quiet_step (first | exact g_within _ _ hb _ _ _ | exact g_wfine _ hc _ _ _ | exact g_fault hf _ HE _ _ _))
      refine wpQuiet_nil ?_
      intro _ hw'
      obtain ⟨⟨dq, osq⟩, hw''⟩ := hw'
      subst hw''
      have hbq := below_regrown w2 dq osq
      generalize hw3 : Sort.grow (redrawn w2 dq) osq = w3 at hbq
      clear hw3
      have HB := Lib.hid (HX.out.box.up hbq HX.out.box.lt)
      have HR := Lib.hid (HX.out.res.up hbq HX.out.res.lt)
      have HQ := Lib.hid (up_trans HX.out.up hbq)
      clear hbq
      have hcl := HB.out.cell _ _ (FR.g_reg hf k hk)
      have hfr := HB.out.free (2 + k)
      go_wp2_with (first | (refine ld_prog (hf.reg k x) (HB.out.sreg hf k hk x) rfl (.tmp 3) rfl rfl ?_) | (refine st_prog (hf.reg k x) FR.zero_ok (HR.out.other ⟨w.heap.size, 2 + k, none⟩ (by simp) _) rfl (.tmp 6) (.tmp 25) rfl rfl rfl ?_))
      refine bodyPost_ret (v := .tuple #[.agg ({ f with regs := f.regs.set k x } : FR).cells.toArray, .int .i64 0]) (results_fe (fn := Tryd.f18) (p := 6) (t := 7) rfl _ _ _ (hf.reg k x) rfl ((HR.out.other ⟨w.heap.size, 2 + k, none⟩ (by simp) _).row _)) rfl ?_
      exact ⟨rfl, below_setRow (HQ.out.setCell (Nat.le_refl _) _) (by omega) _⟩
  · have hb : decide (0 ≤ r ∧ r < 8) = false := decide_eq_false hr
    have HE := faultE_8 hff
    have HV : setF f r x = (f, 8) := by
      unfold setF
      rw [if_neg (by rw [hff]; decide), if_neg (fun h => hr ⟨h.1, h.2.1⟩)]
    rw [HV]
    clear hff HV hr
    go_enter Tryd.func18, Tryd.ntmps18
    go_wp2_with fail
    rw [HW.out]
    refine wp_region_quiet_below (by kernel_rfl) (by kernel_rfl) ?_
    go_big_quiet_want
    refine quiet_load _ (.tmp 3) w.heap.size _ rfl rfl (load_grown2 hf HX.out.box) ?_
    simp only [Act.put, List.setIfInBounds_toArray, List.set_cons_zero, List.set_cons_succ]
    go_big_quiet_on
    repeat (go_big_quiet_step (first | exact g_within _ _ hb _ _ _ | exact g_fault hf _ HE _ _ _))
    refine wpQuiet_nil ?_
    intro _ hw'
    obtain ⟨⟨dq, osq⟩, hw''⟩ := hw'
    subst hw''
    have hbq := below_regrown w2 dq osq
    generalize hw3 : Sort.grow (redrawn w2 dq) osq = w3 at hbq
    clear hw3
    have HB := Lib.hid (HX.out.box.up hbq HX.out.box.lt)
    have HR := Lib.hid (HX.out.res.up hbq HX.out.res.lt)
    have HQ := Lib.hid (up_trans HX.out.up hbq)
    clear hbq
    go_wp2_with (first | (refine ld_prog hf HB.out rfl (.tmp 3) rfl rfl ?_) | (refine st_prog hf FR.zero_ok HR.out rfl (.tmp 6) (.tmp 19) rfl rfl rfl ?_))
    refine bodyPost_ret (v := .tuple #[.agg f.cells.toArray, .int .i64 8]) (results_fe (fn := Tryd.f18) (p := 6) (t := 7) rfl _ _ _ hf rfl (HR.out.row _)) rfl ?_
    exact ⟨rfl, below_setRow HQ.out (by omega) _⟩
set_option maxRecDepth 100000 in
set_option maxHeartbeats 1000000 in
theorem c_fstore {f : FR} (hf : f.Ok) (r x : Int) (w : World) :
    Calls Tryd.prog 20 #[.agg f.cells.toArray, .int .i64 r, .int .i64 x] w fun e w' => e = .returned (.tuple #[.agg (storeF f r x).1.cells.toArray, .int .i64 (storeF f r x).2]) ∧ Below w.heap.size w w' := by
  have hX := box2 w f 26
  generalize hw2 : (w.alloc (.cells f.cells.toArray 26)).alloc (.cells #[.int .i64 0, .bool false, .int .i64 0, .int .i64 0, .int .i64 0, .int .i64 0, .int .i64 0, .int .i64 0, .int .i64 0, .int .i64 0, .int .i64 0, .int .i64 0, .int .i64 0, .int .i64 0, .int .i64 0, .int .i64 0, .int .i64 0, .int .i64 0, .int .i64 0, .int .i64 0, .int .i64 0, .int .i64 0, .int .i64 0, .int .i64 0, .int .i64 0, .int .i64 0, .int .i64 0, .int .i64 0, .int .i64 0, .int .i64 0, .int .i64 0, .int .i64 0, .int .i64 0, .int .i64 0, .int .i64 0] 26) = w2 at hX
  have HW := Lib.hid hw2
  have HX := Lib.hid hX
  clear hw2 hX
  cases hff : fineF f
  · have HE := faultE_no hff
    have HV : storeF f r x = (f, 1) := if_pos hff
    rw [HV]
    cases hb : decide (0 ≤ r ∧ r < 16)
    · clear hff HV
      go_enter Tryd.func20, Tryd.ntmps20
      go_wp2_with fail
      rw [HW.out]
      refine wp_region_quiet_below (by kernel_rfl) (by kernel_rfl) ?_
      go_big_quiet_want
      refine quiet_load _ (.tmp 3) w.heap.size _ rfl rfl (load_grown2 hf HX.out.box) ?_
      simp only [Act.put, List.setIfInBounds_toArray, List.set_cons_zero, List.set_cons_succ]
      go_big_quiet_on
      repeat (go_big_quiet_step (first | exact g_within _ _ hb _ _ _ | exact g_fault hf false (HE _) _ _ _))
      refine wpQuiet_nil ?_
      intro _ hw'
      obtain ⟨⟨dq, osq⟩, hw''⟩ := hw'
      subst hw''
      have hbq := below_regrown w2 dq osq
      generalize hw3 : Sort.grow (redrawn w2 dq) osq = w3 at hbq
      clear hw3
      have HB := Lib.hid (HX.out.box.up hbq HX.out.box.lt)
      have HR := Lib.hid (HX.out.res.up hbq HX.out.res.lt)
      have HQ := Lib.hid (up_trans HX.out.up hbq)
      clear hbq
      go_wp2_with (first | (refine ld_prog hf HB.out rfl (.tmp 3) rfl rfl ?_) | (refine st_prog hf FR.zero_ok HR.out rfl (.tmp 6) (.tmp 19) rfl rfl rfl ?_))
      refine bodyPost_ret (v := .tuple #[.agg f.cells.toArray, .int .i64 1]) (results_fe (fn := Tryd.f20) (p := 6) (t := 7) rfl _ _ _ hf rfl (HR.out.row _)) rfl ?_
      exact ⟨rfl, below_setRow HQ.out (by omega) _⟩
    · obtain ⟨c, hc⟩ : ∃ c, fineW x = c := ⟨_, rfl⟩
      clear hff HV
      go_enter Tryd.func20, Tryd.ntmps20
      go_wp2_with fail
      rw [HW.out]
      refine wp_region_quiet_below (by kernel_rfl) (by kernel_rfl) ?_
      go_big_quiet_want
      refine quiet_load _ (.tmp 3) w.heap.size _ rfl rfl (load_grown2 hf HX.out.box) ?_
      simp only [Act.put, List.setIfInBounds_toArray, List.set_cons_zero, List.set_cons_succ]
      go_big_quiet_on
      repeat (go_big_quiet_step (first | exact g_within _ _ hb _ _ _ | exact g_wfine _ hc _ _ _ | exact g_fault hf c (HE _) _ _ _))
      refine wpQuiet_nil ?_
      intro _ hw'
      obtain ⟨⟨dq, osq⟩, hw''⟩ := hw'
      subst hw''
      have hbq := below_regrown w2 dq osq
      generalize hw3 : Sort.grow (redrawn w2 dq) osq = w3 at hbq
      clear hw3
      have HB := Lib.hid (HX.out.box.up hbq HX.out.box.lt)
      have HR := Lib.hid (HX.out.res.up hbq HX.out.res.lt)
      have HQ := Lib.hid (up_trans HX.out.up hbq)
      clear hbq
      go_wp2_with (first | (refine ld_prog hf HB.out rfl (.tmp 3) rfl rfl ?_) | (refine st_prog hf FR.zero_ok HR.out rfl (.tmp 6) (.tmp 19) rfl rfl rfl ?_))
      refine bodyPost_ret (v := .tuple #[.agg f.cells.toArray, .int .i64 1]) (results_fe (fn := Tryd.f20) (p := 6) (t := 7) rfl _ _ _ hf rfl (HR.out.row _)) rfl ?_
      exact ⟨rfl, below_setRow HQ.out (by omega) _⟩
  by_cases hr : 0 ≤ r ∧ r < 16
  · have hb : decide (0 ≤ r ∧ r < 16) = true := decide_eq_true hr
    cases hc : fineW x
    · have HE := faultE_8 hff
      have HV : storeF f r x = (f, 8) := by
        unfold storeF
        rw [if_neg (by rw [hff]; decide), if_neg (by rw [hc]; simp)]
      rw [HV]
      clear hff HV hr
      go_enter Tryd.func20, Tryd.ntmps20
      go_wp2_with fail
      rw [HW.out]
      refine wp_region_quiet_below (by kernel_rfl) (by kernel_rfl) ?_
      go_big_quiet_want
      refine quiet_load _ (.tmp 3) w.heap.size _ rfl rfl (load_grown2 hf HX.out.box) ?_
      simp only [Act.put, List.setIfInBounds_toArray, List.set_cons_zero, List.set_cons_succ]
      go_big_quiet_on
      repeat (go_big_quiet_step (first | exact g_within _ _ hb _ _ _ | exact g_wfine _ hc _ _ _ | exact g_fault hf _ HE _ _ _))
      refine wpQuiet_nil ?_
      intro _ hw'
      obtain ⟨⟨dq, osq⟩, hw''⟩ := hw'
      subst hw''
      have hbq := below_regrown w2 dq osq
      generalize hw3 : Sort.grow (redrawn w2 dq) osq = w3 at hbq
      clear hw3
      have HB := Lib.hid (HX.out.box.up hbq HX.out.box.lt)
      have HR := Lib.hid (HX.out.res.up hbq HX.out.res.lt)
      have HQ := Lib.hid (up_trans HX.out.up hbq)
      clear hbq
      go_wp2_with (first | (refine ld_prog hf HB.out rfl (.tmp 3) rfl rfl ?_) | (refine st_prog hf FR.zero_ok HR.out rfl (.tmp 6) (.tmp 19) rfl rfl rfl ?_))
      refine bodyPost_ret (v := .tuple #[.agg f.cells.toArray, .int .i64 8]) (results_fe (fn := Tryd.f20) (p := 6) (t := 7) rfl _ _ _ hf rfl (HR.out.row _)) rfl ?_
      exact ⟨rfl, below_setRow HQ.out (by omega) _⟩
    · have HE := faultE_0 hff
      obtain ⟨k, rfl⟩ : ∃ k : Nat, r = k := ⟨r.toNat, by omega⟩
      have hk : k < 16 := by omega
      have HV : storeF f k x = ({ f with words := f.words.set k x }, 0) := by
        unfold storeF
        rw [if_neg (by rw [hff]; decide), if_pos ⟨hr.1, hr.2, hc⟩, Int.toNat_natCast]
      rw [HV]
      clear hff HV hr
      go_enter Tryd.func20, Tryd.ntmps20
      go_wp2_with fail
      rw [HW.out]
      refine wp_region_quiet_below (by kernel_rfl) (by kernel_rfl) ?_
      go_big_quiet_want
      refine quiet_load _ (.tmp 3) w.heap.size _ rfl rfl (load_grown2 hf HX.out.box) ?_
      simp only [Act.put, List.setIfInBounds_toArray, List.set_cons_zero, List.set_cons_succ]
      go_big_quiet_on
      repeat (go_big_quiet_step (first | exact g_within _ _ hb _ _ _ | exact g_wfine _ hc _ _ _ | exact g_fault hf _ HE _ _ _))
      refine wpQuiet_nil ?_
      intro _ hw'
      obtain ⟨⟨dq, osq⟩, hw''⟩ := hw'
      subst hw''
      have hbq := below_regrown w2 dq osq
      generalize hw3 : Sort.grow (redrawn w2 dq) osq = w3 at hbq
      clear hw3
      have HB := Lib.hid (HX.out.box.up hbq HX.out.box.lt)
      have HR := Lib.hid (HX.out.res.up hbq HX.out.res.lt)
      have HQ := Lib.hid (up_trans HX.out.up hbq)
      clear hbq
      have hcl := HB.out.cell _ _ (FR.g_word hf k hk)
      have hfr := HB.out.free (10 + k)
      go_wp2_with (first | (refine ld_prog (hf.word k x) (HB.out.sword hf k hk x) rfl (.tmp 3) rfl rfl ?_) | (refine st_prog (hf.word k x) FR.zero_ok (HR.out.other ⟨w.heap.size, 10 + k, none⟩ (by simp) _) rfl (.tmp 6) (.tmp 25) rfl rfl rfl ?_))
      refine bodyPost_ret (v := .tuple #[.agg ({ f with words := f.words.set k x } : FR).cells.toArray, .int .i64 0]) (results_fe (fn := Tryd.f20) (p := 6) (t := 7) rfl _ _ _ (hf.word k x) rfl ((HR.out.other ⟨w.heap.size, 10 + k, none⟩ (by simp) _).row _)) rfl ?_
      exact ⟨rfl, below_setRow (HQ.out.setCell (Nat.le_refl _) _) (by omega) _⟩
  · have hb : decide (0 ≤ r ∧ r < 16) = false := decide_eq_false hr
    have HE := faultE_8 hff
    have HV : storeF f r x = (f, 8) := by
      unfold storeF
      rw [if_neg (by rw [hff]; decide), if_neg (fun h => hr ⟨h.1, h.2.1⟩)]
    rw [HV]
    clear hff HV hr
    go_enter Tryd.func20, Tryd.ntmps20
    go_wp2_with fail
    rw [HW.out]
    refine wp_region_quiet_below (by kernel_rfl) (by kernel_rfl) ?_
    go_big_quiet_want
    refine quiet_load _ (.tmp 3) w.heap.size _ rfl rfl (load_grown2 hf HX.out.box) ?_
    simp only [Act.put, List.setIfInBounds_toArray, List.set_cons_zero, List.set_cons_succ]
    go_big_quiet_on
    repeat (go_big_quiet_step (first | exact g_within _ _ hb _ _ _ | exact g_fault hf _ HE _ _ _))
    refine wpQuiet_nil ?_
    intro _ hw'
    obtain ⟨⟨dq, osq⟩, hw''⟩ := hw'
    subst hw''
    have hbq := below_regrown w2 dq osq
    generalize hw3 : Sort.grow (redrawn w2 dq) osq = w3 at hbq
    clear hw3
    have HB := Lib.hid (HX.out.box.up hbq HX.out.box.lt)
    have HR := Lib.hid (HX.out.res.up hbq HX.out.res.lt)
    have HQ := Lib.hid (up_trans HX.out.up hbq)
    clear hbq
    go_wp2_with (first | (refine ld_prog hf HB.out rfl (.tmp 3) rfl rfl ?_) | (refine st_prog hf FR.zero_ok HR.out rfl (.tmp 6) (.tmp 19) rfl rfl rfl ?_))
    refine bodyPost_ret (v := .tuple #[.agg f.cells.toArray, .int .i64 8]) (results_fe (fn := Tryd.f20) (p := 6) (t := 7) rfl _ _ _ hf rfl (HR.out.row _)) rfl ?_
    exact ⟨rfl, below_setRow HQ.out (by omega) _⟩
set_option maxRecDepth 100000 in
set_option maxHeartbeats 1000000 in
theorem c_fgo {f : FR} (hf : f.Ok) (r : Int) (w : World) :
    Calls Tryd.prog 22 #[.agg f.cells.toArray, .int .i64 r] w fun e w' => e = .returned (.tuple #[.agg (goF f r).1.cells.toArray, .int .i64 (goF f r).2]) ∧ Below w.heap.size w w' := by
  have hX := box2 w f 26
  generalize hw2 : (w.alloc (.cells f.cells.toArray 26)).alloc (.cells #[.int .i64 0, .bool false, .int .i64 0, .int .i64 0, .int .i64 0, .int .i64 0, .int .i64 0, .int .i64 0, .int .i64 0, .int .i64 0, .int .i64 0, .int .i64 0, .int .i64 0, .int .i64 0, .int .i64 0, .int .i64 0, .int .i64 0, .int .i64 0, .int .i64 0, .int .i64 0, .int .i64 0, .int .i64 0, .int .i64 0, .int .i64 0, .int .i64 0, .int .i64 0, .int .i64 0, .int .i64 0, .int .i64 0, .int .i64 0, .int .i64 0, .int .i64 0, .int .i64 0, .int .i64 0, .int .i64 0] 26) = w2 at hX
  have HW := Lib.hid hw2
  have HX := Lib.hid hX
  clear hw2 hX
  cases hff : fineF f
  · have HE := faultE_no hff
    have HV : goF f r = (f, 1) := if_pos hff
    rw [HV]
    obtain ⟨b, hb⟩ : ∃ b, placeB r = b := ⟨_, rfl⟩
    clear hff HV
    go_enter Tryd.func22, Tryd.ntmps22
    go_wp2_with fail
    rw [HW.out]
    refine wp_region_quiet_below (by kernel_rfl) (by kernel_rfl) ?_
    go_big_quiet_want
    refine quiet_load _ (.tmp 2) w.heap.size _ rfl rfl (load_grown2 hf HX.out.box) ?_
    simp only [Act.put, List.setIfInBounds_toArray, List.set_cons_zero, List.set_cons_succ]
    go_big_quiet_on
    repeat (go_big_quiet_step (first | exact g_place _ hb _ _ _ | exact g_fault hf b (HE _) _ _ _))
    refine wpQuiet_nil ?_
    intro _ hw'
    obtain ⟨⟨dq, osq⟩, hw''⟩ := hw'
    subst hw''
    have hbq := below_regrown w2 dq osq
    generalize hw3 : Sort.grow (redrawn w2 dq) osq = w3 at hbq
    clear hw3
    have HB := Lib.hid (HX.out.box.up hbq HX.out.box.lt)
    have HR := Lib.hid (HX.out.res.up hbq HX.out.res.lt)
    have HQ := Lib.hid (up_trans HX.out.up hbq)
    clear hbq
    go_wp2_with (first | (refine ld_prog hf HB.out rfl (.tmp 2) rfl rfl ?_) | (refine st_prog hf FR.zero_ok HR.out rfl (.tmp 4) (.tmp 13) rfl rfl rfl ?_))
    refine bodyPost_ret (v := .tuple #[.agg f.cells.toArray, .int .i64 1]) (results_fe (fn := Tryd.f22) (p := 4) (t := 5) rfl _ _ _ hf rfl (HR.out.row _)) rfl ?_
    exact ⟨rfl, below_setRow HQ.out (by omega) _⟩
  cases hb : placeB r
  · have HE := faultE_8 hff
    have HV : goF f r = (f, 8) := by
      unfold goF
      rw [if_neg (by rw [hff]; decide), if_neg (by rw [hb]; decide)]
    rw [HV]
    clear hff HV
    go_enter Tryd.func22, Tryd.ntmps22
    go_wp2_with fail
    rw [HW.out]
    refine wp_region_quiet_below (by kernel_rfl) (by kernel_rfl) ?_
    go_big_quiet_want
    refine quiet_load _ (.tmp 2) w.heap.size _ rfl rfl (load_grown2 hf HX.out.box) ?_
    simp only [Act.put, List.setIfInBounds_toArray, List.set_cons_zero, List.set_cons_succ]
    go_big_quiet_on
    repeat (go_big_quiet_step (first | exact g_place _ hb _ _ _ | exact g_fault hf _ HE _ _ _))
    refine wpQuiet_nil ?_
    intro _ hw'
    obtain ⟨⟨dq, osq⟩, hw''⟩ := hw'
    subst hw''
    have hbq := below_regrown w2 dq osq
    generalize hw3 : Sort.grow (redrawn w2 dq) osq = w3 at hbq
    clear hw3
    have HB := Lib.hid (HX.out.box.up hbq HX.out.box.lt)
    have HR := Lib.hid (HX.out.res.up hbq HX.out.res.lt)
    have HQ := Lib.hid (up_trans HX.out.up hbq)
    clear hbq
    go_wp2_with (first | (refine ld_prog hf HB.out rfl (.tmp 2) rfl rfl ?_) | (refine st_prog hf FR.zero_ok HR.out rfl (.tmp 4) (.tmp 13) rfl rfl rfl ?_))
    refine bodyPost_ret (v := .tuple #[.agg f.cells.toArray, .int .i64 8]) (results_fe (fn := Tryd.f22) (p := 4) (t := 5) rfl _ _ _ hf rfl (HR.out.row _)) rfl ?_
    exact ⟨rfl, below_setRow HQ.out (by omega) _⟩
  · have HE := faultE_0 hff
    have HV : goF f r = ({ f with pc := r }, 0) := by
      unfold goF
      rw [if_neg (by rw [hff]; decide), if_pos hb]
    rw [HV]
    clear hff HV
    go_enter Tryd.func22, Tryd.ntmps22
    go_wp2_with fail
    rw [HW.out]
    refine wp_region_quiet_below (by kernel_rfl) (by kernel_rfl) ?_
    go_big_quiet_want
    refine quiet_load _ (.tmp 2) w.heap.size _ rfl rfl (load_grown2 hf HX.out.box) ?_
    simp only [Act.put, List.setIfInBounds_toArray, List.set_cons_zero, List.set_cons_succ]
    go_big_quiet_on
    repeat (go_big_quiet_step (first | exact g_place _ hb _ _ _ | exact g_fault hf _ HE _ _ _))
    refine wpQuiet_nil ?_
    intro _ hw'
    obtain ⟨⟨dq, osq⟩, hw''⟩ := hw'
    subst hw''
    have hbq := below_regrown w2 dq osq
    generalize hw3 : Sort.grow (redrawn w2 dq) osq = w3 at hbq
    clear hw3
    have HB := Lib.hid (HX.out.box.up hbq HX.out.box.lt)
    have HR := Lib.hid (HX.out.res.up hbq HX.out.res.lt)
    have HQ := Lib.hid (up_trans HX.out.up hbq)
    clear hbq
    have hcl := HB.out.cell 0 _ (FR.c_pc f)
    have hfr := HB.out.free 0
    go_wp2_with (first | (refine ld_prog (hf.pc r) (HB.out.spc r) rfl (.tmp 2) rfl rfl ?_) | (refine st_prog (hf.pc r) FR.zero_ok (HR.out.other ⟨w.heap.size, 0, none⟩ (by simp) _) rfl (.tmp 4) (.tmp 17) rfl rfl rfl ?_))
    refine bodyPost_ret (v := .tuple #[.agg ({ f with pc := r } : FR).cells.toArray, .int .i64 0]) (results_fe (fn := Tryd.f22) (p := 4) (t := 5) rfl _ _ _ (hf.pc r) rfl ((HR.out.other ⟨w.heap.size, 0, none⟩ (by simp) _).row _)) rfl ?_
    exact ⟨rfl, below_setRow (HQ.out.setCell (Nat.le_refl _) _) (by omega) _⟩
end Go.Proofs.YtdcaiecgholgiaaDoor
