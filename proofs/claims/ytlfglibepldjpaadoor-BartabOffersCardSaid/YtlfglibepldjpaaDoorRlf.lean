/- Package roll: Full, Fire. -/
import Derived.Test.YtlfglibepldjpaaDoorRlb
import Derived.Deep.RegionHeld3
namespace Go.Proofs.YtlfglibepldjpaaDoor
open Go.RowKit

theorem full_no {r : RL} (h : rlFine r = false) : rlFull r = false := by unfold rlFull; rw [h]; rfl
theorem full_none {r : RL} (h : r.m = S4.zero) : rlFull r = false := by unfold rlFull; rw [eqb_iff.2 h]; simp
theorem full_part {r : RL} (h : r.a ≠ r.m) : rlFull r = false := by unfold rlFull; rw [eqb_no.2 h]; simp
theorem full_yes {r : RL} (h : rlFine r = true) (h0 : r.m ≠ S4.zero) (h1 : r.a = r.m) : rlFull r = true := by unfold rlFull; rw [h, eqb_no.2 h0, eqb_iff.2 h1]; rfl

set_option maxRecDepth 100000 in
set_option maxHeartbeats 2000000 in
theorem c_rlfull (r : RL) (w : World) (hT : TabD w) :
    Calls Tryd.prog 102 #[.agg (rlC r).toArray] w fun e w' => e = .returned (.bool (rlFull r)) ∧ Below w.heap.size w w' := by
  have hX := bx1 w (rlC r) 64
  generalize hw1 : w.alloc (.cells (rlC r).toArray 64) = w1 at hX
  have HW := Lib.hid hw1
  have HX := Lib.hid (hX.next (up_alloc w1 (.cells zero4.toArray 62)))
  have HZ := Lib.hid (Blk.new w1 zero4 62)
  have CF := Lib.hid (fun W (hW : Below w.heap.size w W) => c_rlfine r W (hT.up hW))
  clear hT hX hw1
  cases hf : rlFine r
  case false =>
    rw [full_no hf]
    rw [hf] at CF
    clear hf
    go_enter Tryd.func102, Tryd.ntmps102
    go_upto_region 1 with fail
    rw [HW.out]
    go_wp2_with (refine ldr (b := w.heap.size) (t := 64) (cs := rlC r) (.tmp 1) rfl rfl Tryd.underlying64 rfl info_roll rfl ?_ ?_; (· exact HX.out.box))
    refine (CF.out _ HX.out.up).mono ?_; rintro e w2 ⟨rfl, hb⟩
    go_wp2
    go_ret
    exact ⟨rfl, up_trans HX.out.up hb⟩
  rw [hf] at CF
  by_cases hm : r.m = S4.zero
  case pos =>
    rw [full_none hm]
    have hq1 := run_zero hm
    have hq2 := run_zero hm
    clear hm hf
    go_enter Tryd.func102, Tryd.ntmps102
    go_upto_region 1 with fail
    rw [HW.out]
    go_wp2_with (refine ldr (b := w.heap.size) (t := 64) (cs := rlC r) (.tmp 1) rfl rfl Tryd.underlying64 rfl info_roll rfl ?_ ?_; (· exact HX.out.box))
    refine (CF.out _ HX.out.up).mono ?_; rintro e w2 ⟨rfl, hb⟩
    have HA := Lib.hid (HX.out.next hb)
    have hz := HZ.out.up hb HZ.out.lt
    have z0 := hz.cell 0 _ rfl
    have z1 := hz.cell 1 _ rfl
    have z2 := hz.cell 2 _ rfl
    have z3 := hz.cell 3 _ rfl
    clear hb hz
    obtain ⟨m0, m1, m2, m3, a0, a1, a2, a3⟩ := HA.out.box.rl
    go_wp2_with (first | rw [hq1] | rw [hq2])
    go_ret
    exact ⟨ret_bool (by simp), HA.out.up⟩
  by_cases ha : r.a = r.m
  case neg =>
    rw [full_part ha]
    have hq1 := run_some hm
    have hq2 := run_other ha
    clear hm ha hf
    go_enter Tryd.func102, Tryd.ntmps102
    go_upto_region 1 with fail
    rw [HW.out]
    go_wp2_with (refine ldr (b := w.heap.size) (t := 64) (cs := rlC r) (.tmp 1) rfl rfl Tryd.underlying64 rfl info_roll rfl ?_ ?_; (· exact HX.out.box))
    refine (CF.out _ HX.out.up).mono ?_; rintro e w2 ⟨rfl, hb⟩
    have HA := Lib.hid (HX.out.next hb)
    have hz := HZ.out.up hb HZ.out.lt
    have z0 := hz.cell 0 _ rfl
    have z1 := hz.cell 1 _ rfl
    have z2 := hz.cell 2 _ rfl
    have z3 := hz.cell 3 _ rfl
    clear hb hz
    obtain ⟨m0, m1, m2, m3, a0, a1, a2, a3⟩ := HA.out.box.rl
    go_wp2_with (first | rw [hq1] | rw [hq2])
    go_ret
    exact ⟨ret_bool (by simp), HA.out.up⟩
  rw [full_yes hf hm ha]
  have hq1 := run_some hm
  have hq2 := run_same ha
  clear hm ha hf
  go_enter Tryd.func102, Tryd.ntmps102
  go_upto_region 1 with fail
  rw [HW.out]
  go_wp2_with (refine ldr (b := w.heap.size) (t := 64) (cs := rlC r) (.tmp 1) rfl rfl Tryd.underlying64 rfl info_roll rfl ?_ ?_; (· exact HX.out.box))
  refine (CF.out _ HX.out.up).mono ?_; rintro e w2 ⟨rfl, hb⟩
  have HA := Lib.hid (HX.out.next hb)
  have hz := HZ.out.up hb HZ.out.lt
  have z0 := hz.cell 0 _ rfl
  have z1 := hz.cell 1 _ rfl
  have z2 := hz.cell 2 _ rfl
  have z3 := hz.cell 3 _ rfl
  clear hb hz
  obtain ⟨m0, m1, m2, m3, a0, a1, a2, a3⟩ := HA.out.box.rl
  go_wp2_with (first | rw [hq1] | rw [hq2])
  go_ret
  exact ⟨ret_bool (by simp), HA.out.up⟩

/-- What a function gives back that has a cell for a struct, and two more. -/
theorem results_cee {P : Program} {fn : Func} {p t u : Tmp} {ty : TypeId} {d : TypeDesc} (hr : fn.results = #[.cell p ty, .tmp t, .tmp u]) (tmps : Array Value) (w : World) (b : Nat) {cs : List Value} {t' : TypeId}
    (hp : tmps.getD p undef = .pointer (some ⟨b, 0, none⟩)) (h : Blk w b cs t') (hu : P.underlying ty = some d) (hd : (match d with | .struct _ | .array _ _ => true | _ => false) = true) (hi : (P.info? ty).map (·.size) = some cs.length) :
    (results fn tmps).run P w = .ok (.tuple #[.agg cs.toArray, tmps.getD t undef, tmps.getD u undef]) w := by
  have hp' : tmps[p]?.getD undef = .pointer (some ⟨b, 0, none⟩) := by simpa using hp
  simp [results, hr, hp', asAddr, load_row h hu hd hi]
theorem rlZ_one : ∀ v ∈ rlZ, v.oneCell' = true := rlC_one (r := RL.zero)
/-- What Fire gives. -/
def FirePost (w : World) (x : RL × List Int × Int) (e : Ending) (w' : World) : Prop :=
  ∃ A c, e = .returned (.tuple #[.agg (rlC x.1).toArray, .slice A x.2.1.length c, .int .i64 x.2.2]) ∧ RD w' (w.heap.size ≤ ·) 1 A x.2.1.length (x.2.1.map (Value.int .i64)) ∧ Below w.heap.size w w'
theorem RBx.fired {w wc : World} {r : RL} (h : RBx w wc r) (s : S4) :
    Blk ((((((((wc.setCell ⟨w.heap.size + 1, 0, none⟩ (.int .u64 (s.a.toNat : Int))).setCell ⟨w.heap.size + 1, 1, none⟩ (.int .u64 (s.b.toNat : Int))).setCell ⟨w.heap.size + 1, 2, none⟩ (.int .u64 (s.c.toNat : Int))).setCell ⟨w.heap.size + 1, 3, none⟩ (.int .u64 (s.d.toNat : Int))).setCell ⟨w.heap.size + 1, 4, none⟩ (.int .u64 0)).setCell ⟨w.heap.size + 1, 5, none⟩ (.int .u64 0)).setCell ⟨w.heap.size + 1, 6, none⟩ (.int .u64 0)).setCell ⟨w.heap.size + 1, 7, none⟩ (.int .u64 0)) (w.heap.size + 1) (rlC ⟨s, S4.zero⟩) 64 :=
  (((((((h.res.set 0 _).set 1 _).set 2 _).set 3 _).set 4 _).set 5 _).set 6 _).set 7 _
theorem Only.res8 {w wc : World} (x0 x1 x2 x3 x4 x5 x6 x7 : Value) :
    Only (· = w.heap.size + 1) wc ((((((((wc.setCell ⟨w.heap.size + 1, 0, none⟩ x0).setCell ⟨w.heap.size + 1, 1, none⟩ x1).setCell ⟨w.heap.size + 1, 2, none⟩ x2).setCell ⟨w.heap.size + 1, 3, none⟩ x3).setCell ⟨w.heap.size + 1, 4, none⟩ x4).setCell ⟨w.heap.size + 1, 5, none⟩ x5).setCell ⟨w.heap.size + 1, 6, none⟩ x6).setCell ⟨w.heap.size + 1, 7, none⟩ x7) :=
  ((((((((Only.refl _ _).put 0 _).put 1 _).put 2 _).put 3 _).put 4 _).put 5 _).put 6 _).put 7 _

set_option maxRecDepth 100000 in
set_option maxHeartbeats 4000000 in
theorem c_rlfire (r : RL) (w : World) (hT : TabD w) :
    Calls Tryd.prog 83 #[.agg (rlC r).toArray] w (FirePost w (rlFire r)) := by
  have hX := bx2_rl w r
  generalize hw1 : (w.alloc (.cells (rlC r).toArray 64)).alloc (.cells #[.int .u64 0, .int .u64 0, .int .u64 0, .int .u64 0, .int .u64 0, .int .u64 0, .int .u64 0, .int .u64 0] 64) = w1 at hX
  have HW := Lib.hid hw1
  have HX := Lib.hid hX
  have CF := Lib.hid (fun W (hW : Below w.heap.size w W) => c_rlfine r W (hT.up hW))
  have CU := Lib.hid (fun W (hW : Below w.heap.size w W) => c_rlfull r W (hT.up hW))
  have CL := Lib.hid (fun W (hW : Below w.heap.size w W) => c_list r.a W (hT.up hW))
  clear hT hX hw1
  cases hf : rlFine r
  case false =>
    have HE : Hid (rlFire r = (RL.zero, [], 1)) := Lib.hid (by unfold rlFire; rw [if_pos hf])
    rw [hf] at CF
    clear hf
    go_enter Tryd.func83, Tryd.ntmps83
    go_upto_region 1 with fail
    rw [HW.out]
    go_wp2_with (refine ldr (b := w.heap.size) (t := 64) (cs := rlC r) (.tmp 1) rfl rfl Tryd.underlying64 rfl info_roll rfl ?_ ?_; (· exact HX.out.box))
    refine (CF.out _ HX.out.up).mono ?_; rintro e w2 ⟨rfl, hb⟩
    have HA := Lib.hid (HX.out.next hb)
    clear hb
    go_wp2_with (refine str (b := w.heap.size + 1) (t := 64) (cs := rlZ) (ds := rlZ) (.tmp 2) (.tmp 9) rfl rfl rfl rfl info_roll rfl rlZ_one ?_ ?_; (· exact HA.out.res))
    refine bodyPost_ret (v := .tuple #[.agg (rlZ).toArray, .slice none 0 0, .int .i64 1]) (results_cee (fn := Tryd.f83) (p := 2) (t := 3) (u := 4) rfl _ _ _ rfl (HA.out.res.row _) Tryd.underlying64 rfl info_roll) rfl ?_
    rw [HE.out]
    exact ⟨none, 0, rfl, RD.nil _ _ _ _, below_setRow HA.out.up (by omega) _⟩
  rw [hf] at CF
  cases hu : rlFull r
  case false =>
    have HE : Hid (rlFire r = (RL.zero, [], 13)) := Lib.hid (by unfold rlFire; rw [if_neg (by rw [hf]; decide), if_pos hu])
    rw [hu] at CU
    clear hf hu
    go_enter Tryd.func83, Tryd.ntmps83
    go_upto_region 1 with fail
    rw [HW.out]
    go_wp2_with (refine ldr (b := w.heap.size) (t := 64) (cs := rlC r) (.tmp 1) rfl rfl Tryd.underlying64 rfl info_roll rfl ?_ ?_; (· exact HX.out.box))
    refine (CF.out _ HX.out.up).mono ?_; rintro e w2 ⟨rfl, hb⟩
    have HA := Lib.hid (HX.out.next hb)
    clear hb
    go_wp2_with (refine ldr (b := w.heap.size) (t := 64) (cs := rlC r) (.tmp 1) rfl rfl Tryd.underlying64 rfl info_roll rfl ?_ ?_; (· exact HA.out.box))
    refine (CU.out _ HA.out.up).mono ?_; rintro e w3 ⟨rfl, hb⟩
    have HB := Lib.hid (HA.out.next hb)
    clear hb
    go_wp2_with (refine str (b := w.heap.size + 1) (t := 64) (cs := rlZ) (ds := rlZ) (.tmp 2) (.tmp 14) rfl rfl rfl rfl info_roll rfl rlZ_one ?_ ?_; (· exact HB.out.res))
    refine bodyPost_ret (v := .tuple #[.agg (rlZ).toArray, .slice none 0 0, .int .i64 13]) (results_cee (fn := Tryd.f83) (p := 2) (t := 3) (u := 4) rfl _ _ _ rfl (HB.out.res.row _) Tryd.underlying64 rfl info_roll) rfl ?_
    rw [HE.out]
    exact ⟨none, 0, rfl, RD.nil _ _ _ _, below_setRow HB.out.up (by omega) _⟩
  have HE : Hid (rlFire r = (⟨r.m, S4.zero⟩, r.a.ints, 0)) := Lib.hid (by unfold rlFire; rw [if_neg (by rw [hf]; decide), if_neg (by rw [hu]; decide)])
  rw [hu] at CU
  clear hf hu
  go_enter Tryd.func83, Tryd.ntmps83
  go_upto_region 1 with fail
  rw [HW.out]
  go_wp2_with (refine ldr (b := w.heap.size) (t := 64) (cs := rlC r) (.tmp 1) rfl rfl Tryd.underlying64 rfl info_roll rfl ?_ ?_; (· exact HX.out.box))
  refine (CF.out _ HX.out.up).mono ?_; rintro e w2 ⟨rfl, hb⟩
  have HA := Lib.hid (HX.out.next hb)
  clear hb
  go_wp2_with (refine ldr (b := w.heap.size) (t := 64) (cs := rlC r) (.tmp 1) rfl rfl Tryd.underlying64 rfl info_roll rfl ?_ ?_; (· exact HA.out.box))
  refine (CU.out _ HA.out.up).mono ?_; rintro e w3 ⟨rfl, hb⟩
  have HB := Lib.hid (HA.out.next hb)
  clear hb
  obtain ⟨m0, m1, m2, m3, a0, a1, a2, a3⟩ := HB.out.box.rl
  go_wp2_with fail
  go_region_with (go_at_call 99; refine (CL.out _ (up_trans HB.out.up (up_drewN _ 1))).mono ?_; rintro e w4 ⟨A, c, rfl, -, -, hr, hb⟩; have HC := Lib.hid (HB.out.next ((up_drewN _ 1).trans (hb.mono (Nat.le_refl _)))); have HR := Lib.hid hr; clear hr hb; obtain ⟨n0, n1, n2, n3, o0, o1, o2, o3⟩ := HC.out.box.rl; have r0 := HC.out.res.cell 0 _ rfl; have r1 := HC.out.res.cell 1 _ rfl; have r2 := HC.out.res.cell 2 _ rfl; have r3 := HC.out.res.cell 3 _ rfl; have r4 := HC.out.res.cell 4 _ rfl; have r5 := HC.out.res.cell 5 _ rfl; have r6 := HC.out.res.cell 6 _ rfl; have r7 := HC.out.res.cell 7 _ rfl; have g0 := HC.out.res.free 0; have g1 := HC.out.res.free 1; have g2 := HC.out.res.free 2; have g3 := HC.out.res.free 3; have g4 := HC.out.res.free 4; have g5 := HC.out.res.free 5; have g6 := HC.out.res.free 6; have g7 := HC.out.res.free 7)
  all_goals (
    go_wp2
    refine bodyPost_ret (v := .tuple #[.agg (rlC ⟨r.m, S4.zero⟩).toArray, .slice A r.a.ints.length c, .int .i64 0]) (results_cee (fn := Tryd.f83) (p := 2) (t := 3) (u := 4) rfl _ _ _ rfl (HC.out.fired r.m) Tryd.underlying64 rfl info_roll) rfl ?_
    rw [HE.out]
    have ho := Only.res8 (w := w) (wc := w4) (.int .u64 (r.m.a.toNat : Int)) (.int .u64 (r.m.b.toNat : Int)) (.int .u64 (r.m.c.toNat : Int)) (.int .u64 (r.m.d.toNat : Int)) (.int .u64 0) (.int .u64 0) (.int .u64 0) (.int .u64 0)
    have hz := HC.out.res.lt
    have hz3 := HB.out.res.lt
    exact ⟨A, c, rfl, (HR.out.only ho (fun k hk hl => by have : (w3.drewN 1).heap.size = w3.heap.size := rfl; omega)).lo (fun b hb => by have : (w3.drewN 1).heap.size = w3.heap.size := rfl; omega), HC.out.up.trans (ho.toBelow HC.out.up.size (fun k hk => by omega))⟩)
end Go.Proofs.YtlfglibepldjpaaDoor
