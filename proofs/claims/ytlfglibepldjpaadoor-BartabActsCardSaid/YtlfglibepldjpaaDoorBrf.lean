/- Package barrier: Fire, Ready. -/
import Derived.Test.YtlfglibepldjpaaDoorBreq
import Derived.Great.BuildSlice
namespace Go.Proofs.YtlfglibepldjpaaDoor
open Go.RowKit

/-- What Fire gives. -/
def BFPost (w : World) (x : BR × List Int × Int) (e : Ending) (w' : World) : Prop :=
  ∃ A c, e = .returned (.tuple #[.agg (brC x.1).toArray, .slice A x.2.1.length c, .int .i64 x.2.2]) ∧ RD w' (w.heap.size ≤ ·) 1 A x.2.1.length (x.2.1.map (Value.int .i64)) ∧ Below w.heap.size w w'
theorem built_bar (al : Bool) (l : Int) (R : RL) (y : Int) : Tryd.prog.built 66 [(0, .agg #[.bool al, .int .i64 l]), (1, .agg (rlC R).toArray), (2, .int .i64 y)] = some (brC ⟨al, l, R, y⟩).toArray := by kernel_rfl
theorem brReady_full {b : BR} (h : rlFull b.r = false) : brReady b = false := by unfold brReady; rw [h]; simp
theorem brReady_end {b : BR} (h : b.ph = b.lim) : brReady b = false := by unfold brReady; rw [h]; simp
theorem brReady_yes {b : BR} (h : brFine b = true) (h0 : rlFull b.r = true) (h1 : b.ph ≠ b.lim) : brReady b = true := by
  have := (phFine_iff _ _).1 ((brFine_iff b).1 h).2
  unfold brReady
  rw [h, h0, decide_eq_true (by omega)]
  rfl

set_option maxRecDepth 100000 in
set_option maxHeartbeats 1000000 in
theorem c_brfire (b : BR) (w : World) (hT : TabD w) :
    Calls Tryd.prog 57 #[.agg (brC b).toArray] w (BFPost w (brFire b)) := by
  have hX := bx2_bar w (brC b) 66
  generalize hw1 : (w.alloc (.cells (brC b).toArray 66)).alloc (.cells #[.bool false, .int .i64 0, .int .u64 0, .int .u64 0, .int .u64 0, .int .u64 0, .int .u64 0, .int .u64 0, .int .u64 0, .int .u64 0, .int .i64 0] 66) = w1 at hX
  have HW := Lib.hid hw1
  have HX := Lib.hid hX
  have CF := Lib.hid (fun W (hW : Below w.heap.size w W) => c_brfine b W (hT.up hW))
  have CR := Lib.hid (fun W (hW : Below w.heap.size w W) => c_rlfire b.r W (hT.up hW))
  have CP := Lib.hid (fun W => c_phnext b.ph b.lim W)
  clear hT hX hw1
  cases hf : brFine b
  case false =>
    have HE : Hid (brFire b = (b, [], 1)) := Lib.hid (if_pos hf)
    rw [hf] at CF
    clear hf CR CP
    go_enter Tryd.func57, Tryd.ntmps57
    go_upto_region 1 with fail
    rw [HW.out]
    go_wp2_with (refine ldr (b := w.heap.size) (t := 66) (cs := brC b) (.tmp 1) rfl rfl Tryd.underlying66 rfl info_bar rfl ?_ ?_; (· exact HX.out.box))
    refine (CF.out _ HX.out.up).mono ?_; rintro e w2 ⟨rfl, hb⟩
    have HA := Lib.hid (HX.out.next hb)
    clear hb
    go_wp2_with (first | (refine ldr (b := w.heap.size) (t := 66) (cs := brC b) (.tmp 1) rfl rfl Tryd.underlying66 rfl info_bar rfl ?_ ?_; (· exact HA.out.box)) | (refine str (b := w.heap.size + 1) (t := 66) (cs := brC b) (ds := brZ) (.tmp 2) (.tmp 13) rfl rfl rfl rfl info_bar rfl brC_one ?_ ?_; (· exact HA.out.res)))
    refine bodyPost_ret (v := .tuple #[.agg (brC b).toArray, .slice none 0 0, .int .i64 1]) (results_cee (fn := Tryd.f57) (p := 2) (t := 3) (u := 4) rfl _ _ _ rfl (HA.out.res.row _) Tryd.underlying66 rfl info_bar) rfl ?_
    rw [HE.out]
    exact ⟨none, 0, rfl, RD.nil _ _ _ _, below_setRow HA.out.up (by omega) _⟩
  rw [hf] at CF
  have hp := ((brFine_iff b).1 hf).2
  have hr := ((brFine_iff b).1 hf).1
  cases hu : rlFull b.r
  case false =>
    have HE : Hid (brFire b = (b, [], 13)) := Lib.hid (by unfold brFire; rw [if_neg (by rw [hf]; decide), if_pos (brReady_full hu)])
    rw [show rlFire b.r = (RL.zero, [], 13) by unfold rlFire; rw [if_neg (by rw [hr]; decide), if_pos hu]] at CR
    generalize phNext b.ph b.lim = y at CP
    generalize phErr b.ph b.lim = z at CP
    clear hf hp hr hu
    go_enter Tryd.func57, Tryd.ntmps57
    go_upto_region 1 with fail
    rw [HW.out]
    go_wp2_with (refine ldr (b := w.heap.size) (t := 66) (cs := brC b) (.tmp 1) rfl rfl Tryd.underlying66 rfl info_bar rfl ?_ ?_; (· exact HX.out.box))
    refine (CF.out _ HX.out.up).mono ?_; rintro e w2 ⟨rfl, hb⟩
    have HA := Lib.hid (HX.out.next hb)
    clear hb
    go_wp2_with (refine lmr (b := w.heap.size) (q := 2) (cs := rlC b.r) (.tmp 15) rfl rfl Tryd.underlying64 rfl info_roll rfl ?_ ?_; (· exact HA.out.box.part 2 8 rfl))
    refine (CR.out _ HA.out.up).mono ?_; rintro e w3 ⟨A, c, rfl, -, hb⟩
    have HB := Lib.hid (HA.out.next (up_trans hb (up_alloc w3 (.cells (rlC RL.zero).toArray 64))))
    clear hb
    obtain ⟨al, lim, ph⟩ := HB.out.box.br
    go_wp2_with (refine snr (W := w3) (cs := rlC RL.zero) (zs := rlZ) (t := 64) (.tmp 5) (.tmp 18) rfl rfl rfl rfl info_roll rfl rlC_one ?_ ?_ ?_; (· rfl); (· rfl))
    refine (CP.out _).mono ?_; rintro e w4 ⟨rfl, rfl⟩
    go_wp2_with (first | (refine ldr (b := w.heap.size) (t := 66) (cs := brC b) (.tmp 1) rfl rfl Tryd.underlying66 rfl info_bar rfl ?_ ?_; (· exact HB.out.box)) | (refine str (b := w.heap.size + 1) (t := 66) (cs := brC b) (ds := brZ) (.tmp 2) (.tmp 36) rfl rfl rfl rfl info_bar rfl brC_one ?_ ?_; (· exact HB.out.res)))
    refine bodyPost_ret (v := .tuple #[.agg (brC b).toArray, .slice none 0 0, .int .i64 13]) (results_cee (fn := Tryd.f57) (p := 2) (t := 3) (u := 4) rfl _ _ _ rfl (HB.out.res.row _) Tryd.underlying66 rfl info_bar) rfl ?_
    rw [HE.out]
    exact ⟨none, 0, rfl, RD.nil _ _ _ _, below_setRow HB.out.up (by omega) _⟩
  rw [show rlFire b.r = (⟨b.r.m, S4.zero⟩, b.r.a.ints, 0) by unfold rlFire; rw [if_neg (by rw [hr]; decide), if_neg (by rw [hu]; decide)]] at CR
  by_cases hl : b.ph = b.lim
  case pos =>
    have HE : Hid (brFire b = (b, [], 13)) := Lib.hid (by unfold brFire; rw [if_neg (by rw [hf]; decide), if_pos (brReady_end hl)])
    rw [phErr_end hp hl] at CP
    generalize phNext b.ph b.lim = y at CP
    clear hf hp hr hu hl
    go_enter Tryd.func57, Tryd.ntmps57
    go_upto_region 1 with fail
    rw [HW.out]
    go_wp2_with (refine ldr (b := w.heap.size) (t := 66) (cs := brC b) (.tmp 1) rfl rfl Tryd.underlying66 rfl info_bar rfl ?_ ?_; (· exact HX.out.box))
    refine (CF.out _ HX.out.up).mono ?_; rintro e w2 ⟨rfl, hb⟩
    have HA := Lib.hid (HX.out.next hb)
    clear hb
    go_wp2_with (refine lmr (b := w.heap.size) (q := 2) (cs := rlC b.r) (.tmp 15) rfl rfl Tryd.underlying64 rfl info_roll rfl ?_ ?_; (· exact HA.out.box.part 2 8 rfl))
    refine (CR.out _ HA.out.up).mono ?_; rintro e w3 ⟨A, c, rfl, -, hb⟩
    have HB := Lib.hid (HA.out.next (up_trans hb (up_alloc w3 (.cells (rlC ⟨b.r.m, S4.zero⟩).toArray 64))))
    clear hb
    obtain ⟨al, lim, ph⟩ := HB.out.box.br
    go_wp2_with (refine snr (W := w3) (cs := rlC ⟨b.r.m, S4.zero⟩) (zs := rlZ) (t := 64) (.tmp 5) (.tmp 18) rfl rfl rfl rfl info_roll rfl rlC_one ?_ ?_ ?_; (· rfl); (· rfl))
    refine (CP.out _).mono ?_; rintro e w4 ⟨rfl, rfl⟩
    go_wp2_with (first | (refine ldr (b := w.heap.size) (t := 66) (cs := brC b) (.tmp 1) rfl rfl Tryd.underlying66 rfl info_bar rfl ?_ ?_; (· exact HB.out.box)) | (refine str (b := w.heap.size + 1) (t := 66) (cs := brC b) (ds := brZ) (.tmp 2) (.tmp 36) rfl rfl rfl rfl info_bar rfl brC_one ?_ ?_; (· exact HB.out.res)))
    refine bodyPost_ret (v := .tuple #[.agg (brC b).toArray, .slice none 0 0, .int .i64 13]) (results_cee (fn := Tryd.f57) (p := 2) (t := 3) (u := 4) rfl _ _ _ rfl (HB.out.res.row _) Tryd.underlying66 rfl info_bar) rfl ?_
    rw [HE.out]
    exact ⟨none, 0, rfl, RD.nil _ _ _ _, below_setRow HB.out.up (by omega) _⟩
  have HE : Hid (brFire b = (⟨b.al, b.lim, ⟨b.r.m, S4.zero⟩, b.ph + 1⟩, b.r.a.ints, 0)) := Lib.hid (by unfold brFire; rw [if_neg (by rw [hf]; decide), if_neg (by rw [brReady_yes hf hu hl]; decide)])
  rw [phErr_on hp hl, phNext_on hp hl] at CP
  clear hf hp hr hu hl
  rw [HE.out]
  generalize b.ph + 1 = y at CP ⊢
  generalize (⟨b.r.m, S4.zero⟩ : RL) = R at CR ⊢
  generalize b.r.a.ints = L at CR ⊢
  have HBD := Lib.hid (built_bar b.al b.lim R y)
  go_enter Tryd.func57, Tryd.ntmps57
  go_upto_region 1 with fail
  rw [HW.out]
  go_wp2_with (refine ldr (b := w.heap.size) (t := 66) (cs := brC b) (.tmp 1) rfl rfl Tryd.underlying66 rfl info_bar rfl ?_ ?_; (· exact HX.out.box))
  refine (CF.out _ HX.out.up).mono ?_; rintro e w2 ⟨rfl, hb⟩
  have HA := Lib.hid (HX.out.next hb)
  clear hb
  go_wp2_with (refine lmr (b := w.heap.size) (q := 2) (cs := rlC b.r) (.tmp 15) rfl rfl Tryd.underlying64 rfl info_roll rfl ?_ ?_; (· exact HA.out.box.part 2 8 rfl))
  refine (CR.out _ HA.out.up).mono ?_; rintro e w3 ⟨A, c, rfl, hR, hb⟩
  have hq := up_alloc w3 (.cells (rlC R).toArray 64)
  have HB := Lib.hid (HA.out.next (up_trans hb hq))
  have K := Lib.hid (Blk.new w3 (rlC R) 64)
  have HR := Lib.hid (hR.below hq)
  clear hb hq hR
  obtain ⟨al, lim, ph⟩ := HB.out.box.br
  go_wp2_with (refine snr (W := w3) (cs := rlC R) (zs := rlZ) (t := 64) (.tmp 5) (.tmp 18) rfl rfl rfl rfl info_roll rfl rlC_one ?_ ?_ ?_; (· rfl); (· rfl))
  refine (CP.out _).mono ?_; rintro e w4 ⟨rfl, rfl⟩
  go_wp2_with (first | (refine ldr (b := w3.heap.size) (t := 64) (cs := rlC R) (.tmp 5) rfl rfl Tryd.underlying64 rfl info_roll rfl ?_ ?_; (· exact K.out)) | (refine wpList_buildTo rfl 66 _ rfl (some 41) rfl (brC ⟨b.al, b.lim, R, y⟩).toArray ?_ ?_; (· simpa [Act.eval] using HBD.out)) | (refine str (b := w.heap.size + 1) (t := 66) (cs := brC ⟨b.al, b.lim, R, y⟩) (ds := brZ) (.tmp 2) (.tmp 41) rfl rfl rfl rfl info_bar rfl brC_one ?_ ?_; (· exact HB.out.res)))
  refine bodyPost_ret (v := .tuple #[.agg (brC ⟨b.al, b.lim, R, y⟩).toArray, .slice A L.length c, .int .i64 0]) (results_cee (fn := Tryd.f57) (p := 2) (t := 3) (u := 4) rfl _ _ _ rfl (HB.out.res.row _) Tryd.underlying66 rfl info_bar) rfl ?_
  have ho := (Only.refl (· = w.heap.size + 1) (w3.alloc (.cells (rlC R).toArray 64))).row rfl (brC ⟨b.al, b.lim, R, y⟩).toArray
  have hz := HA.out.res.lt
  exact ⟨A, c, rfl, (HR.out.only ho (fun k hk hl => by omega)).lo (fun b hb => by omega), below_setRow HB.out.up (by omega) _⟩

theorem ready_fire (b : BR) : brReady b = !brEq (brFire b).1 b := by
  cases hf : brFine b
  · rw [show brFire b = (b, [], 1) from if_pos hf]
    unfold brReady
    rw [hf, brEq_refl]
    rfl
  · cases hr : brReady b
    · rw [show brFire b = (b, [], 13) by unfold brFire; rw [if_neg (by rw [hf]; decide), if_pos hr]]
      rw [brEq_refl]
      rfl
    · rw [show brFire b = (⟨b.al, b.lim, ⟨b.r.m, S4.zero⟩, b.ph + 1⟩, b.r.a.ints, 0) by unfold brFire; rw [if_neg (by rw [hf]; decide), if_neg (by rw [hr]; decide)]]
      rw [brEq_ph (show b.ph + 1 ≠ b.ph by omega)]
      rfl

set_option maxRecDepth 100000 in
set_option maxHeartbeats 1000000 in
theorem c_brready (b : BR) (w : World) (hT : TabD w) :
    Calls Tryd.prog 59 #[.agg (brC b).toArray] w fun e w' => e = .returned (.bool (brReady b)) ∧ Below w.heap.size w w' := by
  have hX := bx1 w (brC b) 66
  generalize hw1 : w.alloc (.cells (brC b).toArray 66) = w1 at hX
  have HW := Lib.hid hw1
  have HX := Lib.hid hX
  have CR := Lib.hid (fun W (hW : Below w.heap.size w W) => c_brfire b W (hT.up hW))
  rw [ready_fire]
  generalize brFire b = F at CR ⊢
  obtain ⟨F, L, x⟩ := F
  have hq := run_eqB F b
  generalize brEq F b = q at hq ⊢
  clear hT hX hw1
  go_enter Tryd.func59, Tryd.ntmps59
  go_upto_region 1 with fail
  rw [HW.out]
  go_wp2_with (refine ldr (b := w.heap.size) (t := 66) (cs := brC b) (.tmp 1) rfl rfl Tryd.underlying66 rfl info_bar rfl ?_ ?_; (· exact HX.out.box))
  refine (CR.out _ HX.out.up).mono ?_; rintro e w2 ⟨A, c, rfl, -, hb⟩
  have HB := Lib.hid (HX.out.next (up_trans hb (up_alloc w2 (.cells (brC F).toArray 66))))
  have K := Lib.hid (Blk.new w2 (brC F) 66)
  clear hb
  cases q
  all_goals
    go_wp2_with (first | (refine snr (W := w2) (cs := brC F) (zs := brZ) (t := 66) (.tmp 3) (.tmp 9) rfl rfl rfl rfl info_bar rfl brC_one ?_ ?_ ?_; (· rfl); (· rfl)) | (refine ldr (b := w2.heap.size) (t := 66) (cs := brC F) (.tmp 3) rfl rfl Tryd.underlying66 rfl info_bar rfl ?_ ?_; (· exact K.out)) | (refine ldr (b := w.heap.size) (t := 66) (cs := brC b) (.tmp 1) rfl rfl Tryd.underlying66 rfl info_bar rfl ?_ ?_; (· exact HB.out.box)) | rw [hq])
    go_ret
    exact ⟨rfl, HB.out.up⟩
end Go.Proofs.YtlfglibepldjpaaDoor
