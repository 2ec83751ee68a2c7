/- Package barrier: change, Enrol, Resign, Offer, Withdraw. -/
import Derived.Test.YtlfglibepldjpaaDoorBrb
namespace Go.Proofs.YtlfglibepldjpaaDoor
open Go.RowKit

set_option maxRecDepth 100000 in
set_option maxHeartbeats 4000000 in
theorem c_brchange_enrol (b : BR) (p : Int) (w : World) (hT : TabD w) :
    Calls Tryd.prog 71 #[.agg (brC b).toArray, .int .i64 p, .func (.func 81) #[] #[]] w fun e w' => e = .returned (.tuple #[.agg (brC (b.put (rlEnrol b.r p).1)).toArray, .int .i64 (rlEnrol b.r p).2]) ∧ Below w.heap.size w w' := by
  have hX := bx2_bar w (brC b) 66
  generalize hw1 : (w.alloc (.cells (brC b).toArray 66)).alloc (.cells #[.bool false, .int .i64 0, .int .u64 0, .int .u64 0, .int .u64 0, .int .u64 0, .int .u64 0, .int .u64 0, .int .u64 0, .int .u64 0, .int .i64 0] 66) = w1 at hX
  have HW := Lib.hid hw1
  have HX := Lib.hid hX
  have CR := Lib.hid (fun W (hW : Below w.heap.size w W) => c_rlenrol b.r p W (hT.up hW))
  generalize rlEnrol b.r p = Rx at CR ⊢
  obtain ⟨R, x⟩ := Rx
  simp only at CR ⊢
  clear hT hX hw1
  go_enter Tryd.func71, Tryd.ntmps71
  go_upto_region 1 with fail
  rw [HW.out]
  go_wp2_with (refine lmr (b := w.heap.size) (q := 2) (cs := rlC b.r) (.tmp 12) rfl rfl Tryd.underlying64 rfl info_roll rfl ?_ ?_; (· exact HX.out.box.part 2 8 rfl))
  refine (CR.out _ HX.out.up).mono ?_; rintro e w2 ⟨rfl, hb⟩
  have HA := Lib.hid (HX.out.next (up_trans hb (up_alloc w2 (.cells (rlC R).toArray 64))))
  have K := Lib.hid (Blk.new w2 (rlC R) 64)
  have HB := Lib.hid (HA.out.lay 2 (lay_br b R))
  clear hb
  go_wp2_with (first | (refine snr (W := w2) (cs := rlC R) (zs := rlZ) (t := 64) (.tmp 8) (.tmp 16) rfl rfl rfl rfl info_roll rfl rlC_one ?_ ?_ ?_; (· rfl); (· rfl)) | (refine ldr (b := w2.heap.size) (t := 64) (cs := rlC R) (.tmp 8) rfl rfl Tryd.underlying64 rfl info_roll rfl ?_ ?_; (· exact K.out)) | (refine smr (b := w.heap.size) (q := 2) (cs := rlC R) (.tmp 19) (.tmp 18) rfl rfl rfl rfl info_roll rlC_one ?_ ?_; (· exact HA.out.box.there 2 8 (Nat.le_add_right _ _))) | (refine ldr (b := w.heap.size) (t := 66) (cs := brC (b.put R)) (.tmp 3) rfl rfl Tryd.underlying66 rfl info_bar rfl ?_ ?_; (· exact HB.out.box)) | (refine str (b := w.heap.size + 1) (t := 66) (cs := brC (b.put R)) (ds := brZ) (.tmp 6) (.tmp 20) rfl rfl rfl rfl info_bar rfl brC_one ?_ ?_; (· exact HB.out.res)))
  refine bodyPost_ret (v := .tuple #[.agg (brC (b.put R)).toArray, .int .i64 (x)]) (results_ce (fn := Tryd.f71) (p := 6) (t := 7) rfl _ _ _ rfl (HB.out.res.row _) Tryd.underlying66 rfl info_bar) rfl ?_
  exact ⟨rfl, below_setRow HB.out.up (by omega) _⟩

set_option maxRecDepth 100000 in
set_option maxHeartbeats 4000000 in
theorem c_brchange_resign (b : BR) (p : Int) (w : World) (hT : TabD w) :
    Calls Tryd.prog 71 #[.agg (brC b).toArray, .int .i64 p, .func (.func 79) #[] #[]] w fun e w' => e = .returned (.tuple #[.agg (brC (b.put (rlResign b.r p).1)).toArray, .int .i64 (rlResign b.r p).2]) ∧ Below w.heap.size w w' := by
  have hX := bx2_bar w (brC b) 66
  generalize hw1 : (w.alloc (.cells (brC b).toArray 66)).alloc (.cells #[.bool false, .int .i64 0, .int .u64 0, .int .u64 0, .int .u64 0, .int .u64 0, .int .u64 0, .int .u64 0, .int .u64 0, .int .u64 0, .int .i64 0] 66) = w1 at hX
  have HW := Lib.hid hw1
  have HX := Lib.hid hX
  have CR := Lib.hid (fun W (hW : Below w.heap.size w W) => c_rlresign b.r p W (hT.up hW))
  generalize rlResign b.r p = Rx at CR ⊢
  obtain ⟨R, x⟩ := Rx
  simp only at CR ⊢
  clear hT hX hw1
  go_enter Tryd.func71, Tryd.ntmps71
  go_upto_region 1 with fail
  rw [HW.out]
  go_wp2_with (refine lmr (b := w.heap.size) (q := 2) (cs := rlC b.r) (.tmp 12) rfl rfl Tryd.underlying64 rfl info_roll rfl ?_ ?_; (· exact HX.out.box.part 2 8 rfl))
  refine (CR.out _ HX.out.up).mono ?_; rintro e w2 ⟨rfl, hb⟩
  have HA := Lib.hid (HX.out.next (up_trans hb (up_alloc w2 (.cells (rlC R).toArray 64))))
  have K := Lib.hid (Blk.new w2 (rlC R) 64)
  have HB := Lib.hid (HA.out.lay 2 (lay_br b R))
  clear hb
  go_wp2_with (first | (refine snr (W := w2) (cs := rlC R) (zs := rlZ) (t := 64) (.tmp 8) (.tmp 16) rfl rfl rfl rfl info_roll rfl rlC_one ?_ ?_ ?_; (· rfl); (· rfl)) | (refine ldr (b := w2.heap.size) (t := 64) (cs := rlC R) (.tmp 8) rfl rfl Tryd.underlying64 rfl info_roll rfl ?_ ?_; (· exact K.out)) | (refine smr (b := w.heap.size) (q := 2) (cs := rlC R) (.tmp 19) (.tmp 18) rfl rfl rfl rfl info_roll rlC_one ?_ ?_; (· exact HA.out.box.there 2 8 (Nat.le_add_right _ _))) | (refine ldr (b := w.heap.size) (t := 66) (cs := brC (b.put R)) (.tmp 3) rfl rfl Tryd.underlying66 rfl info_bar rfl ?_ ?_; (· exact HB.out.box)) | (refine str (b := w.heap.size + 1) (t := 66) (cs := brC (b.put R)) (ds := brZ) (.tmp 6) (.tmp 20) rfl rfl rfl rfl info_bar rfl brC_one ?_ ?_; (· exact HB.out.res)))
  refine bodyPost_ret (v := .tuple #[.agg (brC (b.put R)).toArray, .int .i64 (x)]) (results_ce (fn := Tryd.f71) (p := 6) (t := 7) rfl _ _ _ rfl (HB.out.res.row _) Tryd.underlying66 rfl info_bar) rfl ?_
  exact ⟨rfl, below_setRow HB.out.up (by omega) _⟩

set_option maxRecDepth 100000 in
set_option maxHeartbeats 4000000 in
theorem c_brchange_offer (b : BR) (p : Int) (w : World) (hT : TabD w) :
    Calls Tryd.prog 71 #[.agg (brC b).toArray, .int .i64 p, .func (.func 72) #[] #[]] w fun e w' => e = .returned (.tuple #[.agg (brC (b.put (rlOffer b.r p).1)).toArray, .int .i64 (rlOffer b.r p).2]) ∧ Below w.heap.size w w' := by
  have hX := bx2_bar w (brC b) 66
  generalize hw1 : (w.alloc (.cells (brC b).toArray 66)).alloc (.cells #[.bool false, .int .i64 0, .int .u64 0, .int .u64 0, .int .u64 0, .int .u64 0, .int .u64 0, .int .u64 0, .int .u64 0, .int .u64 0, .int .i64 0] 66) = w1 at hX
  have HW := Lib.hid hw1
  have HX := Lib.hid hX
  have CR := Lib.hid (fun W (hW : Below w.heap.size w W) => c_rloffer b.r p W (hT.up hW))
  generalize rlOffer b.r p = Rx at CR ⊢
  obtain ⟨R, x⟩ := Rx
  simp only at CR ⊢
  clear hT hX hw1
  go_enter Tryd.func71, Tryd.ntmps71
  go_upto_region 1 with fail
  rw [HW.out]
  go_wp2_with (refine lmr (b := w.heap.size) (q := 2) (cs := rlC b.r) (.tmp 12) rfl rfl Tryd.underlying64 rfl info_roll rfl ?_ ?_; (· exact HX.out.box.part 2 8 rfl))
  refine (CR.out _ HX.out.up).mono ?_; rintro e w2 ⟨rfl, hb⟩
  have HA := Lib.hid (HX.out.next (up_trans hb (up_alloc w2 (.cells (rlC R).toArray 64))))
  have K := Lib.hid (Blk.new w2 (rlC R) 64)
  have HB := Lib.hid (HA.out.lay 2 (lay_br b R))
  clear hb
  go_wp2_with (first | (refine snr (W := w2) (cs := rlC R) (zs := rlZ) (t := 64) (.tmp 8) (.tmp 16) rfl rfl rfl rfl info_roll rfl rlC_one ?_ ?_ ?_; (· rfl); (· rfl)) | (refine ldr (b := w2.heap.size) (t := 64) (cs := rlC R) (.tmp 8) rfl rfl Tryd.underlying64 rfl info_roll rfl ?_ ?_; (· exact K.out)) | (refine smr (b := w.heap.size) (q := 2) (cs := rlC R) (.tmp 19) (.tmp 18) rfl rfl rfl rfl info_roll rlC_one ?_ ?_; (· exact HA.out.box.there 2 8 (Nat.le_add_right _ _))) | (refine ldr (b := w.heap.size) (t := 66) (cs := brC (b.put R)) (.tmp 3) rfl rfl Tryd.underlying66 rfl info_bar rfl ?_ ?_; (· exact HB.out.box)) | (refine str (b := w.heap.size + 1) (t := 66) (cs := brC (b.put R)) (ds := brZ) (.tmp 6) (.tmp 20) rfl rfl rfl rfl info_bar rfl brC_one ?_ ?_; (· exact HB.out.res)))
  refine bodyPost_ret (v := .tuple #[.agg (brC (b.put R)).toArray, .int .i64 (x)]) (results_ce (fn := Tryd.f71) (p := 6) (t := 7) rfl _ _ _ rfl (HB.out.res.row _) Tryd.underlying66 rfl info_bar) rfl ?_
  exact ⟨rfl, below_setRow HB.out.up (by omega) _⟩

set_option maxRecDepth 100000 in
set_option maxHeartbeats 4000000 in
theorem c_brenrol (b : BR) (p : Int) (w : World) (hT : TabD w) :
    Calls Tryd.prog 53 #[.agg (brC b).toArray, .int .i64 p] w fun e w' => e = .returned (.tuple #[.agg (brC (brEnrol b p).1).toArray, .int .i64 (brEnrol b p).2]) ∧ Below w.heap.size w w' := by
  have hX := bx2_bar w (brC b) 66
  generalize hw1 : (w.alloc (.cells (brC b).toArray 66)).alloc (.cells #[.bool false, .int .i64 0, .int .u64 0, .int .u64 0, .int .u64 0, .int .u64 0, .int .u64 0, .int .u64 0, .int .u64 0, .int .u64 0, .int .i64 0] 66) = w1 at hX
  have HW := Lib.hid hw1
  have HX := Lib.hid hX
  have CF := Lib.hid (fun W (hW : Below w.heap.size w W) => c_brfine b W (hT.up hW))
  have CC := Lib.hid (fun W (hW : Below w.heap.size w W) => c_brchange_enrol b p W (hT.up hW))
  clear hT hX hw1
  cases hf : brFine b
  case false =>
    have HE : Hid (brEnrol b p = (b, 1)) := Lib.hid (if_pos hf)
    rw [hf] at CF
    clear hf CC
    go_enter Tryd.func53, Tryd.ntmps53
    go_upto_region 1 with fail
    rw [HW.out]
    go_wp2_with (refine ldr (b := w.heap.size) (t := 66) (cs := brC b) (.tmp 2) rfl rfl Tryd.underlying66 rfl info_bar rfl ?_ ?_; (· exact HX.out.box))
    refine (CF.out _ HX.out.up).mono ?_; rintro e w2 ⟨rfl, hb⟩
    have HA := Lib.hid (HX.out.next hb)
    clear hb
    go_wp2_with (first | (refine ldr (b := w.heap.size) (t := 66) (cs := brC b) (.tmp 2) rfl rfl Tryd.underlying66 rfl info_bar rfl ?_ ?_; (· exact HA.out.box)) | (refine str (b := w.heap.size + 1) (t := 66) (cs := brC b) (ds := brZ) (.tmp 4) (.tmp 9) rfl rfl rfl rfl info_bar rfl brC_one ?_ ?_; (· exact HA.out.res)))
    refine bodyPost_ret (v := .tuple #[.agg (brC b).toArray, .int .i64 (1)]) (results_ce (fn := Tryd.f53) (p := 4) (t := 5) rfl _ _ _ rfl (HA.out.res.row _) Tryd.underlying66 rfl info_bar) rfl ?_
    rw [HE.out]
    exact ⟨rfl, below_setRow HA.out.up (by omega) _⟩
  case true =>
    have HE : Hid (brEnrol b p = (b.put (rlEnrol b.r p).1, (rlEnrol b.r p).2)) := Lib.hid (if_neg (by rw [hf]; decide))
    rw [HE.out]
    generalize rlEnrol b.r p = Rx at CC ⊢
    obtain ⟨R, x⟩ := Rx
    simp only at CC ⊢
    rw [hf] at CF
    clear hf HE
    go_enter Tryd.func53, Tryd.ntmps53
    go_upto_region 1 with fail
    rw [HW.out]
    go_wp2_with (refine ldr (b := w.heap.size) (t := 66) (cs := brC b) (.tmp 2) rfl rfl Tryd.underlying66 rfl info_bar rfl ?_ ?_; (· exact HX.out.box))
    refine (CF.out _ HX.out.up).mono ?_; rintro e w2 ⟨rfl, hb⟩
    have HA := Lib.hid (HX.out.next hb)
    clear hb
    go_wp2_with (refine ldr (b := w.heap.size) (t := 66) (cs := brC b) (.tmp 2) rfl rfl Tryd.underlying66 rfl info_bar rfl ?_ ?_; (· exact HA.out.box))
    refine (CC.out _ HA.out.up).mono ?_; rintro e w3 ⟨rfl, hb⟩
    have HB := Lib.hid (HA.out.next hb)
    clear hb
    go_wp2_with (refine str (b := w.heap.size + 1) (t := 66) (cs := brC (b.put R)) (ds := brZ) (.tmp 4) (.tmp 13) rfl rfl rfl rfl info_bar rfl brC_one ?_ ?_; (· exact HB.out.res))
    refine bodyPost_ret (v := .tuple #[.agg (brC (b.put R)).toArray, .int .i64 (x)]) (results_ce (fn := Tryd.f53) (p := 4) (t := 5) rfl _ _ _ rfl (HB.out.res.row _) Tryd.underlying66 rfl info_bar) rfl ?_
    exact ⟨rfl, below_setRow HB.out.up (by omega) _⟩

set_option maxRecDepth 100000 in
set_option maxHeartbeats 4000000 in
theorem c_brresign (b : BR) (p : Int) (w : World) (hT : TabD w) :
    Calls Tryd.prog 49 #[.agg (brC b).toArray, .int .i64 p] w fun e w' => e = .returned (.tuple #[.agg (brC (brResign b p).1).toArray, .int .i64 (brResign b p).2]) ∧ Below w.heap.size w w' := by
  have hX := bx2_bar w (brC b) 66
  generalize hw1 : (w.alloc (.cells (brC b).toArray 66)).alloc (.cells #[.bool false, .int .i64 0, .int .u64 0, .int .u64 0, .int .u64 0, .int .u64 0, .int .u64 0, .int .u64 0, .int .u64 0, .int .u64 0, .int .i64 0] 66) = w1 at hX
  have HW := Lib.hid hw1
  have HX := Lib.hid hX
  have CF := Lib.hid (fun W (hW : Below w.heap.size w W) => c_brfine b W (hT.up hW))
  have CC := Lib.hid (fun W (hW : Below w.heap.size w W) => c_brchange_resign b p W (hT.up hW))
  clear hT hX hw1
  cases hf : brFine b
  case false =>
    have HE : Hid (brResign b p = (b, 1)) := Lib.hid (if_pos hf)
    rw [hf] at CF
    clear hf CC
    go_enter Tryd.func49, Tryd.ntmps49
    go_upto_region 1 with fail
    rw [HW.out]
    go_wp2_with (refine ldr (b := w.heap.size) (t := 66) (cs := brC b) (.tmp 2) rfl rfl Tryd.underlying66 rfl info_bar rfl ?_ ?_; (· exact HX.out.box))
    refine (CF.out _ HX.out.up).mono ?_; rintro e w2 ⟨rfl, hb⟩
    have HA := Lib.hid (HX.out.next hb)
    clear hb
    go_wp2_with (first | (refine ldr (b := w.heap.size) (t := 66) (cs := brC b) (.tmp 2) rfl rfl Tryd.underlying66 rfl info_bar rfl ?_ ?_; (· exact HA.out.box)) | (refine str (b := w.heap.size + 1) (t := 66) (cs := brC b) (ds := brZ) (.tmp 4) (.tmp 9) rfl rfl rfl rfl info_bar rfl brC_one ?_ ?_; (· exact HA.out.res)))
    refine bodyPost_ret (v := .tuple #[.agg (brC b).toArray, .int .i64 (1)]) (results_ce (fn := Tryd.f49) (p := 4) (t := 5) rfl _ _ _ rfl (HA.out.res.row _) Tryd.underlying66 rfl info_bar) rfl ?_
    rw [HE.out]
    exact ⟨rfl, below_setRow HA.out.up (by omega) _⟩
  case true =>
    have HE : Hid (brResign b p = (b.put (rlResign b.r p).1, (rlResign b.r p).2)) := Lib.hid (if_neg (by rw [hf]; decide))
    rw [HE.out]
    generalize rlResign b.r p = Rx at CC ⊢
    obtain ⟨R, x⟩ := Rx
    simp only at CC ⊢
    rw [hf] at CF
    clear hf HE
    go_enter Tryd.func49, Tryd.ntmps49
    go_upto_region 1 with fail
    rw [HW.out]
    go_wp2_with (refine ldr (b := w.heap.size) (t := 66) (cs := brC b) (.tmp 2) rfl rfl Tryd.underlying66 rfl info_bar rfl ?_ ?_; (· exact HX.out.box))
    refine (CF.out _ HX.out.up).mono ?_; rintro e w2 ⟨rfl, hb⟩
    have HA := Lib.hid (HX.out.next hb)
    clear hb
    go_wp2_with (refine ldr (b := w.heap.size) (t := 66) (cs := brC b) (.tmp 2) rfl rfl Tryd.underlying66 rfl info_bar rfl ?_ ?_; (· exact HA.out.box))
    refine (CC.out _ HA.out.up).mono ?_; rintro e w3 ⟨rfl, hb⟩
    have HB := Lib.hid (HA.out.next hb)
    clear hb
    go_wp2_with (refine str (b := w.heap.size + 1) (t := 66) (cs := brC (b.put R)) (ds := brZ) (.tmp 4) (.tmp 13) rfl rfl rfl rfl info_bar rfl brC_one ?_ ?_; (· exact HB.out.res))
    refine bodyPost_ret (v := .tuple #[.agg (brC (b.put R)).toArray, .int .i64 (x)]) (results_ce (fn := Tryd.f49) (p := 4) (t := 5) rfl _ _ _ rfl (HB.out.res.row _) Tryd.underlying66 rfl info_bar) rfl ?_
    exact ⟨rfl, below_setRow HB.out.up (by omega) _⟩

set_option maxRecDepth 100000 in
set_option maxHeartbeats 4000000 in
theorem c_broffer (b : BR) (p : Int) (alt : Bool) (w : World) (hT : TabD w) :
    Calls Tryd.prog 37 #[.agg (brC b).toArray, .int .i64 p, .bool alt] w fun e w' => e = .returned (.tuple #[.agg (brC (brOffer b p alt).1).toArray, .int .i64 (brOffer b p alt).2]) ∧ Below w.heap.size w w' := by
  have hX := bx2_bar w (brC b) 66
  generalize hw1 : (w.alloc (.cells (brC b).toArray 66)).alloc (.cells #[.bool false, .int .i64 0, .int .u64 0, .int .u64 0, .int .u64 0, .int .u64 0, .int .u64 0, .int .u64 0, .int .u64 0, .int .u64 0, .int .i64 0] 66) = w1 at hX
  have HW := Lib.hid hw1
  have HX := Lib.hid hX
  have CF := Lib.hid (fun W (hW : Below w.heap.size w W) => c_brfine b W (hT.up hW))
  have CC := Lib.hid (fun W (hW : Below w.heap.size w W) => c_brchange_offer b p W (hT.up hW))
  have CL := Lib.hid (fun W => c_phleft b.ph b.lim W)
  clear hT hX hw1
  cases hf : brFine b
  case false =>
    have HE : Hid (brOffer b p alt = (b, 1)) := Lib.hid (if_pos hf)
    rw [hf] at CF
    clear hf CC CL
    go_enter Tryd.func37, Tryd.ntmps37
    go_upto_region 1 with fail
    rw [HW.out]
    go_wp2_with (refine ldr (b := w.heap.size) (t := 66) (cs := brC b) (.tmp 3) rfl rfl Tryd.underlying66 rfl info_bar rfl ?_ ?_; (· exact HX.out.box))
    refine (CF.out _ HX.out.up).mono ?_; rintro e w2 ⟨rfl, hb⟩
    have HA := Lib.hid (HX.out.next hb)
    clear hb
    obtain ⟨al, lim, ph⟩ := HA.out.box.br
    go_wp2_with (first | (refine ldr (b := w.heap.size) (t := 66) (cs := brC b) (.tmp 3) rfl rfl Tryd.underlying66 rfl info_bar rfl ?_ ?_; (· exact HA.out.box)) | (refine str (b := w.heap.size + 1) (t := 66) (cs := brC b) (ds := brZ) (.tmp 6) (.tmp 12) rfl rfl rfl rfl info_bar rfl brC_one ?_ ?_; (· exact HA.out.res)))
    refine bodyPost_ret (v := .tuple #[.agg (brC b).toArray, .int .i64 (1)]) (results_ce (fn := Tryd.f37) (p := 6) (t := 7) rfl _ _ _ rfl (HA.out.res.row _) Tryd.underlying66 rfl info_bar) rfl ?_
    rw [HE.out]
    exact ⟨rfl, below_setRow HA.out.up (by omega) _⟩
  rw [hf] at CF
  have hp := ((brFine_iff b).1 hf).2
  by_cases ha : (alt && !b.al) = true
  case pos =>
    have HE : Hid (brOffer b p alt = (b, 12)) := Lib.hid (by unfold brOffer; rw [if_neg (by rw [hf]; decide), if_pos ha])
    obtain ⟨rfl, hal⟩ : alt = true ∧ b.al = false := by
      cases alt <;> cases hb : b.al <;> simp_all
    clear hf CC CL hp ha
    go_enter Tryd.func37, Tryd.ntmps37
    go_upto_region 1 with fail
    rw [HW.out]
    go_wp2_with (refine ldr (b := w.heap.size) (t := 66) (cs := brC b) (.tmp 3) rfl rfl Tryd.underlying66 rfl info_bar rfl ?_ ?_; (· exact HX.out.box))
    refine (CF.out _ HX.out.up).mono ?_; rintro e w2 ⟨rfl, hb⟩
    have HA := Lib.hid (HX.out.next hb)
    clear hb
    obtain ⟨al, lim, ph⟩ := HA.out.box.br
    rw [hal] at al
    go_wp2_with (first | (refine ldr (b := w.heap.size) (t := 66) (cs := brC b) (.tmp 3) rfl rfl Tryd.underlying66 rfl info_bar rfl ?_ ?_; (· exact HA.out.box)) | (refine str (b := w.heap.size + 1) (t := 66) (cs := brC b) (ds := brZ) (.tmp 6) (.tmp 21) rfl rfl rfl rfl info_bar rfl brC_one ?_ ?_; (· exact HA.out.res)))
    refine bodyPost_ret (v := .tuple #[.agg (brC b).toArray, .int .i64 (12)]) (results_ce (fn := Tryd.f37) (p := 6) (t := 7) rfl _ _ _ rfl (HA.out.res.row _) Tryd.underlying66 rfl info_bar) rfl ?_
    rw [HE.out]
    exact ⟨rfl, below_setRow HA.out.up (by omega) _⟩
  by_cases hl : b.ph = b.lim
  case pos =>
    have HE : Hid (brOffer b p alt = (b, 14)) := Lib.hid (by unfold brOffer; rw [if_neg (by rw [hf]; decide), if_neg ha, if_pos hl])
    have hz : phLeft b.ph b.lim = 0 := by rw [phLeft_of hp]; omega
    rw [hz] at CL
    clear hz
    rcases (by cases alt <;> cases hb : b.al <;> simp_all : alt = false ∨ (alt = true ∧ b.al = true)) with rfl | ⟨rfl, hal⟩
    · clear hf ha hl hp
      go_enter Tryd.func37, Tryd.ntmps37
      go_upto_region 1 with fail
      rw [HW.out]
      go_wp2_with (refine ldr (b := w.heap.size) (t := 66) (cs := brC b) (.tmp 3) rfl rfl Tryd.underlying66 rfl info_bar rfl ?_ ?_; (· exact HX.out.box))
      refine (CF.out _ HX.out.up).mono ?_; rintro e w2 ⟨rfl, hb⟩
      have HA := Lib.hid (HX.out.next hb)
      clear hb
      obtain ⟨al, lim, ph⟩ := HA.out.box.br
      go_wp2_with fail
      refine (CL.out _).mono ?_; rintro e w3x ⟨rfl, rfl⟩
      go_wp2_with (first | (refine ldr (b := w.heap.size) (t := 66) (cs := brC b) (.tmp 3) rfl rfl Tryd.underlying66 rfl info_bar rfl ?_ ?_; (· exact HA.out.box)) | (refine str (b := w.heap.size + 1) (t := 66) (cs := brC b) (ds := brZ) (.tmp 6) (.tmp 30) rfl rfl rfl rfl info_bar rfl brC_one ?_ ?_; (· exact HA.out.res)))
      refine bodyPost_ret (v := .tuple #[.agg (brC b).toArray, .int .i64 (14)]) (results_ce (fn := Tryd.f37) (p := 6) (t := 7) rfl _ _ _ rfl (HA.out.res.row _) Tryd.underlying66 rfl info_bar) rfl ?_
      rw [HE.out]
      exact ⟨rfl, below_setRow HA.out.up (by omega) _⟩
    · clear hf ha hl hp
      go_enter Tryd.func37, Tryd.ntmps37
      go_upto_region 1 with fail
      rw [HW.out]
      go_wp2_with (refine ldr (b := w.heap.size) (t := 66) (cs := brC b) (.tmp 3) rfl rfl Tryd.underlying66 rfl info_bar rfl ?_ ?_; (· exact HX.out.box))
      refine (CF.out _ HX.out.up).mono ?_; rintro e w2 ⟨rfl, hb⟩
      have HA := Lib.hid (HX.out.next hb)
      clear hb
      obtain ⟨al, lim, ph⟩ := HA.out.box.br
      rw [hal] at al
      go_wp2_with fail
      refine (CL.out _).mono ?_; rintro e w3x ⟨rfl, rfl⟩
      go_wp2_with (first | (refine ldr (b := w.heap.size) (t := 66) (cs := brC b) (.tmp 3) rfl rfl Tryd.underlying66 rfl info_bar rfl ?_ ?_; (· exact HA.out.box)) | (refine str (b := w.heap.size + 1) (t := 66) (cs := brC b) (ds := brZ) (.tmp 6) (.tmp 30) rfl rfl rfl rfl info_bar rfl brC_one ?_ ?_; (· exact HA.out.res)))
      refine bodyPost_ret (v := .tuple #[.agg (brC b).toArray, .int .i64 (14)]) (results_ce (fn := Tryd.f37) (p := 6) (t := 7) rfl _ _ _ rfl (HA.out.res.row _) Tryd.underlying66 rfl info_bar) rfl ?_
      rw [HE.out]
      exact ⟨rfl, below_setRow HA.out.up (by omega) _⟩
  case neg =>
    have HE : Hid (brOffer b p alt = (b.put (rlOffer b.r p).1, (rlOffer b.r p).2)) := Lib.hid (by unfold brOffer; rw [if_neg (by rw [hf]; decide), if_neg ha, if_neg hl])
    rw [HE.out]
    generalize rlOffer b.r p = Rx at CC ⊢
    obtain ⟨R, x⟩ := Rx
    simp only at CC ⊢
    obtain ⟨z, hz⟩ : ∃ z, phLeft b.ph b.lim = z := ⟨_, rfl⟩
    have hzn : (z == 0) = false := by
      rw [beq_eq_false_iff_ne, ← hz, phLeft_of hp]
      have := (phFine_iff _ _).1 hp
      omega
    rw [hz] at CL
    clear hz
    rcases (by cases alt <;> cases hb : b.al <;> simp_all : alt = false ∨ (alt = true ∧ b.al = true)) with rfl | ⟨rfl, hal⟩
    · clear hf ha hl hp
      go_enter Tryd.func37, Tryd.ntmps37
      go_upto_region 1 with fail
      rw [HW.out]
      go_wp2_with (refine ldr (b := w.heap.size) (t := 66) (cs := brC b) (.tmp 3) rfl rfl Tryd.underlying66 rfl info_bar rfl ?_ ?_; (· exact HX.out.box))
      refine (CF.out _ HX.out.up).mono ?_; rintro e w2 ⟨rfl, hb⟩
      have HA := Lib.hid (HX.out.next hb)
      clear hb
      obtain ⟨al, lim, ph⟩ := HA.out.box.br
      go_wp2_with fail
      refine (CL.out _).mono ?_; rintro e w3x ⟨rfl, rfl⟩
      go_wp2_with (refine ldr (b := w.heap.size) (t := 66) (cs := brC b) (.tmp 3) rfl rfl Tryd.underlying66 rfl info_bar rfl ?_ ?_; (· exact HA.out.box))
      refine (CC.out _ HA.out.up).mono ?_; rintro e w3 ⟨rfl, hb⟩
      have HB := Lib.hid (HA.out.next hb)
      clear hb
      go_wp2_with (refine str (b := w.heap.size + 1) (t := 66) (cs := brC (b.put R)) (ds := brZ) (.tmp 6) (.tmp 34) rfl rfl rfl rfl info_bar rfl brC_one ?_ ?_; (· exact HB.out.res))
      refine bodyPost_ret (v := .tuple #[.agg (brC (b.put R)).toArray, .int .i64 (x)]) (results_ce (fn := Tryd.f37) (p := 6) (t := 7) rfl _ _ _ rfl (HB.out.res.row _) Tryd.underlying66 rfl info_bar) rfl ?_
      exact ⟨rfl, below_setRow HB.out.up (by omega) _⟩
    · clear hf ha hl hp
      go_enter Tryd.func37, Tryd.ntmps37
      go_upto_region 1 with fail
      rw [HW.out]
      go_wp2_with (refine ldr (b := w.heap.size) (t := 66) (cs := brC b) (.tmp 3) rfl rfl Tryd.underlying66 rfl info_bar rfl ?_ ?_; (· exact HX.out.box))
      refine (CF.out _ HX.out.up).mono ?_; rintro e w2 ⟨rfl, hb⟩
      have HA := Lib.hid (HX.out.next hb)
      clear hb
      obtain ⟨al, lim, ph⟩ := HA.out.box.br
      rw [hal] at al
      go_wp2_with fail
      refine (CL.out _).mono ?_; rintro e w3x ⟨rfl, rfl⟩
      go_wp2_with (refine ldr (b := w.heap.size) (t := 66) (cs := brC b) (.tmp 3) rfl rfl Tryd.underlying66 rfl info_bar rfl ?_ ?_; (· exact HA.out.box))
      refine (CC.out _ HA.out.up).mono ?_; rintro e w3 ⟨rfl, hb⟩
      have HB := Lib.hid (HA.out.next hb)
      clear hb
      go_wp2_with (refine str (b := w.heap.size + 1) (t := 66) (cs := brC (b.put R)) (ds := brZ) (.tmp 6) (.tmp 34) rfl rfl rfl rfl info_bar rfl brC_one ?_ ?_; (· exact HB.out.res))
      refine bodyPost_ret (v := .tuple #[.agg (brC (b.put R)).toArray, .int .i64 (x)]) (results_ce (fn := Tryd.f37) (p := 6) (t := 7) rfl _ _ _ rfl (HB.out.res.row _) Tryd.underlying66 rfl info_bar) rfl ?_
      exact ⟨rfl, below_setRow HB.out.up (by omega) _⟩

set_option maxRecDepth 100000 in
set_option maxHeartbeats 4000000 in
theorem c_brwith (b : BR) (p : Int) (w : World) (hT : TabD w) :
    Calls Tryd.prog 46 #[.agg (brC b).toArray, .int .i64 p] w fun e w' => e = .returned (.agg (brC (brWith b p)).toArray) ∧ Below w.heap.size w w' := by
  have hX := bx2_bar w (brC b) 66
  generalize hw1 : (w.alloc (.cells (brC b).toArray 66)).alloc (.cells #[.bool false, .int .i64 0, .int .u64 0, .int .u64 0, .int .u64 0, .int .u64 0, .int .u64 0, .int .u64 0, .int .u64 0, .int .u64 0, .int .i64 0] 66) = w1 at hX
  have HW := Lib.hid hw1
  have HX := Lib.hid hX
  have CF := Lib.hid (fun W (hW : Below w.heap.size w W) => c_brfine b W (hT.up hW))
  have CR := Lib.hid (fun W (hW : Below w.heap.size w W) => c_rlwith b.r p W (hT.up hW))
  clear hT hX hw1
  cases hf : brFine b
  case false =>
    have HE : Hid (brWith b p = b) := Lib.hid (if_pos hf)
    rw [hf] at CF
    clear hf CR
    go_enter Tryd.func46, Tryd.ntmps46
    go_upto_region 1 with fail
    rw [HW.out]
    go_wp2_with (refine ldr (b := w.heap.size) (t := 66) (cs := brC b) (.tmp 2) rfl rfl Tryd.underlying66 rfl info_bar rfl ?_ ?_; (· exact HX.out.box))
    refine (CF.out _ HX.out.up).mono ?_; rintro e w2 ⟨rfl, hb⟩
    have HA := Lib.hid (HX.out.next hb)
    clear hb
    go_wp2_with (first | (refine ldr (b := w.heap.size) (t := 66) (cs := brC b) (.tmp 2) rfl rfl Tryd.underlying66 rfl info_bar rfl ?_ ?_; (· exact HA.out.box)) | (refine str (b := w.heap.size + 1) (t := 66) (cs := brC b) (ds := brZ) (.tmp 4) (.tmp 15) rfl rfl rfl rfl info_bar rfl brC_one ?_ ?_; (· exact HA.out.res)))
    refine bodyPost_ret (v := .agg (brC b).toArray) (results_c (fn := Tryd.f46) (p := 4) rfl _ _ _ rfl (HA.out.res.row _) Tryd.underlying66 rfl info_bar) rfl ?_
    rw [HE.out]
    exact ⟨rfl, below_setRow HA.out.up (by omega) _⟩
  case true =>
    have HE : Hid (brWith b p = b.put (rlWith b.r p).1) := Lib.hid (if_neg (by rw [hf]; decide))
    rw [HE.out]
    generalize rlWith b.r p = Rx at CR ⊢
    obtain ⟨R, x⟩ := Rx
    simp only at CR ⊢
    rw [hf] at CF
    clear hf HE
    go_enter Tryd.func46, Tryd.ntmps46
    go_upto_region 1 with fail
    rw [HW.out]
    go_wp2_with (refine ldr (b := w.heap.size) (t := 66) (cs := brC b) (.tmp 2) rfl rfl Tryd.underlying66 rfl info_bar rfl ?_ ?_; (· exact HX.out.box))
    refine (CF.out _ HX.out.up).mono ?_; rintro e w2 ⟨rfl, hb⟩
    have HA := Lib.hid (HX.out.next hb)
    clear hb
    go_wp2_with (refine lmr (b := w.heap.size) (q := 2) (cs := rlC b.r) (.tmp 8) rfl rfl Tryd.underlying64 rfl info_roll rfl ?_ ?_; (· exact HA.out.box.part 2 8 rfl))
    refine (CR.out _ HA.out.up).mono ?_; rintro e w3 ⟨rfl, hb⟩
    have HB := Lib.hid (HA.out.next hb)
    have HC := Lib.hid (HB.out.lay 2 (lay_br b R))
    clear hb
    go_wp2_with (first | (refine smr (b := w.heap.size) (q := 2) (cs := rlC R) (.tmp 14) (.tmp 12) rfl rfl rfl rfl info_roll rlC_one ?_ ?_; (· exact HB.out.box.there 2 8 (Nat.le_add_right _ _))) | (refine ldr (b := w.heap.size) (t := 66) (cs := brC (b.put R)) (.tmp 2) rfl rfl Tryd.underlying66 rfl info_bar rfl ?_ ?_; (· exact HC.out.box)) | (refine str (b := w.heap.size + 1) (t := 66) (cs := brC (b.put R)) (ds := brZ) (.tmp 4) (.tmp 15) rfl rfl rfl rfl info_bar rfl brC_one ?_ ?_; (· exact HC.out.res)))
    refine bodyPost_ret (v := .agg (brC (b.put R)).toArray) (results_c (fn := Tryd.f46) (p := 4) rfl _ _ _ rfl (HC.out.res.row _) Tryd.underlying66 rfl info_bar) rfl ?_
    exact ⟨rfl, below_setRow HC.out.up (by omega) _⟩
end Go.Proofs.YtlfglibepldjpaaDoor
