/- The document's Ready and Fire (layer 22). -/
import Derived.Test.YtlfglibepldjpaaDoorBrd
import Derived.Test.YtlfglibepldjpaaDoorBrf
namespace Go.Proofs.YtlfglibepldjpaaDoor
open Go.RowKit

set_option maxRecDepth 100000 in
set_option maxHeartbeats 2000000 in
theorem c_vready {pl : Nat → Prop} {b : BR} {M : DM} {w : World} (h : DW w pl b.r M) :
    Calls Tryd.prog 60 #[.agg (dbC b M).toArray] w fun e w' => e = .returned (.bool (brReady b)) ∧ Below w.heap.size w w' := by
  have hX := bx1 w (dbC b M) 73
  generalize hw1 : w.alloc (.cells (dbC b M).toArray 73) = w1 at hX
  have HW := Lib.hid hw1
  have HX := Lib.hid hX
  have CF := Lib.hid (fun W (hW : Below w.heap.size w W) => c_vfine (h.below hW))
  have CU := Lib.hid (fun W (hW : Below w.heap.size w W) => c_dfull (h.below hW))
  clear h hX hw1
  obtain ⟨q1, hq1⟩ : ∃ q1, brFine b = q1 := ⟨_, rfl⟩
  obtain ⟨q2, hq2⟩ : ∃ q2, rlFull b.r = q2 := ⟨_, rfl⟩
  have HE : Hid (brReady b = (q1 && q2 && decide (b.ph < b.lim))) := Lib.hid (by unfold brReady; rw [hq1, hq2])
  rw [hq1] at CF
  rw [hq2] at CU
  rw [HE.out]
  clear hq1 hq2 HE
  cases q1
  case false =>
    go_enter Tryd.func60, Tryd.ntmps60
    go_upto_region 1 with fail
    rw [HW.out]
    go_wp2_with (refine ldr (b := w.heap.size) (t := 73) (cs := dbC b M) (.tmp 1) rfl rfl Tryd.underlying73 rfl info_db rfl ?_ ?_; (· exact HX.out.box))
    refine (CF.out _ HX.out.up).mono ?_; rintro e w2 ⟨rfl, hb⟩
    have HA := Lib.hid (HX.out.next hb)
    clear hb
    go_wp2
    go_ret
    exact ⟨ret_bool (by simp), HA.out.up⟩
  case true =>
    cases q2
    case false =>
      go_enter Tryd.func60, Tryd.ntmps60
      go_upto_region 1 with fail
      rw [HW.out]
      go_wp2_with (refine ldr (b := w.heap.size) (t := 73) (cs := dbC b M) (.tmp 1) rfl rfl Tryd.underlying73 rfl info_db rfl ?_ ?_; (· exact HX.out.box))
      refine (CF.out _ HX.out.up).mono ?_; rintro e w2 ⟨rfl, hb⟩
      have HA := Lib.hid (HX.out.next hb)
      clear hb
      go_wp2_with (refine lmr (b := w.heap.size) (q := 2) (cs := dlC b.r M) (.tmp 6) rfl rfl Tryd.underlying71 rfl info_dl rfl ?_ ?_; (· exact HA.out.box.part 2 2 rfl))
      refine (CU.out _ HA.out.up).mono ?_; rintro e w3 ⟨rfl, hb⟩
      have HB := Lib.hid (HA.out.next hb)
      clear hb
      obtain ⟨al, lim, ph⟩ := HB.out.box.db
      go_wp2
      go_ret
      exact ⟨ret_bool (by simp), HB.out.up⟩
    case true =>
      go_enter Tryd.func60, Tryd.ntmps60
      go_upto_region 1 with fail
      rw [HW.out]
      go_wp2_with (refine ldr (b := w.heap.size) (t := 73) (cs := dbC b M) (.tmp 1) rfl rfl Tryd.underlying73 rfl info_db rfl ?_ ?_; (· exact HX.out.box))
      refine (CF.out _ HX.out.up).mono ?_; rintro e w2 ⟨rfl, hb⟩
      have HA := Lib.hid (HX.out.next hb)
      clear hb
      go_wp2_with (refine lmr (b := w.heap.size) (q := 2) (cs := dlC b.r M) (.tmp 6) rfl rfl Tryd.underlying71 rfl info_dl rfl ?_ ?_; (· exact HA.out.box.part 2 2 rfl))
      refine (CU.out _ HA.out.up).mono ?_; rintro e w3 ⟨rfl, hb⟩
      have HB := Lib.hid (HA.out.next hb)
      clear hb
      obtain ⟨al, lim, ph⟩ := HB.out.box.db
      go_wp2
      go_ret
      exact ⟨ret_bool (by simp), HB.out.up⟩

/-- What Fire gives. -/
def EFPost (pl : Nat → Prop) (w : World) (x : BR × List Int × Int) (e : Ending) (w' : World) : Prop :=
  ∃ M B d, e = .returned (.tuple #[.agg (dbC x.1 M).toArray, .slice B x.2.1.length d, .int .i64 x.2.2]) ∧ DW w' (plN pl w) x.1.r M ∧ RD w' (plN pl w) 1 B x.2.1.length (x.2.1.map (Value.int .i64)) ∧ Below w.heap.size w w'

set_option maxRecDepth 100000 in
set_option maxHeartbeats 2000000 in
theorem c_vfire {pl : Nat → Prop} {b : BR} {M : DM} {w : World} (h : DW w pl b.r M) :
    Calls Tryd.prog 58 #[.agg (dbC b M).toArray] w (EFPost pl w (brFire b)) := by
  have hX := ebx h
  generalize hw1 : (w.alloc (.cells (dbC b M).toArray 73)).alloc (.cells #[.bool false, .int .i64 0, .slice none 0 0, .slice none 0 0, .int .i64 0] 73) = w1 at hX
  have HW := Lib.hid hw1
  have HX := Lib.hid hX
  have CF := Lib.hid (fun W (hW : EBx pl w W b M) => c_vfine hW.dw)
  have CG := Lib.hid (fun W (hW : EBx pl w W b M) => c_vready hW.dw)
  clear h hX hw1
  cases hf : brFine b
  case false =>
    have HE : Hid (brFire b = (b, [], 1)) := Lib.hid (if_pos hf)
    rw [hf] at CF
    clear hf CG
    go_enter Tryd.func58, Tryd.ntmps58
    go_upto_region 1 with fail
    rw [HW.out]
    go_wp2_with (refine ldr (b := w.heap.size) (t := 73) (cs := dbC b M) (.tmp 1) rfl rfl Tryd.underlying73 rfl info_db rfl ?_ ?_; (· exact HX.out.box))
    refine (CF.out _ HX.out).mono ?_; rintro e w2 ⟨rfl, hb⟩
    have HA := Lib.hid (HX.out.next hb)
    clear hb
    go_wp2_with (first | (refine ldr (b := w.heap.size) (t := 73) (cs := dbC b M) (.tmp 1) rfl rfl Tryd.underlying73 rfl info_db rfl ?_ ?_; (· exact HA.out.box)) | (refine str (b := w.heap.size + 1) (t := 73) (cs := dbC b M) (ds := dbZ) (.tmp 2) (.tmp 11) rfl rfl rfl rfl info_db rfl dbC_one ?_ ?_; (· exact HA.out.res)))
    refine bodyPost_ret (v := .tuple #[.agg (dbC b M).toArray, .slice none 0 0, .int .i64 1]) (results_cee (fn := Tryd.f58) (p := 2) (t := 3) (u := 4) rfl _ _ _ rfl (HA.out.res.row _) Tryd.underlying73 rfl info_db) rfl ?_
    rw [HE.out]
    have hfin := HA.out.fin (dbC b M).toArray
    exact ⟨M, none, 0, rfl, hfin.1, RD.nil _ _ _ _, hfin.2⟩
  rw [hf] at CF
  cases hu : brReady b
  case false =>
    have HE : Hid (brFire b = (b, [], 13)) := Lib.hid (by unfold brFire; rw [if_neg (by rw [hf]; decide), if_pos hu])
    rw [hu] at CG
    clear hf hu
    go_enter Tryd.func58, Tryd.ntmps58
    go_upto_region 1 with fail
    rw [HW.out]
    go_wp2_with (refine ldr (b := w.heap.size) (t := 73) (cs := dbC b M) (.tmp 1) rfl rfl Tryd.underlying73 rfl info_db rfl ?_ ?_; (· exact HX.out.box))
    refine (CF.out _ HX.out).mono ?_; rintro e w2 ⟨rfl, hb⟩
    have HA := Lib.hid (HX.out.next hb)
    clear hb
    go_wp2_with (refine ldr (b := w.heap.size) (t := 73) (cs := dbC b M) (.tmp 1) rfl rfl Tryd.underlying73 rfl info_db rfl ?_ ?_; (· exact HA.out.box))
    refine (CG.out _ HA.out).mono ?_; rintro e w3 ⟨rfl, hb⟩
    have HB := Lib.hid (HA.out.next hb)
    clear hb
    go_wp2_with (first | (refine ldr (b := w.heap.size) (t := 73) (cs := dbC b M) (.tmp 1) rfl rfl Tryd.underlying73 rfl info_db rfl ?_ ?_; (· exact HB.out.box)) | (refine str (b := w.heap.size + 1) (t := 73) (cs := dbC b M) (ds := dbZ) (.tmp 2) (.tmp 15) rfl rfl rfl rfl info_db rfl dbC_one ?_ ?_; (· exact HB.out.res)))
    refine bodyPost_ret (v := .tuple #[.agg (dbC b M).toArray, .slice none 0 0, .int .i64 13]) (results_cee (fn := Tryd.f58) (p := 2) (t := 3) (u := 4) rfl _ _ _ rfl (HB.out.res.row _) Tryd.underlying73 rfl info_db) rfl ?_
    rw [HE.out]
    have hfin := HB.out.fin (dbC b M).toArray
    exact ⟨M, none, 0, rfl, hfin.1, RD.nil _ _ _ _, hfin.2⟩
  have HE : Hid (brFire b = (⟨b.al, b.lim, ⟨b.r.m, S4.zero⟩, b.ph + 1⟩, b.r.a.ints, 0)) := Lib.hid (by unfold brFire; rw [if_neg (by rw [hf]; decide), if_neg (by rw [hu]; decide)])
  rw [hu] at CG
  have hrf := ((brFine_iff b).1 hf).1
  have hfu : rlFull b.r = true := by
    cases k : rlFull b.r
    · rw [brReady_full k] at hu
      cases hu
    · rfl
  have CR := Lib.hid (fun W (hW : EBx pl w W b M) => c_dfire hW.dw hrf hfu)
  have hp0 : -1 ≤ b.ph := by have := ((phFine_iff _ _).1 ((brFine_iff b).1 hf).2); omega
  have hp1 : b.ph ≤ 65535 := by have := ((phFine_iff _ _).1 ((brFine_iff b).1 hf).2); omega
  clear hf hu hrf hfu
  go_enter Tryd.func58, Tryd.ntmps58
  go_upto_region 1 with fail
  rw [HW.out]
  go_wp2_with (refine ldr (b := w.heap.size) (t := 73) (cs := dbC b M) (.tmp 1) rfl rfl Tryd.underlying73 rfl info_db rfl ?_ ?_; (· exact HX.out.box))
  refine (CF.out _ HX.out).mono ?_; rintro e w2 ⟨rfl, hb⟩
  have HA := Lib.hid (HX.out.next hb)
  clear hb
  go_wp2_with (refine ldr (b := w.heap.size) (t := 73) (cs := dbC b M) (.tmp 1) rfl rfl Tryd.underlying73 rfl info_db rfl ?_ ?_; (· exact HA.out.box))
  refine (CG.out _ HA.out).mono ?_; rintro e w3 ⟨rfl, hb⟩
  have HB := Lib.hid (HA.out.next hb)
  clear hb
  go_wp2_with (refine lmr (b := w.heap.size) (q := 2) (cs := dlC b.r M) (.tmp 17) rfl rfl Tryd.underlying71 rfl info_dl rfl ?_ ?_; (· exact HB.out.box.part 2 2 rfl))
  refine (CR.out _ HB.out).mono ?_; rintro e w4 ⟨N, B, d, rfl, hd, hL, hb⟩
  obtain ⟨R, hR⟩ : ∃ R : RL, (⟨b.r.m, S4.zero⟩ : RL) = R := ⟨_, rfl⟩
  rw [hR] at hd ⊢
  have hq := up_alloc w4 (.cells (dlC R N).toArray 71)
  have HC := Lib.hid (HB.out.next (up_trans hb hq))
  have K := Lib.hid (Blk.new w4 (dlC R N) 71)
  have HD := Lib.hid (HC.out.lay ((hd.below hq).lo (pl2_of HB.out.big)))
  have ho1 : Only (two2 w) (w4.alloc (.cells (dlC R N).toArray 71)) ((w4.alloc (.cells (dlC R N).toArray 71)).setCells w.heap.size 2 (dlC R N)) := (only_cells (dlC R N) 2 _).mono fun k _ hk => .inl hk
  have HL := Lib.hid (((hL.below hq).lo (pl2_of HB.out.big)).only ho1 pl2_no)
  have HE2 := Lib.hid (HD.out.setPh (b.ph + 1))
  have HR := Lib.hid hR
  clear hb hq hd hL hR ho1
  obtain ⟨al, lim, ph⟩ := HD.out.box.db
  change _ = some (Value.int .i64 b.ph) at ph
  have fr := HD.out.box.free 4
  go_wp2_with (first | (refine snr (W := w4) (cs := dlC R N) (zs := dlZ) (t := 71) (.tmp 5) (.tmp 20) rfl rfl rfl rfl info_dl rfl dlC_one ?_ ?_ ?_; (· rfl); (· rfl)) | (refine ldr (b := w4.heap.size) (t := 71) (cs := dlC R N) (.tmp 5) rfl rfl Tryd.underlying71 rfl info_dl rfl ?_ ?_; (· exact K.out)) | (refine smr (b := w.heap.size) (q := 2) (cs := dlC R N) (.tmp 24) (.tmp 23) rfl rfl rfl rfl info_dl dlC_one ?_ ?_; (· exact HC.out.box.there 2 2 (Nat.le_add_right _ _))) | (refine ldr (b := w.heap.size) (t := 73) (cs := dbC ⟨b.al, b.lim, R, b.ph + 1⟩ N) (.tmp 1) rfl rfl Tryd.underlying73 rfl info_db rfl ?_ ?_; (· exact HE2.out.box)) | (refine str (b := w.heap.size + 1) (t := 73) (cs := dbC ⟨b.al, b.lim, R, b.ph + 1⟩ N) (ds := dbZ) (.tmp 2) (.tmp 29) rfl rfl rfl rfl info_db rfl dbC_one ?_ ?_; (· exact HE2.out.res)))
  refine bodyPost_ret (v := .tuple #[.agg (dbC ⟨b.al, b.lim, R, b.ph + 1⟩ N).toArray, .slice B b.r.a.ints.length d, .int .i64 0]) (results_cee (fn := Tryd.f58) (p := 2) (t := 3) (u := 4) rfl _ _ _ rfl (HE2.out.res.row _) Tryd.underlying73 rfl info_db) rfl ?_
  rw [HE.out, HR.out]
  have hfin := HE2.out.fin (dbC ⟨b.al, b.lim, R, b.ph + 1⟩ N).toArray
  exact ⟨N, B, d, rfl, hfin.1, ((HL.out.only ((Only.refl (two2 w) _).box2 4 _) pl2_no).only ((Only.refl (two2 w) _).row (.inr rfl) _) pl2_no).lo (fun _ hb => hb.1), hfin.2⟩
end Go.Proofs.YtlfglibepldjpaaDoor
