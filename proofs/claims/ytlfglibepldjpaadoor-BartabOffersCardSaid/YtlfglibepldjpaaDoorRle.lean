/- The document's Enrol, Resign, Offer, Withdraw (layer 21), of rolls whose lists are sets' lists. -/
import Derived.Test.YtlfglibepldjpaaDoorRld
namespace Go.Proofs.YtlfglibepldjpaaDoor
open Go.RowKit

set_option maxRecDepth 100000 in
set_option maxHeartbeats 4000000 in
theorem c_denrolP {pl : Nat → Prop} {r : RL} {M : DM} {w : World} (h : DW w pl r M) (p : Int) :
    Calls Tryd.prog 82 #[.agg (dlC r M).toArray, .int .i64 p] w (DPostP pl w (rlEnrol r p).1 (.int .i64 (rlEnrol r p).2)) := by
  have hX := dbx h
  generalize hw1 : (w.alloc (.cells (dlC r M).toArray 71)).alloc (.cells #[.slice none 0 0, .slice none 0 0] 71) = w1 at hX
  have HW := Lib.hid hw1
  have HX := Lib.hid hX
  have CK := Lib.hid (fun W (hW : Below w.heap.size w W) => c_dasked (h.below hW) p)
  clear h hX hw1
  obtain ⟨x, hx⟩ : ∃ x, rlErr r p = x := ⟨_, rfl⟩
  rw [hx] at CK
  by_cases h0 : x = 0
  case neg =>
    have HE : Hid (rlEnrol r p = (⟨r.m, r.a⟩, x)) := Lib.hid (by unfold rlEnrol; rw [if_pos (by rw [hx]; exact h0), hx])
    have hx1 : (x != 0) = true := by simp [bne, h0]
    clear hx h0
    go_enter Tryd.func82, Tryd.ntmps82
    go_upto_region 1 with fail
    rw [HW.out]
    go_wp2_with (refine ldr (b := w.heap.size) (t := 71) (cs := dlC r M) (.tmp 2) rfl rfl Tryd.underlying71 rfl info_dl rfl ?_ ?_; (· exact HX.out.box))
    refine (CK.out _ HX.out.up).mono ?_; rintro e w3 ⟨rfl, hb⟩
    have H2 := Lib.hid (HX.out.next hb)
    clear hb
    go_wp2_with (first | (refine ldr (b := w.heap.size) (t := 71) (cs := dlC r M) (.tmp 2) rfl rfl Tryd.underlying71 rfl info_dl rfl ?_ ?_; (· exact H2.out.box)) | (refine str (b := w.heap.size + 1) (t := 71) (cs := dlC r M) (ds := dlZ) (.tmp 4) (.tmp 12) rfl rfl rfl rfl info_dl rfl dlC_one ?_ ?_; (· exact H2.out.res)))
    refine bodyPost_ret (v := .tuple #[.agg (dlC r M).toArray, .int .i64 (x)]) (results_ce (fn := Tryd.f82) (p := 4) (t := 5) rfl _ _ _ rfl (H2.out.res.row _) Tryd.underlying71 rfl info_dl) rfl ?_
    rw [HE.out]
    have hfin := H2.out.fin (dlC r M).toArray
    exact ⟨M, rfl, hfin.1, hfin.2⟩
  subst h0
  cases hm : hasL r.m.ints p
  case true =>
    have HE : Hid (rlEnrol r p = (⟨r.m, r.a⟩, 7)) := Lib.hid (by unfold rlEnrol; rw [if_neg (by rw [hx]; decide), if_pos hm])
    have CHM := Lib.hid (fun W {N : DM} (hW : DBx pl w W r N) => c_rhasB (c := N.c) hW.dw.m p hm)
    clear hx hm
    go_enter Tryd.func82, Tryd.ntmps82
    go_upto_region 1 with fail
    rw [HW.out]
    go_wp2_with (refine ldr (b := w.heap.size) (t := 71) (cs := dlC r M) (.tmp 2) rfl rfl Tryd.underlying71 rfl info_dl rfl ?_ ?_; (· exact HX.out.box))
    refine (CK.out _ HX.out.up).mono ?_; rintro e w3 ⟨rfl, hb⟩
    have H2 := Lib.hid (HX.out.next hb)
    clear hb
    obtain ⟨m0, a0⟩ := H2.out.box.dl
    go_wp2_with fail
    refine (CHM.out _ H2.out).mono ?_; rintro e w4 ⟨rfl, hb⟩
    clear m0 a0
    have H3 := Lib.hid (H2.out.next hb)
    clear hb
    go_wp2_with (first | (refine ldr (b := w.heap.size) (t := 71) (cs := dlC r M) (.tmp 2) rfl rfl Tryd.underlying71 rfl info_dl rfl ?_ ?_; (· exact H3.out.box)) | (refine str (b := w.heap.size + 1) (t := 71) (cs := dlC r M) (ds := dlZ) (.tmp 4) (.tmp 18) rfl rfl rfl rfl info_dl rfl dlC_one ?_ ?_; (· exact H3.out.res)))
    refine bodyPost_ret (v := .tuple #[.agg (dlC r M).toArray, .int .i64 (7)]) (results_ce (fn := Tryd.f82) (p := 4) (t := 5) rfl _ _ _ rfl (H3.out.res.row _) Tryd.underlying71 rfl info_dl) rfl ?_
    rw [HE.out]
    have hfin := H3.out.fin (dlC r M).toArray
    exact ⟨M, rfl, hfin.1, hfin.2⟩
  case false =>
    have HE : Hid (rlEnrol r p = (⟨r.m.uni (S4.only p), r.a⟩, 0)) := Lib.hid (by unfold rlEnrol; rw [if_neg (by rw [hx]; decide), if_neg (by rw [hm]; decide)])
    have CHM := Lib.hid (fun W {N : DM} (hW : DBx pl w W r N) => c_rhasB (c := N.c) hW.dw.m p hm)
    have CaddM := Lib.hid (fun W {R : RL} {N : DM} (hW : DBx pl w W R N) => c_raddS (c := N.c) hW.dw.m p)
    clear hx hm
    go_enter Tryd.func82, Tryd.ntmps82
    go_upto_region 1 with fail
    rw [HW.out]
    go_wp2_with (refine ldr (b := w.heap.size) (t := 71) (cs := dlC r M) (.tmp 2) rfl rfl Tryd.underlying71 rfl info_dl rfl ?_ ?_; (· exact HX.out.box))
    refine (CK.out _ HX.out.up).mono ?_; rintro e w3 ⟨rfl, hb⟩
    have H2 := Lib.hid (HX.out.next hb)
    clear hb
    obtain ⟨m0, a0⟩ := H2.out.box.dl
    go_wp2_with fail
    refine (CHM.out _ H2.out).mono ?_; rintro e w4 ⟨rfl, hb⟩
    clear m0 a0
    have H3 := Lib.hid (H2.out.next hb)
    clear hb
    obtain ⟨m0, a0⟩ := H3.out.box.dl
    go_wp2_with fail
    refine (CaddM.out _ H3.out).mono ?_; rintro e w5 ⟨A4, c4, rfl, -, -, hr, hb⟩
    clear m0 a0
    have H4 := Lib.hid (H3.out.next hb)
    have H5 := Lib.hid (H4.out.putM (c := c4) hr H3.out.big)
    clear hr hb
    obtain ⟨m0, a0⟩ := H4.out.box.dl
    have f0 := H4.out.box.free 0
    go_wp2_with (first | (refine ldr (b := w.heap.size) (t := 71) (cs := dlC (⟨r.m.uni (S4.only p), r.a⟩ : RL) (⟨A4, c4, M.B, M.d⟩ : DM)) (.tmp 2) rfl rfl Tryd.underlying71 rfl info_dl rfl ?_ ?_; (· exact H5.out.box)) | (refine str (b := w.heap.size + 1) (t := 71) (cs := dlC (⟨r.m.uni (S4.only p), r.a⟩ : RL) (⟨A4, c4, M.B, M.d⟩ : DM)) (ds := dlZ) (.tmp 4) (.tmp 24) rfl rfl rfl rfl info_dl rfl dlC_one ?_ ?_; (· exact H5.out.res)))
    refine bodyPost_ret (v := .tuple #[.agg (dlC (⟨r.m.uni (S4.only p), r.a⟩ : RL) (⟨A4, c4, M.B, M.d⟩ : DM)).toArray, .int .i64 (0)]) (results_ce (fn := Tryd.f82) (p := 4) (t := 5) rfl _ _ _ rfl (H5.out.res.row _) Tryd.underlying71 rfl info_dl) rfl ?_
    rw [HE.out]
    have hfin := H5.out.fin (dlC (⟨r.m.uni (S4.only p), r.a⟩ : RL) (⟨A4, c4, M.B, M.d⟩ : DM)).toArray
    exact ⟨(⟨A4, c4, M.B, M.d⟩ : DM), rfl, hfin.1, hfin.2⟩

theorem c_denrol {pl : Nat → Prop} {r : RL} {M : DM} {w : World} (h : DW w pl r M) (p : Int) :
    Calls Tryd.prog 82 #[.agg (dlC r M).toArray, .int .i64 p] w (DPost w (rlEnrol r p).1 (.int .i64 (rlEnrol r p).2)) := (c_denrolP h p).mono fun _ _ h => h.weak

set_option maxRecDepth 100000 in
set_option maxHeartbeats 4000000 in
theorem c_dresignP {pl : Nat → Prop} {r : RL} {M : DM} {w : World} (h : DW w pl r M) (p : Int) :
    Calls Tryd.prog 80 #[.agg (dlC r M).toArray, .int .i64 p] w (DPostP pl w (rlResign r p).1 (.int .i64 (rlResign r p).2)) := by
  have hX := dbx h
  generalize hw1 : (w.alloc (.cells (dlC r M).toArray 71)).alloc (.cells #[.slice none 0 0, .slice none 0 0] 71) = w1 at hX
  have HW := Lib.hid hw1
  have HX := Lib.hid hX
  have CK := Lib.hid (fun W (hW : Below w.heap.size w W) => c_dasked (h.below hW) p)
  clear h hX hw1
  obtain ⟨x, hx⟩ : ∃ x, rlErr r p = x := ⟨_, rfl⟩
  rw [hx] at CK
  by_cases h0 : x = 0
  case neg =>
    have HE : Hid (rlResign r p = (⟨r.m, r.a⟩, x)) := Lib.hid (by unfold rlResign; rw [if_pos (by rw [hx]; exact h0), hx])
    have hx1 : (x != 0) = true := by simp [bne, h0]
    clear hx h0
    go_enter Tryd.func80, Tryd.ntmps80
    go_upto_region 1 with fail
    rw [HW.out]
    go_wp2_with (refine ldr (b := w.heap.size) (t := 71) (cs := dlC r M) (.tmp 2) rfl rfl Tryd.underlying71 rfl info_dl rfl ?_ ?_; (· exact HX.out.box))
    refine (CK.out _ HX.out.up).mono ?_; rintro e w3 ⟨rfl, hb⟩
    have H2 := Lib.hid (HX.out.next hb)
    clear hb
    go_wp2_with (first | (refine ldr (b := w.heap.size) (t := 71) (cs := dlC r M) (.tmp 2) rfl rfl Tryd.underlying71 rfl info_dl rfl ?_ ?_; (· exact H2.out.box)) | (refine str (b := w.heap.size + 1) (t := 71) (cs := dlC r M) (ds := dlZ) (.tmp 4) (.tmp 12) rfl rfl rfl rfl info_dl rfl dlC_one ?_ ?_; (· exact H2.out.res)))
    refine bodyPost_ret (v := .tuple #[.agg (dlC r M).toArray, .int .i64 (x)]) (results_ce (fn := Tryd.f80) (p := 4) (t := 5) rfl _ _ _ rfl (H2.out.res.row _) Tryd.underlying71 rfl info_dl) rfl ?_
    rw [HE.out]
    have hfin := H2.out.fin (dlC r M).toArray
    exact ⟨M, rfl, hfin.1, hfin.2⟩
  subst h0
  cases hm : hasL r.m.ints p
  case false =>
    have HE : Hid (rlResign r p = (⟨r.m, r.a⟩, 6)) := Lib.hid (by unfold rlResign; rw [if_neg (by rw [hx]; decide), if_pos hm])
    have CHM := Lib.hid (fun W {N : DM} (hW : DBx pl w W r N) => c_rhasB (c := N.c) hW.dw.m p hm)
    clear hx hm
    go_enter Tryd.func80, Tryd.ntmps80
    go_upto_region 1 with fail
    rw [HW.out]
    go_wp2_with (refine ldr (b := w.heap.size) (t := 71) (cs := dlC r M) (.tmp 2) rfl rfl Tryd.underlying71 rfl info_dl rfl ?_ ?_; (· exact HX.out.box))
    refine (CK.out _ HX.out.up).mono ?_; rintro e w3 ⟨rfl, hb⟩
    have H2 := Lib.hid (HX.out.next hb)
    clear hb
    obtain ⟨m0, a0⟩ := H2.out.box.dl
    go_wp2_with fail
    refine (CHM.out _ H2.out).mono ?_; rintro e w4 ⟨rfl, hb⟩
    clear m0 a0
    have H3 := Lib.hid (H2.out.next hb)
    clear hb
    go_wp2_with (first | (refine ldr (b := w.heap.size) (t := 71) (cs := dlC r M) (.tmp 2) rfl rfl Tryd.underlying71 rfl info_dl rfl ?_ ?_; (· exact H3.out.box)) | (refine str (b := w.heap.size + 1) (t := 71) (cs := dlC r M) (ds := dlZ) (.tmp 4) (.tmp 19) rfl rfl rfl rfl info_dl rfl dlC_one ?_ ?_; (· exact H3.out.res)))
    refine bodyPost_ret (v := .tuple #[.agg (dlC r M).toArray, .int .i64 (6)]) (results_ce (fn := Tryd.f80) (p := 4) (t := 5) rfl _ _ _ rfl (H3.out.res.row _) Tryd.underlying71 rfl info_dl) rfl ?_
    rw [HE.out]
    have hfin := H3.out.fin (dlC r M).toArray
    exact ⟨M, rfl, hfin.1, hfin.2⟩
  case true =>
    have HE : Hid (rlResign r p = (⟨r.m.les (S4.only p), r.a.les (S4.only p)⟩, 0)) := Lib.hid (by unfold rlResign; rw [if_neg (by rw [hx]; decide), if_neg (by rw [hm]; decide)])
    have CHM := Lib.hid (fun W {N : DM} (hW : DBx pl w W r N) => c_rhasB (c := N.c) hW.dw.m p hm)
    have CdropM := Lib.hid (fun W {R : RL} {N : DM} (hW : DBx pl w W R N) => c_rdropS (c := N.c) hW.dw.m p)
    have CdropA := Lib.hid (fun W {R : RL} {N : DM} (hW : DBx pl w W R N) => c_rdropS (c := N.d) hW.dw.a p)
    clear hx hm
    go_enter Tryd.func80, Tryd.ntmps80
    go_upto_region 1 with fail
    rw [HW.out]
    go_wp2_with (refine ldr (b := w.heap.size) (t := 71) (cs := dlC r M) (.tmp 2) rfl rfl Tryd.underlying71 rfl info_dl rfl ?_ ?_; (· exact HX.out.box))
    refine (CK.out _ HX.out.up).mono ?_; rintro e w3 ⟨rfl, hb⟩
    have H2 := Lib.hid (HX.out.next hb)
    clear hb
    obtain ⟨m0, a0⟩ := H2.out.box.dl
    go_wp2_with fail
    refine (CHM.out _ H2.out).mono ?_; rintro e w4 ⟨rfl, hb⟩
    clear m0 a0
    have H3 := Lib.hid (H2.out.next hb)
    clear hb
    obtain ⟨m0, a0⟩ := H3.out.box.dl
    go_wp2_with fail
    refine (CdropM.out _ H3.out).mono ?_; rintro e w5 ⟨A4, c4, rfl, -, -, hr, hb⟩
    clear m0 a0
    have H4 := Lib.hid (H3.out.next hb)
    have H5 := Lib.hid (H4.out.putM (c := c4) hr H3.out.big)
    clear hr hb
    obtain ⟨m0, a0⟩ := H4.out.box.dl
    have f0 := H4.out.box.free 0
    obtain ⟨m0, a0⟩ := H5.out.box.dl
    go_wp2_with fail
    refine (CdropA.out _ H5.out).mono ?_; rintro e w7 ⟨A6, c6, rfl, -, -, hr, hb⟩
    clear m0 a0
    have H6 := Lib.hid (H5.out.next hb)
    have H7 := Lib.hid (H6.out.putA (c := c6) hr H5.out.big)
    clear hr hb
    obtain ⟨m0, a0⟩ := H6.out.box.dl
    have f1 := H6.out.box.free 1
    go_wp2_with (first | (refine ldr (b := w.heap.size) (t := 71) (cs := dlC (⟨r.m.les (S4.only p), r.a.les (S4.only p)⟩ : RL) (⟨(⟨A4, c4, M.B, M.d⟩ : DM).A, (⟨A4, c4, M.B, M.d⟩ : DM).c, A6, c6⟩ : DM)) (.tmp 2) rfl rfl Tryd.underlying71 rfl info_dl rfl ?_ ?_; (· exact H7.out.box)) | (refine str (b := w.heap.size + 1) (t := 71) (cs := dlC (⟨r.m.les (S4.only p), r.a.les (S4.only p)⟩ : RL) (⟨(⟨A4, c4, M.B, M.d⟩ : DM).A, (⟨A4, c4, M.B, M.d⟩ : DM).c, A6, c6⟩ : DM)) (ds := dlZ) (.tmp 4) (.tmp 30) rfl rfl rfl rfl info_dl rfl dlC_one ?_ ?_; (· exact H7.out.res)))
    refine bodyPost_ret (v := .tuple #[.agg (dlC (⟨r.m.les (S4.only p), r.a.les (S4.only p)⟩ : RL) (⟨(⟨A4, c4, M.B, M.d⟩ : DM).A, (⟨A4, c4, M.B, M.d⟩ : DM).c, A6, c6⟩ : DM)).toArray, .int .i64 (0)]) (results_ce (fn := Tryd.f80) (p := 4) (t := 5) rfl _ _ _ rfl (H7.out.res.row _) Tryd.underlying71 rfl info_dl) rfl ?_
    rw [HE.out]
    have hfin := H7.out.fin (dlC (⟨r.m.les (S4.only p), r.a.les (S4.only p)⟩ : RL) (⟨(⟨A4, c4, M.B, M.d⟩ : DM).A, (⟨A4, c4, M.B, M.d⟩ : DM).c, A6, c6⟩ : DM)).toArray
    exact ⟨(⟨(⟨A4, c4, M.B, M.d⟩ : DM).A, (⟨A4, c4, M.B, M.d⟩ : DM).c, A6, c6⟩ : DM), rfl, hfin.1, hfin.2⟩

theorem c_dresign {pl : Nat → Prop} {r : RL} {M : DM} {w : World} (h : DW w pl r M) (p : Int) :
    Calls Tryd.prog 80 #[.agg (dlC r M).toArray, .int .i64 p] w (DPost w (rlResign r p).1 (.int .i64 (rlResign r p).2)) := (c_dresignP h p).mono fun _ _ h => h.weak

set_option maxRecDepth 100000 in
set_option maxHeartbeats 4000000 in
theorem c_dofferP {pl : Nat → Prop} {r : RL} {M : DM} {w : World} (h : DW w pl r M) (p : Int) :
    Calls Tryd.prog 74 #[.agg (dlC r M).toArray, .int .i64 p] w (DPostP pl w (rlOffer r p).1 (.int .i64 (rlOffer r p).2)) := by
  have hX := dbx h
  generalize hw1 : (w.alloc (.cells (dlC r M).toArray 71)).alloc (.cells #[.slice none 0 0, .slice none 0 0] 71) = w1 at hX
  have HW := Lib.hid hw1
  have HX := Lib.hid hX
  have CK := Lib.hid (fun W (hW : Below w.heap.size w W) => c_dasked (h.below hW) p)
  clear h hX hw1
  obtain ⟨x, hx⟩ : ∃ x, rlErr r p = x := ⟨_, rfl⟩
  rw [hx] at CK
  by_cases h0 : x = 0
  case neg =>
    have HE : Hid (rlOffer r p = (⟨r.m, r.a⟩, x)) := Lib.hid (by unfold rlOffer; rw [if_pos (by rw [hx]; exact h0), hx])
    have hx1 : (x != 0) = true := by simp [bne, h0]
    clear hx h0
    go_enter Tryd.func74, Tryd.ntmps74
    go_upto_region 1 with fail
    rw [HW.out]
    go_wp2_with (refine ldr (b := w.heap.size) (t := 71) (cs := dlC r M) (.tmp 2) rfl rfl Tryd.underlying71 rfl info_dl rfl ?_ ?_; (· exact HX.out.box))
    refine (CK.out _ HX.out.up).mono ?_; rintro e w3 ⟨rfl, hb⟩
    have H2 := Lib.hid (HX.out.next hb)
    clear hb
    go_wp2_with (first | (refine ldr (b := w.heap.size) (t := 71) (cs := dlC r M) (.tmp 2) rfl rfl Tryd.underlying71 rfl info_dl rfl ?_ ?_; (· exact H2.out.box)) | (refine str (b := w.heap.size + 1) (t := 71) (cs := dlC r M) (ds := dlZ) (.tmp 4) (.tmp 12) rfl rfl rfl rfl info_dl rfl dlC_one ?_ ?_; (· exact H2.out.res)))
    refine bodyPost_ret (v := .tuple #[.agg (dlC r M).toArray, .int .i64 (x)]) (results_ce (fn := Tryd.f74) (p := 4) (t := 5) rfl _ _ _ rfl (H2.out.res.row _) Tryd.underlying71 rfl info_dl) rfl ?_
    rw [HE.out]
    have hfin := H2.out.fin (dlC r M).toArray
    exact ⟨M, rfl, hfin.1, hfin.2⟩
  subst h0
  cases hm : hasL r.m.ints p
  case false =>
    have HE : Hid (rlOffer r p = (⟨r.m, r.a⟩, 6)) := Lib.hid (by unfold rlOffer; rw [if_neg (by rw [hx]; decide), if_pos hm])
    have CHM := Lib.hid (fun W {N : DM} (hW : DBx pl w W r N) => c_rhasB (c := N.c) hW.dw.m p hm)
    clear hx hm
    go_enter Tryd.func74, Tryd.ntmps74
    go_upto_region 1 with fail
    rw [HW.out]
    go_wp2_with (refine ldr (b := w.heap.size) (t := 71) (cs := dlC r M) (.tmp 2) rfl rfl Tryd.underlying71 rfl info_dl rfl ?_ ?_; (· exact HX.out.box))
    refine (CK.out _ HX.out.up).mono ?_; rintro e w3 ⟨rfl, hb⟩
    have H2 := Lib.hid (HX.out.next hb)
    clear hb
    obtain ⟨m0, a0⟩ := H2.out.box.dl
    go_wp2_with fail
    refine (CHM.out _ H2.out).mono ?_; rintro e w4 ⟨rfl, hb⟩
    clear m0 a0
    have H3 := Lib.hid (H2.out.next hb)
    clear hb
    go_wp2_with (first | (refine ldr (b := w.heap.size) (t := 71) (cs := dlC r M) (.tmp 2) rfl rfl Tryd.underlying71 rfl info_dl rfl ?_ ?_; (· exact H3.out.box)) | (refine str (b := w.heap.size + 1) (t := 71) (cs := dlC r M) (ds := dlZ) (.tmp 4) (.tmp 19) rfl rfl rfl rfl info_dl rfl dlC_one ?_ ?_; (· exact H3.out.res)))
    refine bodyPost_ret (v := .tuple #[.agg (dlC r M).toArray, .int .i64 (6)]) (results_ce (fn := Tryd.f74) (p := 4) (t := 5) rfl _ _ _ rfl (H3.out.res.row _) Tryd.underlying71 rfl info_dl) rfl ?_
    rw [HE.out]
    have hfin := H3.out.fin (dlC r M).toArray
    exact ⟨M, rfl, hfin.1, hfin.2⟩
  case true =>
    cases ha : hasL r.a.ints p
    case true =>
      have HE : Hid (rlOffer r p = (⟨r.m, r.a⟩, 7)) := Lib.hid (by unfold rlOffer; rw [if_neg (by rw [hx]; decide), if_neg (by rw [hm]; decide), if_pos ha])
      have CHM := Lib.hid (fun W {N : DM} (hW : DBx pl w W r N) => c_rhasB (c := N.c) hW.dw.m p hm)
      have CHA := Lib.hid (fun W {N : DM} (hW : DBx pl w W r N) => c_rhasB (c := N.d) hW.dw.a p ha)
      clear hx hm ha
      go_enter Tryd.func74, Tryd.ntmps74
      go_upto_region 1 with fail
      rw [HW.out]
      go_wp2_with (refine ldr (b := w.heap.size) (t := 71) (cs := dlC r M) (.tmp 2) rfl rfl Tryd.underlying71 rfl info_dl rfl ?_ ?_; (· exact HX.out.box))
      refine (CK.out _ HX.out.up).mono ?_; rintro e w3 ⟨rfl, hb⟩
      have H2 := Lib.hid (HX.out.next hb)
      clear hb
      obtain ⟨m0, a0⟩ := H2.out.box.dl
      go_wp2_with fail
      refine (CHM.out _ H2.out).mono ?_; rintro e w4 ⟨rfl, hb⟩
      clear m0 a0
      have H3 := Lib.hid (H2.out.next hb)
      clear hb
      obtain ⟨m0, a0⟩ := H3.out.box.dl
      go_wp2_with fail
      refine (CHA.out _ H3.out).mono ?_; rintro e w5 ⟨rfl, hb⟩
      clear m0 a0
      have H4 := Lib.hid (H3.out.next hb)
      clear hb
      go_wp2_with (first | (refine ldr (b := w.heap.size) (t := 71) (cs := dlC r M) (.tmp 2) rfl rfl Tryd.underlying71 rfl info_dl rfl ?_ ?_; (· exact H4.out.box)) | (refine str (b := w.heap.size + 1) (t := 71) (cs := dlC r M) (ds := dlZ) (.tmp 4) (.tmp 24) rfl rfl rfl rfl info_dl rfl dlC_one ?_ ?_; (· exact H4.out.res)))
      refine bodyPost_ret (v := .tuple #[.agg (dlC r M).toArray, .int .i64 (7)]) (results_ce (fn := Tryd.f74) (p := 4) (t := 5) rfl _ _ _ rfl (H4.out.res.row _) Tryd.underlying71 rfl info_dl) rfl ?_
      rw [HE.out]
      have hfin := H4.out.fin (dlC r M).toArray
      exact ⟨M, rfl, hfin.1, hfin.2⟩
    case false =>
      have HE : Hid (rlOffer r p = (⟨r.m, r.a.uni (S4.only p)⟩, 0)) := Lib.hid (by unfold rlOffer; rw [if_neg (by rw [hx]; decide), if_neg (by rw [hm]; decide), if_neg (by rw [ha]; decide)])
      have CHM := Lib.hid (fun W {N : DM} (hW : DBx pl w W r N) => c_rhasB (c := N.c) hW.dw.m p hm)
      have CHA := Lib.hid (fun W {N : DM} (hW : DBx pl w W r N) => c_rhasB (c := N.d) hW.dw.a p ha)
      have CaddA := Lib.hid (fun W {R : RL} {N : DM} (hW : DBx pl w W R N) => c_raddS (c := N.d) hW.dw.a p)
      clear hx hm ha
      go_enter Tryd.func74, Tryd.ntmps74
      go_upto_region 1 with fail
      rw [HW.out]
      go_wp2_with (refine ldr (b := w.heap.size) (t := 71) (cs := dlC r M) (.tmp 2) rfl rfl Tryd.underlying71 rfl info_dl rfl ?_ ?_; (· exact HX.out.box))
      refine (CK.out _ HX.out.up).mono ?_; rintro e w3 ⟨rfl, hb⟩
      have H2 := Lib.hid (HX.out.next hb)
      clear hb
      obtain ⟨m0, a0⟩ := H2.out.box.dl
      go_wp2_with fail
      refine (CHM.out _ H2.out).mono ?_; rintro e w4 ⟨rfl, hb⟩
      clear m0 a0
      have H3 := Lib.hid (H2.out.next hb)
      clear hb
      obtain ⟨m0, a0⟩ := H3.out.box.dl
      go_wp2_with fail
      refine (CHA.out _ H3.out).mono ?_; rintro e w5 ⟨rfl, hb⟩
      clear m0 a0
      have H4 := Lib.hid (H3.out.next hb)
      clear hb
      obtain ⟨m0, a0⟩ := H4.out.box.dl
      go_wp2_with fail
      refine (CaddA.out _ H4.out).mono ?_; rintro e w6 ⟨A5, c5, rfl, -, -, hr, hb⟩
      clear m0 a0
      have H5 := Lib.hid (H4.out.next hb)
      have H6 := Lib.hid (H5.out.putA (c := c5) hr H4.out.big)
      clear hr hb
      obtain ⟨m0, a0⟩ := H5.out.box.dl
      have f1 := H5.out.box.free 1
      go_wp2_with (first | (refine ldr (b := w.heap.size) (t := 71) (cs := dlC (⟨r.m, r.a.uni (S4.only p)⟩ : RL) (⟨M.A, M.c, A5, c5⟩ : DM)) (.tmp 2) rfl rfl Tryd.underlying71 rfl info_dl rfl ?_ ?_; (· exact H6.out.box)) | (refine str (b := w.heap.size + 1) (t := 71) (cs := dlC (⟨r.m, r.a.uni (S4.only p)⟩ : RL) (⟨M.A, M.c, A5, c5⟩ : DM)) (ds := dlZ) (.tmp 4) (.tmp 30) rfl rfl rfl rfl info_dl rfl dlC_one ?_ ?_; (· exact H6.out.res)))
      refine bodyPost_ret (v := .tuple #[.agg (dlC (⟨r.m, r.a.uni (S4.only p)⟩ : RL) (⟨M.A, M.c, A5, c5⟩ : DM)).toArray, .int .i64 (0)]) (results_ce (fn := Tryd.f74) (p := 4) (t := 5) rfl _ _ _ rfl (H6.out.res.row _) Tryd.underlying71 rfl info_dl) rfl ?_
      rw [HE.out]
      have hfin := H6.out.fin (dlC (⟨r.m, r.a.uni (S4.only p)⟩ : RL) (⟨M.A, M.c, A5, c5⟩ : DM)).toArray
      exact ⟨(⟨M.A, M.c, A5, c5⟩ : DM), rfl, hfin.1, hfin.2⟩

theorem c_doffer {pl : Nat → Prop} {r : RL} {M : DM} {w : World} (h : DW w pl r M) (p : Int) :
    Calls Tryd.prog 74 #[.agg (dlC r M).toArray, .int .i64 p] w (DPost w (rlOffer r p).1 (.int .i64 (rlOffer r p).2)) := (c_dofferP h p).mono fun _ _ h => h.weak

set_option maxRecDepth 100000 in
set_option maxHeartbeats 4000000 in
theorem c_dwithP {pl : Nat → Prop} {r : RL} {M : DM} {w : World} (h : DW w pl r M) (p : Int) :
    Calls Tryd.prog 78 #[.agg (dlC r M).toArray, .int .i64 p] w (DPostP pl w (rlWith r p).1 (.bool (rlWith r p).2)) := by
  have hX := dbx h
  generalize hw1 : (w.alloc (.cells (dlC r M).toArray 71)).alloc (.cells #[.slice none 0 0, .slice none 0 0] 71) = w1 at hX
  have HW := Lib.hid hw1
  have HX := Lib.hid hX
  have CK := Lib.hid (fun W (hW : Below w.heap.size w W) => c_dfine (h.below hW))
  clear h hX hw1
  obtain ⟨q, hq⟩ : ∃ q, rlFine r = q := ⟨_, rfl⟩
  rw [hq] at CK
  cases q
  case false =>
    have HE : Hid (rlWith r p = (⟨r.m, r.a⟩, false)) := Lib.hid (by unfold rlWith; rw [if_pos hq])
    clear hq
    go_enter Tryd.func78, Tryd.ntmps78
    go_upto_region 1 with fail
    rw [HW.out]
    go_wp2_with (refine ldr (b := w.heap.size) (t := 71) (cs := dlC r M) (.tmp 2) rfl rfl Tryd.underlying71 rfl info_dl rfl ?_ ?_; (· exact HX.out.box))
    refine (CK.out _ HX.out.up).mono ?_; rintro e w3 ⟨rfl, hb⟩
    have H2 := Lib.hid (HX.out.next hb)
    clear hb
    go_wp2_with (first | (refine ldr (b := w.heap.size) (t := 71) (cs := dlC r M) (.tmp 2) rfl rfl Tryd.underlying71 rfl info_dl rfl ?_ ?_; (· exact H2.out.box)) | (refine str (b := w.heap.size + 1) (t := 71) (cs := dlC r M) (ds := dlZ) (.tmp 4) (.tmp 16) rfl rfl rfl rfl info_dl rfl dlC_one ?_ ?_; (· exact H2.out.res)))
    refine bodyPost_ret (v := .tuple #[.agg (dlC r M).toArray, .bool (false)]) (results_ce (fn := Tryd.f78) (p := 4) (t := 5) rfl _ _ _ rfl (H2.out.res.row _) Tryd.underlying71 rfl info_dl) rfl ?_
    rw [HE.out]
    have hfin := H2.out.fin (dlC r M).toArray
    exact ⟨M, rfl, hfin.1, hfin.2⟩
  case true =>
    cases ha : hasL r.a.ints p
    case false =>
      have HE : Hid (rlWith r p = (⟨r.m, r.a⟩, false)) := Lib.hid (by unfold rlWith; rw [if_neg (by rw [hq]; decide), if_pos ha])
      have CHA := Lib.hid (fun W {N : DM} (hW : DBx pl w W r N) => c_rhasB (c := N.d) hW.dw.a p ha)
      clear hq ha
      go_enter Tryd.func78, Tryd.ntmps78
      go_upto_region 1 with fail
      rw [HW.out]
      go_wp2_with (refine ldr (b := w.heap.size) (t := 71) (cs := dlC r M) (.tmp 2) rfl rfl Tryd.underlying71 rfl info_dl rfl ?_ ?_; (· exact HX.out.box))
      refine (CK.out _ HX.out.up).mono ?_; rintro e w3 ⟨rfl, hb⟩
      have H2 := Lib.hid (HX.out.next hb)
      clear hb
      obtain ⟨m0, a0⟩ := H2.out.box.dl
      go_wp2_with fail
      refine (CHA.out _ H2.out).mono ?_; rintro e w4 ⟨rfl, hb⟩
      clear m0 a0
      have H3 := Lib.hid (H2.out.next hb)
      clear hb
      go_wp2_with (first | (refine ldr (b := w.heap.size) (t := 71) (cs := dlC r M) (.tmp 2) rfl rfl Tryd.underlying71 rfl info_dl rfl ?_ ?_; (· exact H3.out.box)) | (refine str (b := w.heap.size + 1) (t := 71) (cs := dlC r M) (ds := dlZ) (.tmp 4) (.tmp 16) rfl rfl rfl rfl info_dl rfl dlC_one ?_ ?_; (· exact H3.out.res)))
      refine bodyPost_ret (v := .tuple #[.agg (dlC r M).toArray, .bool (false)]) (results_ce (fn := Tryd.f78) (p := 4) (t := 5) rfl _ _ _ rfl (H3.out.res.row _) Tryd.underlying71 rfl info_dl) rfl ?_
      rw [HE.out]
      have hfin := H3.out.fin (dlC r M).toArray
      exact ⟨M, rfl, hfin.1, hfin.2⟩
    case true =>
      have HE : Hid (rlWith r p = (⟨r.m, r.a.les (S4.only p)⟩, true)) := Lib.hid (by unfold rlWith; rw [if_neg (by rw [hq]; decide), if_neg (by rw [ha]; decide)])
      have CHA := Lib.hid (fun W {N : DM} (hW : DBx pl w W r N) => c_rhasB (c := N.d) hW.dw.a p ha)
      have CdropA := Lib.hid (fun W {R : RL} {N : DM} (hW : DBx pl w W R N) => c_rdropS (c := N.d) hW.dw.a p)
      clear hq ha
      go_enter Tryd.func78, Tryd.ntmps78
      go_upto_region 1 with fail
      rw [HW.out]
      go_wp2_with (refine ldr (b := w.heap.size) (t := 71) (cs := dlC r M) (.tmp 2) rfl rfl Tryd.underlying71 rfl info_dl rfl ?_ ?_; (· exact HX.out.box))
      refine (CK.out _ HX.out.up).mono ?_; rintro e w3 ⟨rfl, hb⟩
      have H2 := Lib.hid (HX.out.next hb)
      clear hb
      obtain ⟨m0, a0⟩ := H2.out.box.dl
      go_wp2_with fail
      refine (CHA.out _ H2.out).mono ?_; rintro e w4 ⟨rfl, hb⟩
      clear m0 a0
      have H3 := Lib.hid (H2.out.next hb)
      clear hb
      obtain ⟨m0, a0⟩ := H3.out.box.dl
      go_wp2_with fail
      refine (CdropA.out _ H3.out).mono ?_; rintro e w5 ⟨A4, c4, rfl, -, -, hr, hb⟩
      clear m0 a0
      have H4 := Lib.hid (H3.out.next hb)
      have H5 := Lib.hid (H4.out.putA (c := c4) hr H3.out.big)
      clear hr hb
      obtain ⟨m0, a0⟩ := H4.out.box.dl
      have f1 := H4.out.box.free 1
      go_wp2_with (first | (refine ldr (b := w.heap.size) (t := 71) (cs := dlC (⟨r.m, r.a.les (S4.only p)⟩ : RL) (⟨M.A, M.c, A4, c4⟩ : DM)) (.tmp 2) rfl rfl Tryd.underlying71 rfl info_dl rfl ?_ ?_; (· exact H5.out.box)) | (refine str (b := w.heap.size + 1) (t := 71) (cs := dlC (⟨r.m, r.a.les (S4.only p)⟩ : RL) (⟨M.A, M.c, A4, c4⟩ : DM)) (ds := dlZ) (.tmp 4) (.tmp 22) rfl rfl rfl rfl info_dl rfl dlC_one ?_ ?_; (· exact H5.out.res)))
      refine bodyPost_ret (v := .tuple #[.agg (dlC (⟨r.m, r.a.les (S4.only p)⟩ : RL) (⟨M.A, M.c, A4, c4⟩ : DM)).toArray, .bool (true)]) (results_ce (fn := Tryd.f78) (p := 4) (t := 5) rfl _ _ _ rfl (H5.out.res.row _) Tryd.underlying71 rfl info_dl) rfl ?_
      rw [HE.out]
      have hfin := H5.out.fin (dlC (⟨r.m, r.a.les (S4.only p)⟩ : RL) (⟨M.A, M.c, A4, c4⟩ : DM)).toArray
      exact ⟨(⟨M.A, M.c, A4, c4⟩ : DM), rfl, hfin.1, hfin.2⟩

theorem c_dwith {pl : Nat → Prop} {r : RL} {M : DM} {w : World} (h : DW w pl r M) (p : Int) :
    Calls Tryd.prog 78 #[.agg (dlC r M).toArray, .int .i64 p] w (DPost w (rlWith r p).1 (.bool (rlWith r p).2)) := (c_dwithP h p).mono fun _ _ h => h.weak
end Go.Proofs.YtlfglibepldjpaaDoor
