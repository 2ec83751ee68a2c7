/- The document's Enrol, Resign, Offer, Withdraw (layer 21), of rolls whose lists are sets' lists. The document's Full and Fire (layer 21), of rolls whose lists are sets' lists. (Fire answers the roll as it was with an error: REPORT, round 21.) The document's Fine of layer 20. The document's barriers (layer 22) in memory, of lists that are sets' lists; its Check, New and Fine. The document's Enrol, Resign, Offer, Withdraw (layer 22). The document's Ready and Fire (layer 22). -/
import Derived.Test.YtdiiilnebepfdaaGreatDoorD3
import Derived.Test.YtdiiilnebepfdaaGreatDoorD2
import Derived.Test.YtdiiilnebepfdaaGreatDoorA1
namespace Go.Proofs.YtdiiilnebepfdaaGreatDoor
open Go.RowKit

set_option maxRecDepth 100000 in
set_option maxHeartbeats 4000000 in
theorem c_denrolP {pl : Nat → Prop} {r : RL} {M : DM} {w : World} (h : DW w pl r M) (p : Int) :
    Calls Tryz.prog 111 #[.agg (dlC r M).toArray, .int .i64 p] w (DPostP pl w (rlEnrol r p).1 (.int .i64 (rlEnrol r p).2)) := by
  have hX := dbx h
  generalize hw1 : (w.alloc (.cells (dlC r M).toArray 111)).alloc (.cells #[.slice none 0 0, .slice none 0 0] 111) = w1 at hX
  have HW := Lib.hid hw1
  have HX := Lib.hid hX
  have CK := Lib.hid (fun W (hW : Below w.heap.size w W) => c_dasked (h.below hW) p)
  clear h hX hw1
  obtain ⟨x, hx⟩ : ∃ x, rlErr r p = x := ⟨_, rfl⟩
  rw [hx] at CK
  by_cases h0 : x = 0
  case neg =>
    have HE : Hid (rlEnrol r p = (⟨r.m, r.a⟩, x)) := Lib.hid (by unfold rlEnrol; rw [if_pos (by rw [hx]; exact h0), hx])
    have hx1 : (x != 0) = true := by simp [bne, h0]
    clear hx h0
    go_enter Tryz.func111, Tryz.ntmps111
    go_upto_region 1 with fail
    rw [HW.out]
    go_wp2_with (refine ldr (b := w.heap.size) (t := 111) (cs := dlC r M) (.tmp 2) rfl rfl Tryz.underlying111 rfl info_dl rfl ?_ ?_; (· exact HX.out.box))
    refine (CK.out _ HX.out.up).mono ?_; rintro e w3 ⟨rfl, hb⟩
    have H2 := Lib.hid (HX.out.next hb)
    clear hb
    go_wp2_with (first | (refine ldr (b := w.heap.size) (t := 111) (cs := dlC r M) (.tmp 2) rfl rfl Tryz.underlying111 rfl info_dl rfl ?_ ?_; (· exact H2.out.box)) | (refine str (b := w.heap.size + 1) (t := 111) (cs := dlC r M) (ds := dlZ) (.tmp 4) (.tmp 12) rfl rfl rfl rfl info_dl rfl dlC_one ?_ ?_; (· exact H2.out.res)))
    refine bodyPost_ret (v := .tuple #[.agg (dlC r M).toArray, .int .i64 (x)]) (results_ce (fn := Tryz.f111) (p := 4) (t := 5) rfl _ _ _ rfl (H2.out.res.row _) Tryz.underlying111 rfl info_dl) rfl ?_
    rw [HE.out]
    have hfin := H2.out.fin (dlC r M).toArray
    exact ⟨M, rfl, hfin.1, hfin.2⟩
  subst h0
  cases hm : hasL r.m.ints p
  case true =>
    have HE : Hid (rlEnrol r p = (⟨r.m, r.a⟩, 7)) := Lib.hid (by unfold rlEnrol; rw [if_neg (by rw [hx]; decide), if_pos hm])
    have CHM := Lib.hid (fun W {N : DM} (hW : DBx pl w W r N) => c_rhasB (c := N.c) hW.dw.m p hm)
    clear hx hm
    go_enter Tryz.func111, Tryz.ntmps111
    go_upto_region 1 with fail
    rw [HW.out]
    go_wp2_with (refine ldr (b := w.heap.size) (t := 111) (cs := dlC r M) (.tmp 2) rfl rfl Tryz.underlying111 rfl info_dl rfl ?_ ?_; (· exact HX.out.box))
    refine (CK.out _ HX.out.up).mono ?_; rintro e w3 ⟨rfl, hb⟩
    have H2 := Lib.hid (HX.out.next hb)
    clear hb
    obtain ⟨m0, a0⟩ := H2.out.box.dl
    go_wp2_with fail
    refine (CHM.out _ H2.out).mono ?_; rintro e w4 ⟨rfl, hb⟩
    clear m0 a0
    have H3 := Lib.hid (H2.out.next hb)
    clear hb
    go_wp2_with (first | (refine ldr (b := w.heap.size) (t := 111) (cs := dlC r M) (.tmp 2) rfl rfl Tryz.underlying111 rfl info_dl rfl ?_ ?_; (· exact H3.out.box)) | (refine str (b := w.heap.size + 1) (t := 111) (cs := dlC r M) (ds := dlZ) (.tmp 4) (.tmp 18) rfl rfl rfl rfl info_dl rfl dlC_one ?_ ?_; (· exact H3.out.res)))
    refine bodyPost_ret (v := .tuple #[.agg (dlC r M).toArray, .int .i64 (7)]) (results_ce (fn := Tryz.f111) (p := 4) (t := 5) rfl _ _ _ rfl (H3.out.res.row _) Tryz.underlying111 rfl info_dl) rfl ?_
    rw [HE.out]
    have hfin := H3.out.fin (dlC r M).toArray
    exact ⟨M, rfl, hfin.1, hfin.2⟩
  case false =>
    have HE : Hid (rlEnrol r p = (⟨r.m.uni (S4.only p), r.a⟩, 0)) := Lib.hid (by unfold rlEnrol; rw [if_neg (by rw [hx]; decide), if_neg (by rw [hm]; decide)])
    have CHM := Lib.hid (fun W {N : DM} (hW : DBx pl w W r N) => c_rhasB (c := N.c) hW.dw.m p hm)
    have CaddM := Lib.hid (fun W {R : RL} {N : DM} (hW : DBx pl w W R N) => c_raddS (c := N.c) hW.dw.m p)
    clear hx hm
    go_enter Tryz.func111, Tryz.ntmps111
    go_upto_region 1 with fail
    rw [HW.out]
    go_wp2_with (refine ldr (b := w.heap.size) (t := 111) (cs := dlC r M) (.tmp 2) rfl rfl Tryz.underlying111 rfl info_dl rfl ?_ ?_; (· exact HX.out.box))
    refine (CK.out _ HX.out.up).mono ?_; rintro e w3 ⟨rfl, hb⟩
    have H2 := Lib.hid (HX.out.next hb)
    clear hb
    obtain ⟨m0, a0⟩ := H2.out.box.dl
    go_wp2_with fail
    refine (CHM.out _ H2.out).mono ?_; rintro e w4 ⟨rfl, hb⟩
    clear m0 a0
    have H3 := Lib.hid (H2.out.next hb)
    clear hb
    obtain ⟨m0, a0⟩ := H3.out.box.dl
    go_wp2_with fail
    refine (CaddM.out _ H3.out).mono ?_; rintro e w5 ⟨A4, c4, rfl, -, -, hr, hb⟩
    clear m0 a0
    have H4 := Lib.hid (H3.out.next hb)
    have H5 := Lib.hid (H4.out.putM (c := c4) hr H3.out.big)
    clear hr hb
    obtain ⟨m0, a0⟩ := H4.out.box.dl
    have f0 := H4.out.box.free 0
    go_wp2_with (first | (refine ldr (b := w.heap.size) (t := 111) (cs := dlC (⟨r.m.uni (S4.only p), r.a⟩ : RL) (⟨A4, c4, M.B, M.d⟩ : DM)) (.tmp 2) rfl rfl Tryz.underlying111 rfl info_dl rfl ?_ ?_; (· exact H5.out.box)) | (refine str (b := w.heap.size + 1) (t := 111) (cs := dlC (⟨r.m.uni (S4.only p), r.a⟩ : RL) (⟨A4, c4, M.B, M.d⟩ : DM)) (ds := dlZ) (.tmp 4) (.tmp 24) rfl rfl rfl rfl info_dl rfl dlC_one ?_ ?_; (· exact H5.out.res)))
    refine bodyPost_ret (v := .tuple #[.agg (dlC (⟨r.m.uni (S4.only p), r.a⟩ : RL) (⟨A4, c4, M.B, M.d⟩ : DM)).toArray, .int .i64 (0)]) (results_ce (fn := Tryz.f111) (p := 4) (t := 5) rfl _ _ _ rfl (H5.out.res.row _) Tryz.underlying111 rfl info_dl) rfl ?_
    rw [HE.out]
    have hfin := H5.out.fin (dlC (⟨r.m.uni (S4.only p), r.a⟩ : RL) (⟨A4, c4, M.B, M.d⟩ : DM)).toArray
    exact ⟨(⟨A4, c4, M.B, M.d⟩ : DM), rfl, hfin.1, hfin.2⟩

set_option maxRecDepth 100000 in
set_option maxHeartbeats 4000000 in
theorem c_dofferP {pl : Nat → Prop} {r : RL} {M : DM} {w : World} (h : DW w pl r M) (p : Int) :
    Calls Tryz.prog 112 #[.agg (dlC r M).toArray, .int .i64 p] w (DPostP pl w (rlOffer r p).1 (.int .i64 (rlOffer r p).2)) := by
  have hX := dbx h
  generalize hw1 : (w.alloc (.cells (dlC r M).toArray 111)).alloc (.cells #[.slice none 0 0, .slice none 0 0] 111) = w1 at hX
  have HW := Lib.hid hw1
  have HX := Lib.hid hX
  have CK := Lib.hid (fun W (hW : Below w.heap.size w W) => c_dasked (h.below hW) p)
  clear h hX hw1
  obtain ⟨x, hx⟩ : ∃ x, rlErr r p = x := ⟨_, rfl⟩
  rw [hx] at CK
  by_cases h0 : x = 0
  case neg =>
    have HE : Hid (rlOffer r p = (⟨r.m, r.a⟩, x)) := Lib.hid (by unfold rlOffer; rw [if_pos (by rw [hx]; exact h0), hx])
    have hx1 : (x != 0) = true := by simp [bne, h0]
    clear hx h0
    go_enter Tryz.func112, Tryz.ntmps112
    go_upto_region 1 with fail
    rw [HW.out]
    go_wp2_with (refine ldr (b := w.heap.size) (t := 111) (cs := dlC r M) (.tmp 2) rfl rfl Tryz.underlying111 rfl info_dl rfl ?_ ?_; (· exact HX.out.box))
    refine (CK.out _ HX.out.up).mono ?_; rintro e w3 ⟨rfl, hb⟩
    have H2 := Lib.hid (HX.out.next hb)
    clear hb
    go_wp2_with (first | (refine ldr (b := w.heap.size) (t := 111) (cs := dlC r M) (.tmp 2) rfl rfl Tryz.underlying111 rfl info_dl rfl ?_ ?_; (· exact H2.out.box)) | (refine str (b := w.heap.size + 1) (t := 111) (cs := dlC r M) (ds := dlZ) (.tmp 4) (.tmp 12) rfl rfl rfl rfl info_dl rfl dlC_one ?_ ?_; (· exact H2.out.res)))
    refine bodyPost_ret (v := .tuple #[.agg (dlC r M).toArray, .int .i64 (x)]) (results_ce (fn := Tryz.f112) (p := 4) (t := 5) rfl _ _ _ rfl (H2.out.res.row _) Tryz.underlying111 rfl info_dl) rfl ?_
    rw [HE.out]
    have hfin := H2.out.fin (dlC r M).toArray
    exact ⟨M, rfl, hfin.1, hfin.2⟩
  subst h0
  cases hm : hasL r.m.ints p
  case false =>
    have HE : Hid (rlOffer r p = (⟨r.m, r.a⟩, 6)) := Lib.hid (by unfold rlOffer; rw [if_neg (by rw [hx]; decide), if_pos hm])
    have CHM := Lib.hid (fun W {N : DM} (hW : DBx pl w W r N) => c_rhasB (c := N.c) hW.dw.m p hm)
    clear hx hm
    go_enter Tryz.func112, Tryz.ntmps112
    go_upto_region 1 with fail
    rw [HW.out]
    go_wp2_with (refine ldr (b := w.heap.size) (t := 111) (cs := dlC r M) (.tmp 2) rfl rfl Tryz.underlying111 rfl info_dl rfl ?_ ?_; (· exact HX.out.box))
    refine (CK.out _ HX.out.up).mono ?_; rintro e w3 ⟨rfl, hb⟩
    have H2 := Lib.hid (HX.out.next hb)
    clear hb
    obtain ⟨m0, a0⟩ := H2.out.box.dl
    go_wp2_with fail
    refine (CHM.out _ H2.out).mono ?_; rintro e w4 ⟨rfl, hb⟩
    clear m0 a0
    have H3 := Lib.hid (H2.out.next hb)
    clear hb
    go_wp2_with (first | (refine ldr (b := w.heap.size) (t := 111) (cs := dlC r M) (.tmp 2) rfl rfl Tryz.underlying111 rfl info_dl rfl ?_ ?_; (· exact H3.out.box)) | (refine str (b := w.heap.size + 1) (t := 111) (cs := dlC r M) (ds := dlZ) (.tmp 4) (.tmp 19) rfl rfl rfl rfl info_dl rfl dlC_one ?_ ?_; (· exact H3.out.res)))
    refine bodyPost_ret (v := .tuple #[.agg (dlC r M).toArray, .int .i64 (6)]) (results_ce (fn := Tryz.f112) (p := 4) (t := 5) rfl _ _ _ rfl (H3.out.res.row _) Tryz.underlying111 rfl info_dl) rfl ?_
    rw [HE.out]
    have hfin := H3.out.fin (dlC r M).toArray
    exact ⟨M, rfl, hfin.1, hfin.2⟩
  case true =>
    cases ha : hasL r.a.ints p
    case true =>
      have HE : Hid (rlOffer r p = (⟨r.m, r.a⟩, 7)) := Lib.hid (by unfold rlOffer; rw [if_neg (by rw [hx]; decide), if_neg (by rw [hm]; decide), if_pos ha])
      have CHM := Lib.hid (fun W {N : DM} (hW : DBx pl w W r N) => c_rhasB (c := N.c) hW.dw.m p hm)
      have CHA := Lib.hid (fun W {N : DM} (hW : DBx pl w W r N) => c_rhasB (c := N.d) hW.dw.a p ha)
      clear hx hm ha
      go_enter Tryz.func112, Tryz.ntmps112
      go_upto_region 1 with fail
      rw [HW.out]
      go_wp2_with (refine ldr (b := w.heap.size) (t := 111) (cs := dlC r M) (.tmp 2) rfl rfl Tryz.underlying111 rfl info_dl rfl ?_ ?_; (· exact HX.out.box))
      refine (CK.out _ HX.out.up).mono ?_; rintro e w3 ⟨rfl, hb⟩
      have H2 := Lib.hid (HX.out.next hb)
      clear hb
      obtain ⟨m0, a0⟩ := H2.out.box.dl
      go_wp2_with fail
      refine (CHM.out _ H2.out).mono ?_; rintro e w4 ⟨rfl, hb⟩
      clear m0 a0
      have H3 := Lib.hid (H2.out.next hb)
      clear hb
      obtain ⟨m0, a0⟩ := H3.out.box.dl
      go_wp2_with fail
      refine (CHA.out _ H3.out).mono ?_; rintro e w5 ⟨rfl, hb⟩
      clear m0 a0
      have H4 := Lib.hid (H3.out.next hb)
      clear hb
      go_wp2_with (first | (refine ldr (b := w.heap.size) (t := 111) (cs := dlC r M) (.tmp 2) rfl rfl Tryz.underlying111 rfl info_dl rfl ?_ ?_; (· exact H4.out.box)) | (refine str (b := w.heap.size + 1) (t := 111) (cs := dlC r M) (ds := dlZ) (.tmp 4) (.tmp 24) rfl rfl rfl rfl info_dl rfl dlC_one ?_ ?_; (· exact H4.out.res)))
      refine bodyPost_ret (v := .tuple #[.agg (dlC r M).toArray, .int .i64 (7)]) (results_ce (fn := Tryz.f112) (p := 4) (t := 5) rfl _ _ _ rfl (H4.out.res.row _) Tryz.underlying111 rfl info_dl) rfl ?_
      rw [HE.out]
      have hfin := H4.out.fin (dlC r M).toArray
      exact ⟨M, rfl, hfin.1, hfin.2⟩
    case false =>
      have HE : Hid (rlOffer r p = (⟨r.m, r.a.uni (S4.only p)⟩, 0)) := Lib.hid (by unfold rlOffer; rw [if_neg (by rw [hx]; decide), if_neg (by rw [hm]; decide), if_neg (by rw [ha]; decide)])
      have CHM := Lib.hid (fun W {N : DM} (hW : DBx pl w W r N) => c_rhasB (c := N.c) hW.dw.m p hm)
      have CHA := Lib.hid (fun W {N : DM} (hW : DBx pl w W r N) => c_rhasB (c := N.d) hW.dw.a p ha)
      have CaddA := Lib.hid (fun W {R : RL} {N : DM} (hW : DBx pl w W R N) => c_raddS (c := N.d) hW.dw.a p)
      clear hx hm ha
      go_enter Tryz.func112, Tryz.ntmps112
      go_upto_region 1 with fail
      rw [HW.out]
      go_wp2_with (refine ldr (b := w.heap.size) (t := 111) (cs := dlC r M) (.tmp 2) rfl rfl Tryz.underlying111 rfl info_dl rfl ?_ ?_; (· exact HX.out.box))
      refine (CK.out _ HX.out.up).mono ?_; rintro e w3 ⟨rfl, hb⟩
      have H2 := Lib.hid (HX.out.next hb)
      clear hb
      obtain ⟨m0, a0⟩ := H2.out.box.dl
      go_wp2_with fail
      refine (CHM.out _ H2.out).mono ?_; rintro e w4 ⟨rfl, hb⟩
      clear m0 a0
      have H3 := Lib.hid (H2.out.next hb)
      clear hb
      obtain ⟨m0, a0⟩ := H3.out.box.dl
      go_wp2_with fail
      refine (CHA.out _ H3.out).mono ?_; rintro e w5 ⟨rfl, hb⟩
      clear m0 a0
      have H4 := Lib.hid (H3.out.next hb)
      clear hb
      obtain ⟨m0, a0⟩ := H4.out.box.dl
      go_wp2_with fail
      refine (CaddA.out _ H4.out).mono ?_; rintro e w6 ⟨A5, c5, rfl, -, -, hr, hb⟩
      clear m0 a0
      have H5 := Lib.hid (H4.out.next hb)
      have H6 := Lib.hid (H5.out.putA (c := c5) hr H4.out.big)
      clear hr hb
      obtain ⟨m0, a0⟩ := H5.out.box.dl
      have f1 := H5.out.box.free 1
      go_wp2_with (first | (refine ldr (b := w.heap.size) (t := 111) (cs := dlC (⟨r.m, r.a.uni (S4.only p)⟩ : RL) (⟨M.A, M.c, A5, c5⟩ : DM)) (.tmp 2) rfl rfl Tryz.underlying111 rfl info_dl rfl ?_ ?_; (· exact H6.out.box)) | (refine str (b := w.heap.size + 1) (t := 111) (cs := dlC (⟨r.m, r.a.uni (S4.only p)⟩ : RL) (⟨M.A, M.c, A5, c5⟩ : DM)) (ds := dlZ) (.tmp 4) (.tmp 30) rfl rfl rfl rfl info_dl rfl dlC_one ?_ ?_; (· exact H6.out.res)))
      refine bodyPost_ret (v := .tuple #[.agg (dlC (⟨r.m, r.a.uni (S4.only p)⟩ : RL) (⟨M.A, M.c, A5, c5⟩ : DM)).toArray, .int .i64 (0)]) (results_ce (fn := Tryz.f112) (p := 4) (t := 5) rfl _ _ _ rfl (H6.out.res.row _) Tryz.underlying111 rfl info_dl) rfl ?_
      rw [HE.out]
      have hfin := H6.out.fin (dlC (⟨r.m, r.a.uni (S4.only p)⟩ : RL) (⟨M.A, M.c, A5, c5⟩ : DM)).toArray
      exact ⟨(⟨M.A, M.c, A5, c5⟩ : DM), rfl, hfin.1, hfin.2⟩

end Go.Proofs.YtdiiilnebepfdaaGreatDoor

namespace Go.Proofs.YtdiiilnebepfdaaGreatDoor
open Go.RowKit

end Go.Proofs.YtdiiilnebepfdaaGreatDoor

namespace Go.Proofs.YtdiiilnebepfdaaGreatDoor
open Go.RowKit
set_option maxHeartbeats 400000 in
theorem c_phrfine (n l : Int) (w : World) :
    Calls Tryz.prog 130 #[.int .i64 n, .int .i64 l] w fun e w' => e = .returned (.bool (phFine n l)) ∧ w = w' := by
  cases hf : phFine n l
  · have H := phFine_no n l hf
    clear hf
    rcases H with h0 | ⟨h0, h1⟩ | ⟨h0, h1, h2⟩ | ⟨h0, h1, h2, h3⟩
    all_goals
      go_enter Tryz.func130, Tryz.ntmps130
      go_wp2
      go_ret
      exact ⟨ret_bool (by first | rfl | (rw [decide_eq_false_iff_not]; omega)), rfl⟩
  · obtain ⟨h0, h1, h2, h3⟩ := (phFine_iff n l).1 hf
    clear hf
    go_enter Tryz.func130, Tryz.ntmps130
    go_wp2
    go_ret
    exact ⟨ret_bool (by first | rfl | (rw [decide_eq_true_iff]; omega)), rfl⟩
end Go.Proofs.YtdiiilnebepfdaaGreatDoor

namespace Go.Proofs.YtdiiilnebepfdaaGreatDoor
open Go.RowKit

def dbC (b : BR) (M : DM) : List Value := [.bool b.al, .int .i64 b.lim, .slice M.A b.r.m.ints.length M.c, .slice M.B b.r.a.ints.length M.d, .int .i64 b.ph]
abbrev dbZ : List Value := [.bool false, .int .i64 0, .slice none 0 0, .slice none 0 0, .int .i64 0]
abbrev DM.nil : DM := ⟨none, 0, none, 0⟩
theorem dbC_one {b : BR} {M : DM} : ∀ v ∈ dbC b M, v.oneCell' = true := by
  intro v hv
  unfold dbC at hv
  simp only [List.mem_cons, List.not_mem_nil, or_false] at hv
  rcases hv with rfl | rfl | rfl | rfl | rfl <;> rfl
theorem dbC_new (al : Bool) (l : Int) : dbC ⟨al, l, RL.zero, 0⟩ DM.nil = [.bool al, .int .i64 l, .slice none 0 0, .slice none 0 0, .int .i64 0] := by
  unfold dbC RL.zero
  simp only [zero_ints]
  rfl
theorem new_one {al : Bool} {l : Int} : ∀ v ∈ ([.bool al, .int .i64 l, .slice none 0 0, .slice none 0 0, .int .i64 0] : List Value), v.oneCell' = true := by
  intro v hv
  simp only [List.mem_cons, List.not_mem_nil, or_false] at hv
  rcases hv with rfl | rfl | rfl | rfl | rfl <;> rfl
theorem DW.nil (w : World) (pl : Nat → Prop) : DW w pl RL.zero DM.nil := by
  constructor
  · show RD w pl 1 none S4.zero.ints.length (S4.zero.ints.map (Value.int .i64))
    rw [zero_ints]
    exact RD.nil _ _ _ _
  · show RD w pl 1 none S4.zero.ints.length (S4.zero.ints.map (Value.int .i64))
    rw [zero_ints]
    exact RD.nil _ _ _ _
theorem info_db : (Tryz.prog.info? 113).map (·.size) = some 5 := by kernel_rfl
theorem Blk.db {w : World} {g : Nat} {b : BR} {M : DM} {t : TypeId} (h : Blk w g (dbC b M) t) : w.cell? ⟨g, 0, none⟩ = some (.bool b.al) ∧ w.cell? ⟨g, 1, none⟩ = some (.int .i64 b.lim) ∧ w.cell? ⟨g, 4, none⟩ = some (.int .i64 b.ph) := ⟨h.cell 0 _ rfl, h.cell 1 _ rfl, h.cell 4 _ rfl⟩
/-- A barrier's box that is written to, and a cell for the answer. -/
structure EBx (pl : Nat → Prop) (w wc : World) (b : BR) (M : DM) : Prop where
  up : Below w.heap.size w wc
  box : Blk wc w.heap.size (dbC b M) 113
  res : Blk wc (w.heap.size + 1) dbZ 113
  dw : DW wc (pl2 pl w) b.r M
theorem EBx.next {pl : Nat → Prop} {w wc wd : World} {b : BR} {M : DM} (h : EBx pl w wc b M) (hb : Below wc.heap.size wc wd) : EBx pl w wd b M := ⟨up_trans h.up hb, h.box.up hb h.box.lt, h.res.up hb h.res.lt, h.dw.below hb⟩
theorem pl2_of {pl : Nat → Prop} {w wc : World} (h : w.heap.size + 2 ≤ wc.heap.size) : ∀ b, plN (pl2 pl w) wc b → pl2 pl w b := fun b hb => hb.elim id fun hb => pl2_new h b hb
theorem EBx.big {pl : Nat → Prop} {w wc : World} {b : BR} {M : DM} (h : EBx pl w wc b M) : w.heap.size + 2 ≤ wc.heap.size := h.res.lt
theorem EBx.lay {pl : Nat → Prop} {w wc : World} {b : BR} {M : DM} (h : EBx pl w wc b M) {R : RL} {N : DM} (hd : DW wc (pl2 pl w) R N) : EBx pl w (wc.setCells w.heap.size 2 (dlC R N)) (b.put R) N :=
  have ho : Only (two2 w) wc (wc.setCells w.heap.size 2 (dlC R N)) := (only_cells (dlC R N) 2 wc).mono fun k _ hk => .inl hk
  ⟨ho.two2_below h.up, h.box.laid 2 (dlC R N) rfl, h.res.cellsOther 2 _ (by omega), hd.only ho pl2_no⟩
theorem EBx.fin {pl : Nat → Prop} {w wc : World} {b : BR} {M : DM} (h : EBx pl w wc b M) (cs : Array Value) : DW (wc.setRow (w.heap.size + 1) cs) (plN pl w) b.r M ∧ Below w.heap.size w (wc.setRow (w.heap.size + 1) cs) :=
  ⟨(h.dw.only ((Only.refl (two2 w) wc).row (.inr rfl) cs) pl2_no).lo (fun _ hb => hb.1), ((Only.refl (two2 w) wc).row (.inr rfl) cs).two2_below h.up⟩
theorem ebx {pl : Nat → Prop} {w : World} {b : BR} {M : DM} (h : DW w pl b.r M) : EBx pl w ((w.alloc (.cells (dbC b M).toArray 113)).alloc (.cells #[.bool false, .int .i64 0, .slice none 0 0, .slice none 0 0, .int .i64 0] 113)) b M :=
  have k := bx2 w (dbC b M) 113 dbZ 113
  ⟨k.up, k.box, k.res, h.old.below k.up⟩
/-- What a call gives that answers a document's barrier and something more. -/
def EPost (pl : Nat → Prop) (w : World) (b : BR) (x : Value) (e : Ending) (w' : World) : Prop :=
  ∃ M, e = .returned (.tuple #[.agg (dbC b M).toArray, x]) ∧ DW w' (plN pl w) b.r M ∧ Below w.heap.size w w'

set_option maxRecDepth 100000 in
set_option maxHeartbeats 2000000 in
theorem c_vcheck (al : Bool) (l : Int) (w : World) :
    Calls Tryz.prog 110 #[.agg (cfC al l).toArray] w fun e w' => e = .returned (.int .i64 (brChk l)) ∧ Below w.heap.size w w' := by
  have hX := bx1 w (cfC al l) 109
  generalize hw1 : w.alloc (.cells (cfC al l).toArray 109) = w1 at hX
  have HW := Lib.hid (show w.alloc (.cells #[.bool al, .int .i64 l] 109) = w1 from hw1)
  have HX := Lib.hid hX
  have c1 := hX.box.cell 1 _ rfl
  clear hX hw1
  rcases (by omega : l < 1 ∨ (1 ≤ l ∧ 65535 < l) ∨ (1 ≤ l ∧ l ≤ 65535)) with h0 | ⟨h0, h1⟩ | ⟨h0, h1⟩
  · have HE : Hid (brChk l = 8) := Lib.hid (chk_no (by unfold phFine; rw [decide_eq_false_iff_not]; omega))
    go_enter Tryz.func110, Tryz.ntmps110
    go_upto_region 1 with fail
    rw [HW.out]
    go_wp2
    go_ret
    rw [HE.out]
    exact ⟨rfl, HX.out.up⟩
  · have HE : Hid (brChk l = 8) := Lib.hid (chk_no (by unfold phFine; rw [decide_eq_false_iff_not]; omega))
    go_enter Tryz.func110, Tryz.ntmps110
    go_upto_region 1 with fail
    rw [HW.out]
    go_wp2
    go_ret
    rw [HE.out]
    exact ⟨rfl, HX.out.up⟩
  · have HE : Hid (brChk l = 0) := Lib.hid (br_chk_ok ((phFine_iff _ _).2 (by omega)))
    go_enter Tryz.func110, Tryz.ntmps110
    go_upto_region 1 with fail
    rw [HW.out]
    go_wp2
    go_ret
    rw [HE.out]
    exact ⟨rfl, HX.out.up⟩

set_option maxRecDepth 100000 in
set_option maxHeartbeats 2000000 in
theorem c_vnew (al : Bool) (l : Int) (w : World) :
    Calls Tryz.prog 69 #[.agg (cfC al l).toArray] w fun e w' => e = .returned (.tuple #[.agg (dbC (brNew al l) DM.nil).toArray, .int .i64 (brChk l)]) ∧ Below w.heap.size w w' := by
  have hX := bx2 w (cfC al l) 109 dbZ 113
  generalize hw1 : (w.alloc (.cells (cfC al l).toArray 109)).alloc (.cells dbZ.toArray 113) = w1 at hX
  have HW := Lib.hid (show (w.alloc (.cells #[.bool al, .int .i64 l] 109)).alloc (.cells #[.bool false, .int .i64 0, .slice none 0 0, .slice none 0 0, .int .i64 0] 113) = w1 from hw1)
  have HX := Lib.hid hX
  clear hX hw1
  have CK := Lib.hid (fun W => c_vcheck al l W)
  cases hf : phFine 0 l
  · rw [chk_no hf, new_no al hf, show dbC BR.zero DM.nil = dbZ from dbC_new false 0]
    rw [chk_no hf] at CK
    clear hf
    go_enter Tryz.func69, Tryz.ntmps69
    go_upto_region 1 with fail
    rw [HW.out]
    go_wp2_with (refine ldr (b := w.heap.size) (t := 109) (cs := cfC al l) (.tmp 1) rfl rfl Tryz.underlying109 rfl info_conf rfl ?_ ?_; (· exact HX.out.box))
    refine (CK.out _).mono ?_; rintro e w2 ⟨rfl, hb⟩
    have HA := Lib.hid (HX.out.next hb)
    clear hb
    go_wp2_with (refine str (b := w.heap.size + 1) (t := 113) (cs := dbZ) (ds := dbZ) (.tmp 2) (.tmp 9) rfl rfl rfl rfl info_db rfl new_one ?_ ?_; (· exact HA.out.res))
    refine bodyPost_ret (v := .tuple #[.agg (dbZ).toArray, .int .i64 (8)]) (results_ce (fn := Tryz.f69) (p := 2) (t := 3) rfl _ _ _ rfl (HA.out.res.row _) Tryz.underlying113 rfl info_db) rfl ?_
    exact ⟨rfl, below_setRow HA.out.up (by omega) _⟩
  · rw [br_chk_ok hf, new_ok al hf, dbC_new]
    rw [br_chk_ok hf] at CK
    clear hf
    go_enter Tryz.func69, Tryz.ntmps69
    go_upto_region 1 with fail
    rw [HW.out]
    go_wp2_with (refine ldr (b := w.heap.size) (t := 109) (cs := cfC al l) (.tmp 1) rfl rfl Tryz.underlying109 rfl info_conf rfl ?_ ?_; (· exact HX.out.box))
    refine (CK.out _).mono ?_; rintro e w2 ⟨rfl, hb⟩
    have HA := Lib.hid (HX.out.next hb)
    clear hb
    go_wp2_with (first | (refine ldr (b := w.heap.size) (t := 109) (cs := cfC al l) (.tmp 1) rfl rfl Tryz.underlying109 rfl info_conf rfl ?_ ?_; (· exact HA.out.box)) | (refine str (b := w.heap.size + 1) (t := 113) (cs := [.bool al, .int .i64 l, .slice none 0 0, .slice none 0 0, .int .i64 0]) (ds := dbZ) (.tmp 2) (.tmp 12) rfl rfl rfl rfl info_db rfl new_one ?_ ?_; (· exact HA.out.res)))
    refine bodyPost_ret (v := .tuple #[.agg ([.bool al, .int .i64 l, .slice none 0 0, .slice none 0 0, .int .i64 0]).toArray, .int .i64 (0)]) (results_ce (fn := Tryz.f69) (p := 2) (t := 3) rfl _ _ _ rfl (HA.out.res.row _) Tryz.underlying113 rfl info_db) rfl ?_
    exact ⟨rfl, below_setRow HA.out.up (by omega) _⟩

set_option maxRecDepth 100000 in
set_option maxHeartbeats 2000000 in
theorem c_brvfine {pl : Nat → Prop} {b : BR} {M : DM} {w : World} (h : DW w pl b.r M) :
    Calls Tryz.prog 107 #[.agg (dbC b M).toArray] w fun e w' => e = .returned (.bool (brFine b)) ∧ Below w.heap.size w w' := by
  have hX := bx1 w (dbC b M) 113
  generalize hw1 : w.alloc (.cells (dbC b M).toArray 113) = w1 at hX
  have HW := Lib.hid hw1
  have HX := Lib.hid hX
  have CR := Lib.hid (fun W (hW : Below w.heap.size w W) => c_dfine (h.below hW))
  have CP := Lib.hid (fun W => c_phrfine b.ph b.lim W)
  clear h hX hw1
  obtain ⟨q1, hq1⟩ : ∃ q1, rlFine b.r = q1 := ⟨_, rfl⟩
  obtain ⟨q2, hq2⟩ : ∃ q2, phFine b.ph b.lim = q2 := ⟨_, rfl⟩
  have HE : Hid (brFine b = (q1 && q2)) := Lib.hid (by unfold brFine; rw [hq1, hq2])
  rw [hq1] at CR
  rw [hq2] at CP
  rw [HE.out]
  clear hq1 hq2 HE
  obtain ⟨al, lim, ph⟩ := HX.out.box.db
  cases q2
  case false =>
    go_enter Tryz.func107, Tryz.ntmps107
    go_upto_region 1 with fail
    rw [HW.out]
    go_wp2_with fail
    refine (CP.out _).mono ?_; rintro e w2 ⟨rfl, rfl⟩
    go_wp2
    go_ret
    exact ⟨ret_bool (by simp), HX.out.up⟩
  case true =>
    go_enter Tryz.func107, Tryz.ntmps107
    go_upto_region 1 with fail
    rw [HW.out]
    go_wp2_with fail
    refine (CP.out _).mono ?_; rintro e w2 ⟨rfl, rfl⟩
    go_wp2_with (refine lmr (b := w.heap.size) (q := 2) (cs := dlC b.r M) (.tmp 10) rfl rfl Tryz.underlying111 rfl info_dl rfl ?_ ?_; (· exact HX.out.box.part 2 2 rfl))
    refine (CR.out _ HX.out.up).mono ?_; rintro e w3 ⟨rfl, hb⟩
    go_wp2
    go_ret
    exact ⟨ret_bool (by simp), up_trans HX.out.up hb⟩
end Go.Proofs.YtdiiilnebepfdaaGreatDoor

namespace Go.Proofs.YtdiiilnebepfdaaGreatDoor
open Go.RowKit

set_option maxRecDepth 100000 in
set_option maxHeartbeats 2000000 in
theorem c_venrol {pl : Nat → Prop} {b : BR} {M : DM} {w : World} (h : DW w pl b.r M) (p : Int) :
    Calls Tryz.prog 71 #[.agg (dbC b M).toArray, .int .i64 p] w (EPost pl w (brEnrol b p).1 (.int .i64 (brEnrol b p).2)) := by
  have hX := ebx h
  generalize hw1 : (w.alloc (.cells (dbC b M).toArray 113)).alloc (.cells #[.bool false, .int .i64 0, .slice none 0 0, .slice none 0 0, .int .i64 0] 113) = w1 at hX
  have HW := Lib.hid hw1
  have HX := Lib.hid hX
  have CF := Lib.hid (fun W (hW : EBx pl w W b M) => c_brvfine hW.dw)
  have CR := Lib.hid (fun W (hW : EBx pl w W b M) => c_denrolP hW.dw p)
  clear h hX hw1
  cases hf : brFine b
  case false =>
    have HE : Hid (brEnrol b p = (b, 1)) := Lib.hid (if_pos hf)
    rw [hf] at CF
    clear hf CR
    go_enter Tryz.func71, Tryz.ntmps71
    go_upto_region 1 with fail
    rw [HW.out]
    go_wp2_with (refine ldr (b := w.heap.size) (t := 113) (cs := dbC b M) (.tmp 2) rfl rfl Tryz.underlying113 rfl info_db rfl ?_ ?_; (· exact HX.out.box))
    refine (CF.out _ HX.out).mono ?_; rintro e w2 ⟨rfl, hb⟩
    have HA := Lib.hid (HX.out.next hb)
    clear hb
    go_wp2_with (first | (refine ldr (b := w.heap.size) (t := 113) (cs := dbC b M) (.tmp 2) rfl rfl Tryz.underlying113 rfl info_db rfl ?_ ?_; (· exact HA.out.box)) | (refine str (b := w.heap.size + 1) (t := 113) (cs := dbC b M) (ds := dbZ) (.tmp 4) (.tmp 11) rfl rfl rfl rfl info_db rfl dbC_one ?_ ?_; (· exact HA.out.res)))
    refine bodyPost_ret (v := .tuple #[.agg (dbC b M).toArray, .int .i64 (1)]) (results_ce (fn := Tryz.f71) (p := 4) (t := 5) rfl _ _ _ rfl (HA.out.res.row _) Tryz.underlying113 rfl info_db) rfl ?_
    rw [HE.out]
    have hfin := HA.out.fin (dbC b M).toArray
    exact ⟨M, rfl, hfin.1, hfin.2⟩
  case true =>
    have HE : Hid (brEnrol b p = (b.put (rlEnrol b.r p).1, (rlEnrol b.r p).2)) := Lib.hid (if_neg (by rw [hf]; decide))
    rw [HE.out]
    generalize rlEnrol b.r p = Rx at CR ⊢
    obtain ⟨R, x⟩ := Rx
    simp only at CR ⊢
    rw [hf] at CF
    clear hf HE
    go_enter Tryz.func71, Tryz.ntmps71
    go_upto_region 1 with fail
    rw [HW.out]
    go_wp2_with (refine ldr (b := w.heap.size) (t := 113) (cs := dbC b M) (.tmp 2) rfl rfl Tryz.underlying113 rfl info_db rfl ?_ ?_; (· exact HX.out.box))
    refine (CF.out _ HX.out).mono ?_; rintro e w2 ⟨rfl, hb⟩
    have HA := Lib.hid (HX.out.next hb)
    clear hb
    go_wp2_with (refine lmr (b := w.heap.size) (q := 2) (cs := dlC b.r M) (.tmp 13) rfl rfl Tryz.underlying111 rfl info_dl rfl ?_ ?_; (· exact HA.out.box.part 2 2 rfl))
    refine (CR.out _ HA.out).mono ?_; rintro e w3 ⟨N, rfl, hd, hb⟩
    have hq := up_alloc w3 (.cells (dlC R N).toArray 111)
    have HB := Lib.hid (HA.out.next (up_trans hb hq))
    have K := Lib.hid (Blk.new w3 (dlC R N) 111)
    have HC := Lib.hid (HB.out.lay ((hd.below hq).lo (pl2_of HA.out.big)))
    clear hb hq hd
    go_wp2_with (first | (refine snr (W := w3) (cs := dlC R N) (zs := dlZ) (t := 111) (.tmp 6) (.tmp 17) rfl rfl rfl rfl info_dl rfl dlC_one ?_ ?_ ?_; (· rfl); (· rfl)) | (refine ldr (b := w3.heap.size) (t := 111) (cs := dlC R N) (.tmp 6) rfl rfl Tryz.underlying111 rfl info_dl rfl ?_ ?_; (· exact K.out)) | (refine smr (b := w.heap.size) (q := 2) (cs := dlC R N) (.tmp 20) (.tmp 19) rfl rfl rfl rfl info_dl dlC_one ?_ ?_; (· exact HB.out.box.there 2 2 (Nat.le_add_right _ _))) | (refine ldr (b := w.heap.size) (t := 113) (cs := dbC (b.put R) N) (.tmp 2) rfl rfl Tryz.underlying113 rfl info_db rfl ?_ ?_; (· exact HC.out.box)) | (refine str (b := w.heap.size + 1) (t := 113) (cs := dbC (b.put R) N) (ds := dbZ) (.tmp 4) (.tmp 21) rfl rfl rfl rfl info_db rfl dbC_one ?_ ?_; (· exact HC.out.res)))
    refine bodyPost_ret (v := .tuple #[.agg (dbC (b.put R) N).toArray, .int .i64 (x)]) (results_ce (fn := Tryz.f71) (p := 4) (t := 5) rfl _ _ _ rfl (HC.out.res.row _) Tryz.underlying113 rfl info_db) rfl ?_
    have hfin := HC.out.fin (dbC (b.put R) N).toArray
    exact ⟨N, rfl, hfin.1, hfin.2⟩

set_option maxRecDepth 100000 in
set_option maxHeartbeats 2000000 in
theorem c_voffer {pl : Nat → Prop} {b : BR} {M : DM} {w : World} (h : DW w pl b.r M) (p : Int) (alt : Bool) :
    Calls Tryz.prog 73 #[.agg (dbC b M).toArray, .int .i64 p, .bool alt] w (EPost pl w (brOffer b p alt).1 (.int .i64 (brOffer b p alt).2)) := by
  have hX := ebx h
  generalize hw1 : (w.alloc (.cells (dbC b M).toArray 113)).alloc (.cells #[.bool false, .int .i64 0, .slice none 0 0, .slice none 0 0, .int .i64 0] 113) = w1 at hX
  have HW := Lib.hid hw1
  have HX := Lib.hid hX
  have CF := Lib.hid (fun W (hW : EBx pl w W b M) => c_brvfine hW.dw)
  have CR := Lib.hid (fun W (hW : EBx pl w W b M) => c_dofferP hW.dw p)
  clear h hX hw1
  cases hf : brFine b
  case false =>
    have HE : Hid (brOffer b p alt = (b, 1)) := Lib.hid (if_pos hf)
    rw [hf] at CF
    clear hf CR
    go_enter Tryz.func73, Tryz.ntmps73
    go_upto_region 1 with fail
    rw [HW.out]
    go_wp2_with (refine ldr (b := w.heap.size) (t := 113) (cs := dbC b M) (.tmp 3) rfl rfl Tryz.underlying113 rfl info_db rfl ?_ ?_; (· exact HX.out.box))
    refine (CF.out _ HX.out).mono ?_; rintro e w2 ⟨rfl, hb⟩
    have HA := Lib.hid (HX.out.next hb)
    clear hb
    go_wp2_with (first | (refine ldr (b := w.heap.size) (t := 113) (cs := dbC b M) (.tmp 3) rfl rfl Tryz.underlying113 rfl info_db rfl ?_ ?_; (· exact HA.out.box)) | (refine str (b := w.heap.size + 1) (t := 113) (cs := dbC b M) (ds := dbZ) (.tmp 6) (.tmp 13) rfl rfl rfl rfl info_db rfl dbC_one ?_ ?_; (· exact HA.out.res)))
    refine bodyPost_ret (v := .tuple #[.agg (dbC b M).toArray, .int .i64 (1)]) (results_ce (fn := Tryz.f73) (p := 6) (t := 7) rfl _ _ _ rfl (HA.out.res.row _) Tryz.underlying113 rfl info_db) rfl ?_
    rw [HE.out]
    have hfin := HA.out.fin (dbC b M).toArray
    exact ⟨M, rfl, hfin.1, hfin.2⟩
  rw [hf] at CF
  by_cases ha : (alt && !b.al) = true
  case pos =>
    have HE : Hid (brOffer b p alt = (b, 12)) := Lib.hid (by unfold brOffer; rw [if_neg (by rw [hf]; decide), if_pos ha])
    obtain ⟨rfl, hal⟩ : alt = true ∧ b.al = false := by
      cases alt <;> cases hb : b.al <;> simp_all
    clear hf CR ha
    go_enter Tryz.func73, Tryz.ntmps73
    go_upto_region 1 with fail
    rw [HW.out]
    go_wp2_with (refine ldr (b := w.heap.size) (t := 113) (cs := dbC b M) (.tmp 3) rfl rfl Tryz.underlying113 rfl info_db rfl ?_ ?_; (· exact HX.out.box))
    refine (CF.out _ HX.out).mono ?_; rintro e w2 ⟨rfl, hb⟩
    have HA := Lib.hid (HX.out.next hb)
    clear hb
    obtain ⟨al, lim, ph⟩ := HA.out.box.db
    rw [hal] at al
    go_wp2_with (first | (refine ldr (b := w.heap.size) (t := 113) (cs := dbC b M) (.tmp 3) rfl rfl Tryz.underlying113 rfl info_db rfl ?_ ?_; (· exact HA.out.box)) | (refine str (b := w.heap.size + 1) (t := 113) (cs := dbC b M) (ds := dbZ) (.tmp 6) (.tmp 21) rfl rfl rfl rfl info_db rfl dbC_one ?_ ?_; (· exact HA.out.res)))
    refine bodyPost_ret (v := .tuple #[.agg (dbC b M).toArray, .int .i64 (12)]) (results_ce (fn := Tryz.f73) (p := 6) (t := 7) rfl _ _ _ rfl (HA.out.res.row _) Tryz.underlying113 rfl info_db) rfl ?_
    rw [HE.out]
    have hfin := HA.out.fin (dbC b M).toArray
    exact ⟨M, rfl, hfin.1, hfin.2⟩
  by_cases hl : b.ph = b.lim
  case pos =>
    have HE : Hid (brOffer b p alt = (b, 14)) := Lib.hid (by unfold brOffer; rw [if_neg (by rw [hf]; decide), if_neg ha, if_pos hl])
    have g : (b.ph == b.lim) = true := beq_iff_eq.2 hl
    clear CR
    rcases (by cases alt <;> cases hb : b.al <;> simp_all : alt = false ∨ (alt = true ∧ b.al = true)) with rfl | ⟨rfl, hal⟩
    · clear hf ha hl
      go_enter Tryz.func73, Tryz.ntmps73
      go_upto_region 1 with fail
      rw [HW.out]
      go_wp2_with (refine ldr (b := w.heap.size) (t := 113) (cs := dbC b M) (.tmp 3) rfl rfl Tryz.underlying113 rfl info_db rfl ?_ ?_; (· exact HX.out.box))
      refine (CF.out _ HX.out).mono ?_; rintro e w2 ⟨rfl, hb⟩
      have HA := Lib.hid (HX.out.next hb)
      clear hb
      obtain ⟨al, lim, ph⟩ := HA.out.box.db
      go_wp2_with (first | (refine ldr (b := w.heap.size) (t := 113) (cs := dbC b M) (.tmp 3) rfl rfl Tryz.underlying113 rfl info_db rfl ?_ ?_; (· exact HA.out.box)) | (refine str (b := w.heap.size + 1) (t := 113) (cs := dbC b M) (ds := dbZ) (.tmp 6) (.tmp 28) rfl rfl rfl rfl info_db rfl dbC_one ?_ ?_; (· exact HA.out.res)))
      refine bodyPost_ret (v := .tuple #[.agg (dbC b M).toArray, .int .i64 (14)]) (results_ce (fn := Tryz.f73) (p := 6) (t := 7) rfl _ _ _ rfl (HA.out.res.row _) Tryz.underlying113 rfl info_db) rfl ?_
      rw [HE.out]
      have hfin := HA.out.fin (dbC b M).toArray
      exact ⟨M, rfl, hfin.1, hfin.2⟩
    · clear hf ha hl
      go_enter Tryz.func73, Tryz.ntmps73
      go_upto_region 1 with fail
      rw [HW.out]
      go_wp2_with (refine ldr (b := w.heap.size) (t := 113) (cs := dbC b M) (.tmp 3) rfl rfl Tryz.underlying113 rfl info_db rfl ?_ ?_; (· exact HX.out.box))
      refine (CF.out _ HX.out).mono ?_; rintro e w2 ⟨rfl, hb⟩
      have HA := Lib.hid (HX.out.next hb)
      clear hb
      obtain ⟨al, lim, ph⟩ := HA.out.box.db
      rw [hal] at al
      go_wp2_with (first | (refine ldr (b := w.heap.size) (t := 113) (cs := dbC b M) (.tmp 3) rfl rfl Tryz.underlying113 rfl info_db rfl ?_ ?_; (· exact HA.out.box)) | (refine str (b := w.heap.size + 1) (t := 113) (cs := dbC b M) (ds := dbZ) (.tmp 6) (.tmp 28) rfl rfl rfl rfl info_db rfl dbC_one ?_ ?_; (· exact HA.out.res)))
      refine bodyPost_ret (v := .tuple #[.agg (dbC b M).toArray, .int .i64 (14)]) (results_ce (fn := Tryz.f73) (p := 6) (t := 7) rfl _ _ _ rfl (HA.out.res.row _) Tryz.underlying113 rfl info_db) rfl ?_
      rw [HE.out]
      have hfin := HA.out.fin (dbC b M).toArray
      exact ⟨M, rfl, hfin.1, hfin.2⟩
  case neg =>
    have HE : Hid (brOffer b p alt = (b.put (rlOffer b.r p).1, (rlOffer b.r p).2)) := Lib.hid (by unfold brOffer; rw [if_neg (by rw [hf]; decide), if_neg ha, if_neg hl])
    rw [HE.out]
    have g : (b.ph == b.lim) = false := beq_eq_false_iff_ne.2 hl
    generalize rlOffer b.r p = Rx at CR ⊢
    obtain ⟨R, x⟩ := Rx
    simp only at CR ⊢
    rcases (by cases alt <;> cases hb : b.al <;> simp_all : alt = false ∨ (alt = true ∧ b.al = true)) with rfl | ⟨rfl, hal⟩
    · clear hf ha hl
      go_enter Tryz.func73, Tryz.ntmps73
      go_upto_region 1 with fail
      rw [HW.out]
      go_wp2_with (refine ldr (b := w.heap.size) (t := 113) (cs := dbC b M) (.tmp 3) rfl rfl Tryz.underlying113 rfl info_db rfl ?_ ?_; (· exact HX.out.box))
      refine (CF.out _ HX.out).mono ?_; rintro e w2 ⟨rfl, hb⟩
      have HA := Lib.hid (HX.out.next hb)
      clear hb
      obtain ⟨al, lim, ph⟩ := HA.out.box.db
      go_wp2_with (refine lmr (b := w.heap.size) (q := 2) (cs := dlC b.r M) (.tmp 30) rfl rfl Tryz.underlying111 rfl info_dl rfl ?_ ?_; (· exact HA.out.box.part 2 2 rfl))
      refine (CR.out _ HA.out).mono ?_; rintro e w3 ⟨N, rfl, hd, hb⟩
      have hq := up_alloc w3 (.cells (dlC R N).toArray 111)
      have HB := Lib.hid (HA.out.next (up_trans hb hq))
      have K := Lib.hid (Blk.new w3 (dlC R N) 111)
      have HC := Lib.hid (HB.out.lay ((hd.below hq).lo (pl2_of HA.out.big)))
      clear hb hq hd
      go_wp2_with (first | (refine snr (W := w3) (cs := dlC R N) (zs := dlZ) (t := 111) (.tmp 8) (.tmp 34) rfl rfl rfl rfl info_dl rfl dlC_one ?_ ?_ ?_; (· rfl); (· rfl)) | (refine ldr (b := w3.heap.size) (t := 111) (cs := dlC R N) (.tmp 8) rfl rfl Tryz.underlying111 rfl info_dl rfl ?_ ?_; (· exact K.out)) | (refine smr (b := w.heap.size) (q := 2) (cs := dlC R N) (.tmp 37) (.tmp 36) rfl rfl rfl rfl info_dl dlC_one ?_ ?_; (· exact HB.out.box.there 2 2 (Nat.le_add_right _ _))) | (refine ldr (b := w.heap.size) (t := 113) (cs := dbC (b.put R) N) (.tmp 3) rfl rfl Tryz.underlying113 rfl info_db rfl ?_ ?_; (· exact HC.out.box)) | (refine str (b := w.heap.size + 1) (t := 113) (cs := dbC (b.put R) N) (ds := dbZ) (.tmp 6) (.tmp 38) rfl rfl rfl rfl info_db rfl dbC_one ?_ ?_; (· exact HC.out.res)))
      refine bodyPost_ret (v := .tuple #[.agg (dbC (b.put R) N).toArray, .int .i64 (x)]) (results_ce (fn := Tryz.f73) (p := 6) (t := 7) rfl _ _ _ rfl (HC.out.res.row _) Tryz.underlying113 rfl info_db) rfl ?_
      have hfin := HC.out.fin (dbC (b.put R) N).toArray
      exact ⟨N, rfl, hfin.1, hfin.2⟩
    · clear hf ha hl
      go_enter Tryz.func73, Tryz.ntmps73
      go_upto_region 1 with fail
      rw [HW.out]
      go_wp2_with (refine ldr (b := w.heap.size) (t := 113) (cs := dbC b M) (.tmp 3) rfl rfl Tryz.underlying113 rfl info_db rfl ?_ ?_; (· exact HX.out.box))
      refine (CF.out _ HX.out).mono ?_; rintro e w2 ⟨rfl, hb⟩
      have HA := Lib.hid (HX.out.next hb)
      clear hb
      obtain ⟨al, lim, ph⟩ := HA.out.box.db
      rw [hal] at al
      go_wp2_with (refine lmr (b := w.heap.size) (q := 2) (cs := dlC b.r M) (.tmp 30) rfl rfl Tryz.underlying111 rfl info_dl rfl ?_ ?_; (· exact HA.out.box.part 2 2 rfl))
      refine (CR.out _ HA.out).mono ?_; rintro e w3 ⟨N, rfl, hd, hb⟩
      have hq := up_alloc w3 (.cells (dlC R N).toArray 111)
      have HB := Lib.hid (HA.out.next (up_trans hb hq))
      have K := Lib.hid (Blk.new w3 (dlC R N) 111)
      have HC := Lib.hid (HB.out.lay ((hd.below hq).lo (pl2_of HA.out.big)))
      clear hb hq hd
      go_wp2_with (first | (refine snr (W := w3) (cs := dlC R N) (zs := dlZ) (t := 111) (.tmp 8) (.tmp 34) rfl rfl rfl rfl info_dl rfl dlC_one ?_ ?_ ?_; (· rfl); (· rfl)) | (refine ldr (b := w3.heap.size) (t := 111) (cs := dlC R N) (.tmp 8) rfl rfl Tryz.underlying111 rfl info_dl rfl ?_ ?_; (· exact K.out)) | (refine smr (b := w.heap.size) (q := 2) (cs := dlC R N) (.tmp 37) (.tmp 36) rfl rfl rfl rfl info_dl dlC_one ?_ ?_; (· exact HB.out.box.there 2 2 (Nat.le_add_right _ _))) | (refine ldr (b := w.heap.size) (t := 113) (cs := dbC (b.put R) N) (.tmp 3) rfl rfl Tryz.underlying113 rfl info_db rfl ?_ ?_; (· exact HC.out.box)) | (refine str (b := w.heap.size + 1) (t := 113) (cs := dbC (b.put R) N) (ds := dbZ) (.tmp 6) (.tmp 38) rfl rfl rfl rfl info_db rfl dbC_one ?_ ?_; (· exact HC.out.res)))
      refine bodyPost_ret (v := .tuple #[.agg (dbC (b.put R) N).toArray, .int .i64 (x)]) (results_ce (fn := Tryz.f73) (p := 6) (t := 7) rfl _ _ _ rfl (HC.out.res.row _) Tryz.underlying113 rfl info_db) rfl ?_
      have hfin := HC.out.fin (dbC (b.put R) N).toArray
      exact ⟨N, rfl, hfin.1, hfin.2⟩

end Go.Proofs.YtdiiilnebepfdaaGreatDoor

namespace Go.Proofs.YtdiiilnebepfdaaGreatDoor
open Go.RowKit

end Go.Proofs.YtdiiilnebepfdaaGreatDoor
