/- The document's Enrol, Resign, Offer, Withdraw (layer 22). -/
import Derived.Test.YtlfglibepldjpaaDoorBrd
namespace Go.Proofs.YtlfglibepldjpaaDoor
open Go.RowKit

set_option maxRecDepth 100000 in
set_option maxHeartbeats 2000000 in
theorem c_venrol {pl : Nat → Prop} {b : BR} {M : DM} {w : World} (h : DW w pl b.r M) (p : Int) :
    Calls Tryd.prog 54 #[.agg (dbC b M).toArray, .int .i64 p] w (EPost pl w (brEnrol b p).1 (.int .i64 (brEnrol b p).2)) := by
  have hX := ebx h
  generalize hw1 : (w.alloc (.cells (dbC b M).toArray 73)).alloc (.cells #[.bool false, .int .i64 0, .slice none 0 0, .slice none 0 0, .int .i64 0] 73) = w1 at hX
  have HW := Lib.hid hw1
  have HX := Lib.hid hX
  have CF := Lib.hid (fun W (hW : EBx pl w W b M) => c_vfine hW.dw)
  have CR := Lib.hid (fun W (hW : EBx pl w W b M) => c_denrolP hW.dw p)
  clear h hX hw1
  cases hf : brFine b
  case false =>
    have HE : Hid (brEnrol b p = (b, 1)) := Lib.hid (if_pos hf)
    rw [hf] at CF
    clear hf CR
    go_enter Tryd.func54, Tryd.ntmps54
    go_upto_region 1 with fail
    rw [HW.out]
    go_wp2_with (refine ldr (b := w.heap.size) (t := 73) (cs := dbC b M) (.tmp 2) rfl rfl Tryd.underlying73 rfl info_db rfl ?_ ?_; (· exact HX.out.box))
    refine (CF.out _ HX.out).mono ?_; rintro e w2 ⟨rfl, hb⟩
    have HA := Lib.hid (HX.out.next hb)
    clear hb
    go_wp2_with (first | (refine ldr (b := w.heap.size) (t := 73) (cs := dbC b M) (.tmp 2) rfl rfl Tryd.underlying73 rfl info_db rfl ?_ ?_; (· exact HA.out.box)) | (refine str (b := w.heap.size + 1) (t := 73) (cs := dbC b M) (ds := dbZ) (.tmp 4) (.tmp 11) rfl rfl rfl rfl info_db rfl dbC_one ?_ ?_; (· exact HA.out.res)))
    refine bodyPost_ret (v := .tuple #[.agg (dbC b M).toArray, .int .i64 (1)]) (results_ce (fn := Tryd.f54) (p := 4) (t := 5) rfl _ _ _ rfl (HA.out.res.row _) Tryd.underlying73 rfl info_db) rfl ?_
    rw [HE.out]
    have hfin := HA.out.fin (dbC b M).toArray
    exact ⟨M, rfl, hfin.1, hfin.2⟩
  case true =>
    have HE : Hid (brEnrol b p = (b.put (rlEnrol b.r p).1, (rlEnrol b.r p).2)) := Lib.hid (if_neg (by rw [hf]; decide))
    rw [HE.out]
    generalize rlEnrol b.r p = Rx at CR ⊢
    obtain ⟨R, x⟩ := Rx
    simp only at CR ⊢
    rw [hf] at CF
    clear hf HE
    go_enter Tryd.func54, Tryd.ntmps54
    go_upto_region 1 with fail
    rw [HW.out]
    go_wp2_with (refine ldr (b := w.heap.size) (t := 73) (cs := dbC b M) (.tmp 2) rfl rfl Tryd.underlying73 rfl info_db rfl ?_ ?_; (· exact HX.out.box))
    refine (CF.out _ HX.out).mono ?_; rintro e w2 ⟨rfl, hb⟩
    have HA := Lib.hid (HX.out.next hb)
    clear hb
    go_wp2_with (refine lmr (b := w.heap.size) (q := 2) (cs := dlC b.r M) (.tmp 13) rfl rfl Tryd.underlying71 rfl info_dl rfl ?_ ?_; (· exact HA.out.box.part 2 2 rfl))
    refine (CR.out _ HA.out).mono ?_; rintro e w3 ⟨N, rfl, hd, hb⟩
    have hq := up_alloc w3 (.cells (dlC R N).toArray 71)
    have HB := Lib.hid (HA.out.next (up_trans hb hq))
    have K := Lib.hid (Blk.new w3 (dlC R N) 71)
    have HC := Lib.hid (HB.out.lay ((hd.below hq).lo (pl2_of HA.out.big)))
    clear hb hq hd
    go_wp2_with (first | (refine snr (W := w3) (cs := dlC R N) (zs := dlZ) (t := 71) (.tmp 6) (.tmp 17) rfl rfl rfl rfl info_dl rfl dlC_one ?_ ?_ ?_; (· rfl); (· rfl)) | (refine ldr (b := w3.heap.size) (t := 71) (cs := dlC R N) (.tmp 6) rfl rfl Tryd.underlying71 rfl info_dl rfl ?_ ?_; (· exact K.out)) | (refine smr (b := w.heap.size) (q := 2) (cs := dlC R N) (.tmp 20) (.tmp 19) rfl rfl rfl rfl info_dl dlC_one ?_ ?_; (· exact HB.out.box.there 2 2 (Nat.le_add_right _ _))) | (refine ldr (b := w.heap.size) (t := 73) (cs := dbC (b.put R) N) (.tmp 2) rfl rfl Tryd.underlying73 rfl info_db rfl ?_ ?_; (· exact HC.out.box)) | (refine str (b := w.heap.size + 1) (t := 73) (cs := dbC (b.put R) N) (ds := dbZ) (.tmp 4) (.tmp 21) rfl rfl rfl rfl info_db rfl dbC_one ?_ ?_; (· exact HC.out.res)))
    refine bodyPost_ret (v := .tuple #[.agg (dbC (b.put R) N).toArray, .int .i64 (x)]) (results_ce (fn := Tryd.f54) (p := 4) (t := 5) rfl _ _ _ rfl (HC.out.res.row _) Tryd.underlying73 rfl info_db) rfl ?_
    have hfin := HC.out.fin (dbC (b.put R) N).toArray
    exact ⟨N, rfl, hfin.1, hfin.2⟩

set_option maxRecDepth 100000 in
set_option maxHeartbeats 2000000 in
theorem c_vresign {pl : Nat → Prop} {b : BR} {M : DM} {w : World} (h : DW w pl b.r M) (p : Int) :
    Calls Tryd.prog 50 #[.agg (dbC b M).toArray, .int .i64 p] w (EPost pl w (brResign b p).1 (.int .i64 (brResign b p).2)) := by
  have hX := ebx h
  generalize hw1 : (w.alloc (.cells (dbC b M).toArray 73)).alloc (.cells #[.bool false, .int .i64 0, .slice none 0 0, .slice none 0 0, .int .i64 0] 73) = w1 at hX
  have HW := Lib.hid hw1
  have HX := Lib.hid hX
  have CF := Lib.hid (fun W (hW : EBx pl w W b M) => c_vfine hW.dw)
  have CR := Lib.hid (fun W (hW : EBx pl w W b M) => c_dresignP hW.dw p)
  clear h hX hw1
  cases hf : brFine b
  case false =>
    have HE : Hid (brResign b p = (b, 1)) := Lib.hid (if_pos hf)
    rw [hf] at CF
    clear hf CR
    go_enter Tryd.func50, Tryd.ntmps50
    go_upto_region 1 with fail
    rw [HW.out]
    go_wp2_with (refine ldr (b := w.heap.size) (t := 73) (cs := dbC b M) (.tmp 2) rfl rfl Tryd.underlying73 rfl info_db rfl ?_ ?_; (· exact HX.out.box))
    refine (CF.out _ HX.out).mono ?_; rintro e w2 ⟨rfl, hb⟩
    have HA := Lib.hid (HX.out.next hb)
    clear hb
    go_wp2_with (first | (refine ldr (b := w.heap.size) (t := 73) (cs := dbC b M) (.tmp 2) rfl rfl Tryd.underlying73 rfl info_db rfl ?_ ?_; (· exact HA.out.box)) | (refine str (b := w.heap.size + 1) (t := 73) (cs := dbC b M) (ds := dbZ) (.tmp 4) (.tmp 11) rfl rfl rfl rfl info_db rfl dbC_one ?_ ?_; (· exact HA.out.res)))
    refine bodyPost_ret (v := .tuple #[.agg (dbC b M).toArray, .int .i64 (1)]) (results_ce (fn := Tryd.f50) (p := 4) (t := 5) rfl _ _ _ rfl (HA.out.res.row _) Tryd.underlying73 rfl info_db) rfl ?_
    rw [HE.out]
    have hfin := HA.out.fin (dbC b M).toArray
    exact ⟨M, rfl, hfin.1, hfin.2⟩
  case true =>
    have HE : Hid (brResign b p = (b.put (rlResign b.r p).1, (rlResign b.r p).2)) := Lib.hid (if_neg (by rw [hf]; decide))
    rw [HE.out]
    generalize rlResign b.r p = Rx at CR ⊢
    obtain ⟨R, x⟩ := Rx
    simp only at CR ⊢
    rw [hf] at CF
    clear hf HE
    go_enter Tryd.func50, Tryd.ntmps50
    go_upto_region 1 with fail
    rw [HW.out]
    go_wp2_with (refine ldr (b := w.heap.size) (t := 73) (cs := dbC b M) (.tmp 2) rfl rfl Tryd.underlying73 rfl info_db rfl ?_ ?_; (· exact HX.out.box))
    refine (CF.out _ HX.out).mono ?_; rintro e w2 ⟨rfl, hb⟩
    have HA := Lib.hid (HX.out.next hb)
    clear hb
    go_wp2_with (refine lmr (b := w.heap.size) (q := 2) (cs := dlC b.r M) (.tmp 13) rfl rfl Tryd.underlying71 rfl info_dl rfl ?_ ?_; (· exact HA.out.box.part 2 2 rfl))
    refine (CR.out _ HA.out).mono ?_; rintro e w3 ⟨N, rfl, hd, hb⟩
    have hq := up_alloc w3 (.cells (dlC R N).toArray 71)
    have HB := Lib.hid (HA.out.next (up_trans hb hq))
    have K := Lib.hid (Blk.new w3 (dlC R N) 71)
    have HC := Lib.hid (HB.out.lay ((hd.below hq).lo (pl2_of HA.out.big)))
    clear hb hq hd
    go_wp2_with (first | (refine snr (W := w3) (cs := dlC R N) (zs := dlZ) (t := 71) (.tmp 6) (.tmp 17) rfl rfl rfl rfl info_dl rfl dlC_one ?_ ?_ ?_; (· rfl); (· rfl)) | (refine ldr (b := w3.heap.size) (t := 71) (cs := dlC R N) (.tmp 6) rfl rfl Tryd.underlying71 rfl info_dl rfl ?_ ?_; (· exact K.out)) | (refine smr (b := w.heap.size) (q := 2) (cs := dlC R N) (.tmp 20) (.tmp 19) rfl rfl rfl rfl info_dl dlC_one ?_ ?_; (· exact HB.out.box.there 2 2 (Nat.le_add_right _ _))) | (refine ldr (b := w.heap.size) (t := 73) (cs := dbC (b.put R) N) (.tmp 2) rfl rfl Tryd.underlying73 rfl info_db rfl ?_ ?_; (· exact HC.out.box)) | (refine str (b := w.heap.size + 1) (t := 73) (cs := dbC (b.put R) N) (ds := dbZ) (.tmp 4) (.tmp 21) rfl rfl rfl rfl info_db rfl dbC_one ?_ ?_; (· exact HC.out.res)))
    refine bodyPost_ret (v := .tuple #[.agg (dbC (b.put R) N).toArray, .int .i64 (x)]) (results_ce (fn := Tryd.f50) (p := 4) (t := 5) rfl _ _ _ rfl (HC.out.res.row _) Tryd.underlying73 rfl info_db) rfl ?_
    have hfin := HC.out.fin (dbC (b.put R) N).toArray
    exact ⟨N, rfl, hfin.1, hfin.2⟩

set_option maxRecDepth 100000 in
set_option maxHeartbeats 2000000 in
theorem c_voffer {pl : Nat → Prop} {b : BR} {M : DM} {w : World} (h : DW w pl b.r M) (p : Int) (alt : Bool) :
    Calls Tryd.prog 40 #[.agg (dbC b M).toArray, .int .i64 p, .bool alt] w (EPost pl w (brOffer b p alt).1 (.int .i64 (brOffer b p alt).2)) := by
  have hX := ebx h
  generalize hw1 : (w.alloc (.cells (dbC b M).toArray 73)).alloc (.cells #[.bool false, .int .i64 0, .slice none 0 0, .slice none 0 0, .int .i64 0] 73) = w1 at hX
  have HW := Lib.hid hw1
  have HX := Lib.hid hX
  have CF := Lib.hid (fun W (hW : EBx pl w W b M) => c_vfine hW.dw)
  have CR := Lib.hid (fun W (hW : EBx pl w W b M) => c_dofferP hW.dw p)
  clear h hX hw1
  cases hf : brFine b
  case false =>
    have HE : Hid (brOffer b p alt = (b, 1)) := Lib.hid (if_pos hf)
    rw [hf] at CF
    clear hf CR
    go_enter Tryd.func40, Tryd.ntmps40
    go_upto_region 1 with fail
    rw [HW.out]
    go_wp2_with (refine ldr (b := w.heap.size) (t := 73) (cs := dbC b M) (.tmp 3) rfl rfl Tryd.underlying73 rfl info_db rfl ?_ ?_; (· exact HX.out.box))
    refine (CF.out _ HX.out).mono ?_; rintro e w2 ⟨rfl, hb⟩
    have HA := Lib.hid (HX.out.next hb)
    clear hb
    go_wp2_with (first | (refine ldr (b := w.heap.size) (t := 73) (cs := dbC b M) (.tmp 3) rfl rfl Tryd.underlying73 rfl info_db rfl ?_ ?_; (· exact HA.out.box)) | (refine str (b := w.heap.size + 1) (t := 73) (cs := dbC b M) (ds := dbZ) (.tmp 6) (.tmp 13) rfl rfl rfl rfl info_db rfl dbC_one ?_ ?_; (· exact HA.out.res)))
    refine bodyPost_ret (v := .tuple #[.agg (dbC b M).toArray, .int .i64 (1)]) (results_ce (fn := Tryd.f40) (p := 6) (t := 7) rfl _ _ _ rfl (HA.out.res.row _) Tryd.underlying73 rfl info_db) rfl ?_
    rw [HE.out]
    have hfin := HA.out.fin (dbC b M).toArray
    exact ⟨M, rfl, hfin.1, hfin.2⟩
  rw [hf] at CF
  by_cases ha : (alt && !b.al) = true
  case pos =>
    have HE : Hid (brOffer b p alt = (b, 12)) := Lib.hid (by unfold brOffer; rw [if_neg (by rw [hf]; decide), if_pos ha])
    obtain ⟨rfl, hal⟩ : alt = true ∧ b.al = false := by
      cases alt <;> cases hb : b.al <;> simp_all
    clear hf CR ha
    go_enter Tryd.func40, Tryd.ntmps40
    go_upto_region 1 with fail
    rw [HW.out]
    go_wp2_with (refine ldr (b := w.heap.size) (t := 73) (cs := dbC b M) (.tmp 3) rfl rfl Tryd.underlying73 rfl info_db rfl ?_ ?_; (· exact HX.out.box))
    refine (CF.out _ HX.out).mono ?_; rintro e w2 ⟨rfl, hb⟩
    have HA := Lib.hid (HX.out.next hb)
    clear hb
    obtain ⟨al, lim, ph⟩ := HA.out.box.db
    rw [hal] at al
    go_wp2_with (first | (refine ldr (b := w.heap.size) (t := 73) (cs := dbC b M) (.tmp 3) rfl rfl Tryd.underlying73 rfl info_db rfl ?_ ?_; (· exact HA.out.box)) | (refine str (b := w.heap.size + 1) (t := 73) (cs := dbC b M) (ds := dbZ) (.tmp 6) (.tmp 21) rfl rfl rfl rfl info_db rfl dbC_one ?_ ?_; (· exact HA.out.res)))
    refine bodyPost_ret (v := .tuple #[.agg (dbC b M).toArray, .int .i64 (12)]) (results_ce (fn := Tryd.f40) (p := 6) (t := 7) rfl _ _ _ rfl (HA.out.res.row _) Tryd.underlying73 rfl info_db) rfl ?_
    rw [HE.out]
    have hfin := HA.out.fin (dbC b M).toArray
    exact ⟨M, rfl, hfin.1, hfin.2⟩
  by_cases hl : b.ph = b.lim
  case pos =>
    have HE : Hid (brOffer b p alt = (b, 14)) := Lib.hid (by unfold brOffer; rw [if_neg (by rw [hf]; decide), if_neg ha, if_pos hl])
    have g : (b.ph == b.lim) = true := beq_iff_eq.2 hl
    clear CR
    rcases (by cases alt <;> cases hb : b.al <;> simp_all : alt = false ∨ (alt = true ∧ b.al = true)) with rfl | ⟨rfl, hal⟩
    · clear hf ha hl
      go_enter Tryd.func40, Tryd.ntmps40
      go_upto_region 1 with fail
      rw [HW.out]
      go_wp2_with (refine ldr (b := w.heap.size) (t := 73) (cs := dbC b M) (.tmp 3) rfl rfl Tryd.underlying73 rfl info_db rfl ?_ ?_; (· exact HX.out.box))
      refine (CF.out _ HX.out).mono ?_; rintro e w2 ⟨rfl, hb⟩
      have HA := Lib.hid (HX.out.next hb)
      clear hb
      obtain ⟨al, lim, ph⟩ := HA.out.box.db
      go_wp2_with (first | (refine ldr (b := w.heap.size) (t := 73) (cs := dbC b M) (.tmp 3) rfl rfl Tryd.underlying73 rfl info_db rfl ?_ ?_; (· exact HA.out.box)) | (refine str (b := w.heap.size + 1) (t := 73) (cs := dbC b M) (ds := dbZ) (.tmp 6) (.tmp 28) rfl rfl rfl rfl info_db rfl dbC_one ?_ ?_; (· exact HA.out.res)))
      refine bodyPost_ret (v := .tuple #[.agg (dbC b M).toArray, .int .i64 (14)]) (results_ce (fn := Tryd.f40) (p := 6) (t := 7) rfl _ _ _ rfl (HA.out.res.row _) Tryd.underlying73 rfl info_db) rfl ?_
      rw [HE.out]
      have hfin := HA.out.fin (dbC b M).toArray
      exact ⟨M, rfl, hfin.1, hfin.2⟩
    · clear hf ha hl
      go_enter Tryd.func40, Tryd.ntmps40
      go_upto_region 1 with fail
      rw [HW.out]
      go_wp2_with (refine ldr (b := w.heap.size) (t := 73) (cs := dbC b M) (.tmp 3) rfl rfl Tryd.underlying73 rfl info_db rfl ?_ ?_; (· exact HX.out.box))
      refine (CF.out _ HX.out).mono ?_; rintro e w2 ⟨rfl, hb⟩
      have HA := Lib.hid (HX.out.next hb)
      clear hb
      obtain ⟨al, lim, ph⟩ := HA.out.box.db
      rw [hal] at al
      go_wp2_with (first | (refine ldr (b := w.heap.size) (t := 73) (cs := dbC b M) (.tmp 3) rfl rfl Tryd.underlying73 rfl info_db rfl ?_ ?_; (· exact HA.out.box)) | (refine str (b := w.heap.size + 1) (t := 73) (cs := dbC b M) (ds := dbZ) (.tmp 6) (.tmp 28) rfl rfl rfl rfl info_db rfl dbC_one ?_ ?_; (· exact HA.out.res)))
      refine bodyPost_ret (v := .tuple #[.agg (dbC b M).toArray, .int .i64 (14)]) (results_ce (fn := Tryd.f40) (p := 6) (t := 7) rfl _ _ _ rfl (HA.out.res.row _) Tryd.underlying73 rfl info_db) rfl ?_
      rw [HE.out]
      have hfin := HA.out.fin (dbC b M).toArray
      exact ⟨M, rfl, hfin.1, hfin.2⟩
  case neg =>
    have HE : Hid (brOffer b p alt = (b.put (rlOffer b.r p).1, (rlOffer b.r p).2)) := Lib.hid (by unfold brOffer; rw [if_neg (by rw [hf]; decide), if_neg ha, if_neg hl])
    rw [HE.out]
    have g : (b.ph == b.lim) = false := beq_eq_false_iff_ne.2 hl
    generalize rlOffer b.r p = Rx at CR ⊢
    obtain ⟨R, x⟩ := Rx
    simp only at CR ⊢
    rcases (by cases alt <;> cases hb : b.al <;> simp_all : alt = false ∨ (alt = true ∧ b.al = true)) with rfl | ⟨rfl, hal⟩
    · clear hf ha hl
      go_enter Tryd.func40, Tryd.ntmps40
      go_upto_region 1 with fail
      rw [HW.out]
      go_wp2_with (refine ldr (b := w.heap.size) (t := 73) (cs := dbC b M) (.tmp 3) rfl rfl Tryd.underlying73 rfl info_db rfl ?_ ?_; (· exact HX.out.box))
      refine (CF.out _ HX.out).mono ?_; rintro e w2 ⟨rfl, hb⟩
      have HA := Lib.hid (HX.out.next hb)
      clear hb
      obtain ⟨al, lim, ph⟩ := HA.out.box.db
      go_wp2_with (refine lmr (b := w.heap.size) (q := 2) (cs := dlC b.r M) (.tmp 30) rfl rfl Tryd.underlying71 rfl info_dl rfl ?_ ?_; (· exact HA.out.box.part 2 2 rfl))
      refine (CR.out _ HA.out).mono ?_; rintro e w3 ⟨N, rfl, hd, hb⟩
      have hq := up_alloc w3 (.cells (dlC R N).toArray 71)
      have HB := Lib.hid (HA.out.next (up_trans hb hq))
      have K := Lib.hid (Blk.new w3 (dlC R N) 71)
      have HC := Lib.hid (HB.out.lay ((hd.below hq).lo (pl2_of HA.out.big)))
      clear hb hq hd
      go_wp2_with (first | (refine snr (W := w3) (cs := dlC R N) (zs := dlZ) (t := 71) (.tmp 8) (.tmp 34) rfl rfl rfl rfl info_dl rfl dlC_one ?_ ?_ ?_; (· rfl); (· rfl)) | (refine ldr (b := w3.heap.size) (t := 71) (cs := dlC R N) (.tmp 8) rfl rfl Tryd.underlying71 rfl info_dl rfl ?_ ?_; (· exact K.out)) | (refine smr (b := w.heap.size) (q := 2) (cs := dlC R N) (.tmp 37) (.tmp 36) rfl rfl rfl rfl info_dl dlC_one ?_ ?_; (· exact HB.out.box.there 2 2 (Nat.le_add_right _ _))) | (refine ldr (b := w.heap.size) (t := 73) (cs := dbC (b.put R) N) (.tmp 3) rfl rfl Tryd.underlying73 rfl info_db rfl ?_ ?_; (· exact HC.out.box)) | (refine str (b := w.heap.size + 1) (t := 73) (cs := dbC (b.put R) N) (ds := dbZ) (.tmp 6) (.tmp 38) rfl rfl rfl rfl info_db rfl dbC_one ?_ ?_; (· exact HC.out.res)))
      refine bodyPost_ret (v := .tuple #[.agg (dbC (b.put R) N).toArray, .int .i64 (x)]) (results_ce (fn := Tryd.f40) (p := 6) (t := 7) rfl _ _ _ rfl (HC.out.res.row _) Tryd.underlying73 rfl info_db) rfl ?_
      have hfin := HC.out.fin (dbC (b.put R) N).toArray
      exact ⟨N, rfl, hfin.1, hfin.2⟩
    · clear hf ha hl
      go_enter Tryd.func40, Tryd.ntmps40
      go_upto_region 1 with fail
      rw [HW.out]
      go_wp2_with (refine ldr (b := w.heap.size) (t := 73) (cs := dbC b M) (.tmp 3) rfl rfl Tryd.underlying73 rfl info_db rfl ?_ ?_; (· exact HX.out.box))
      refine (CF.out _ HX.out).mono ?_; rintro e w2 ⟨rfl, hb⟩
      have HA := Lib.hid (HX.out.next hb)
      clear hb
      obtain ⟨al, lim, ph⟩ := HA.out.box.db
      rw [hal] at al
      go_wp2_with (refine lmr (b := w.heap.size) (q := 2) (cs := dlC b.r M) (.tmp 30) rfl rfl Tryd.underlying71 rfl info_dl rfl ?_ ?_; (· exact HA.out.box.part 2 2 rfl))
      refine (CR.out _ HA.out).mono ?_; rintro e w3 ⟨N, rfl, hd, hb⟩
      have hq := up_alloc w3 (.cells (dlC R N).toArray 71)
      have HB := Lib.hid (HA.out.next (up_trans hb hq))
      have K := Lib.hid (Blk.new w3 (dlC R N) 71)
      have HC := Lib.hid (HB.out.lay ((hd.below hq).lo (pl2_of HA.out.big)))
      clear hb hq hd
      go_wp2_with (first | (refine snr (W := w3) (cs := dlC R N) (zs := dlZ) (t := 71) (.tmp 8) (.tmp 34) rfl rfl rfl rfl info_dl rfl dlC_one ?_ ?_ ?_; (· rfl); (· rfl)) | (refine ldr (b := w3.heap.size) (t := 71) (cs := dlC R N) (.tmp 8) rfl rfl Tryd.underlying71 rfl info_dl rfl ?_ ?_; (· exact K.out)) | (refine smr (b := w.heap.size) (q := 2) (cs := dlC R N) (.tmp 37) (.tmp 36) rfl rfl rfl rfl info_dl dlC_one ?_ ?_; (· exact HB.out.box.there 2 2 (Nat.le_add_right _ _))) | (refine ldr (b := w.heap.size) (t := 73) (cs := dbC (b.put R) N) (.tmp 3) rfl rfl Tryd.underlying73 rfl info_db rfl ?_ ?_; (· exact HC.out.box)) | (refine str (b := w.heap.size + 1) (t := 73) (cs := dbC (b.put R) N) (ds := dbZ) (.tmp 6) (.tmp 38) rfl rfl rfl rfl info_db rfl dbC_one ?_ ?_; (· exact HC.out.res)))
      refine bodyPost_ret (v := .tuple #[.agg (dbC (b.put R) N).toArray, .int .i64 (x)]) (results_ce (fn := Tryd.f40) (p := 6) (t := 7) rfl _ _ _ rfl (HC.out.res.row _) Tryd.underlying73 rfl info_db) rfl ?_
      have hfin := HC.out.fin (dbC (b.put R) N).toArray
      exact ⟨N, rfl, hfin.1, hfin.2⟩

set_option maxRecDepth 100000 in
set_option maxHeartbeats 2000000 in
theorem c_vwith {pl : Nat → Prop} {b : BR} {M : DM} {w : World} (h : DW w pl b.r M) (p : Int) :
    Calls Tryd.prog 47 #[.agg (dbC b M).toArray, .int .i64 p] w (fun e w' => ∃ N, e = .returned (.agg (dbC (brWith b p) N).toArray) ∧ DW w' (plN pl w) (brWith b p).r N ∧ Below w.heap.size w w') := by
  have hX := ebx h
  generalize hw1 : (w.alloc (.cells (dbC b M).toArray 73)).alloc (.cells #[.bool false, .int .i64 0, .slice none 0 0, .slice none 0 0, .int .i64 0] 73) = w1 at hX
  have HW := Lib.hid hw1
  have HX := Lib.hid hX
  have CF := Lib.hid (fun W (hW : EBx pl w W b M) => c_vfine hW.dw)
  have CR := Lib.hid (fun W (hW : EBx pl w W b M) => c_dwithP hW.dw p)
  clear h hX hw1
  cases hf : brFine b
  case false =>
    have HE : Hid (brWith b p = b) := Lib.hid (if_pos hf)
    rw [hf] at CF
    clear hf CR
    go_enter Tryd.func47, Tryd.ntmps47
    go_upto_region 1 with fail
    rw [HW.out]
    go_wp2_with (refine ldr (b := w.heap.size) (t := 73) (cs := dbC b M) (.tmp 2) rfl rfl Tryd.underlying73 rfl info_db rfl ?_ ?_; (· exact HX.out.box))
    refine (CF.out _ HX.out).mono ?_; rintro e w2 ⟨rfl, hb⟩
    have HA := Lib.hid (HX.out.next hb)
    clear hb
    go_wp2_with (first | (refine ldr (b := w.heap.size) (t := 73) (cs := dbC b M) (.tmp 2) rfl rfl Tryd.underlying73 rfl info_db rfl ?_ ?_; (· exact HA.out.box)) | (refine str (b := w.heap.size + 1) (t := 73) (cs := dbC b M) (ds := dbZ) (.tmp 4) (.tmp 10) rfl rfl rfl rfl info_db rfl dbC_one ?_ ?_; (· exact HA.out.res)))
    refine bodyPost_ret (v := .agg (dbC b M).toArray) (results_c (fn := Tryd.f47) (p := 4) rfl _ _ _ rfl (HA.out.res.row _) Tryd.underlying73 rfl info_db) rfl ?_
    rw [HE.out]
    have hfin := HA.out.fin (dbC b M).toArray
    exact ⟨M, rfl, hfin.1, hfin.2⟩
  case true =>
    have HE : Hid (brWith b p = b.put (rlWith b.r p).1) := Lib.hid (if_neg (by rw [hf]; decide))
    rw [HE.out]
    generalize rlWith b.r p = Rx at CR ⊢
    obtain ⟨R, x⟩ := Rx
    simp only at CR ⊢
    rw [hf] at CF
    clear hf HE
    go_enter Tryd.func47, Tryd.ntmps47
    go_upto_region 1 with fail
    rw [HW.out]
    go_wp2_with (refine ldr (b := w.heap.size) (t := 73) (cs := dbC b M) (.tmp 2) rfl rfl Tryd.underlying73 rfl info_db rfl ?_ ?_; (· exact HX.out.box))
    refine (CF.out _ HX.out).mono ?_; rintro e w2 ⟨rfl, hb⟩
    have HA := Lib.hid (HX.out.next hb)
    clear hb
    go_wp2_with (refine lmr (b := w.heap.size) (q := 2) (cs := dlC b.r M) (.tmp 12) rfl rfl Tryd.underlying71 rfl info_dl rfl ?_ ?_; (· exact HA.out.box.part 2 2 rfl))
    refine (CR.out _ HA.out).mono ?_; rintro e w3 ⟨N, rfl, hd, hb⟩
    have hq := up_alloc w3 (.cells (dlC R N).toArray 71)
    have HB := Lib.hid (HA.out.next (up_trans hb hq))
    have K := Lib.hid (Blk.new w3 (dlC R N) 71)
    have HC := Lib.hid (HB.out.lay ((hd.below hq).lo (pl2_of HA.out.big)))
    clear hb hq hd
    go_wp2_with (first | (refine snr (W := w3) (cs := dlC R N) (zs := dlZ) (t := 71) (.tmp 5) (.tmp 16) rfl rfl rfl rfl info_dl rfl dlC_one ?_ ?_ ?_; (· rfl); (· rfl)) | (refine ldr (b := w3.heap.size) (t := 71) (cs := dlC R N) (.tmp 5) rfl rfl Tryd.underlying71 rfl info_dl rfl ?_ ?_; (· exact K.out)) | (refine smr (b := w.heap.size) (q := 2) (cs := dlC R N) (.tmp 19) (.tmp 18) rfl rfl rfl rfl info_dl dlC_one ?_ ?_; (· exact HB.out.box.there 2 2 (Nat.le_add_right _ _))) | (refine ldr (b := w.heap.size) (t := 73) (cs := dbC (b.put R) N) (.tmp 2) rfl rfl Tryd.underlying73 rfl info_db rfl ?_ ?_; (· exact HC.out.box)) | (refine str (b := w.heap.size + 1) (t := 73) (cs := dbC (b.put R) N) (ds := dbZ) (.tmp 4) (.tmp 20) rfl rfl rfl rfl info_db rfl dbC_one ?_ ?_; (· exact HC.out.res)))
    refine bodyPost_ret (v := .agg (dbC (b.put R) N).toArray) (results_c (fn := Tryd.f47) (p := 4) rfl _ _ _ rfl (HC.out.res.row _) Tryd.underlying73 rfl info_db) rfl ?_
    have hfin := HC.out.fin (dbC (b.put R) N).toArray
    exact ⟨N, rfl, hfin.1, hfin.2⟩

end Go.Proofs.YtlfglibepldjpaaDoor
