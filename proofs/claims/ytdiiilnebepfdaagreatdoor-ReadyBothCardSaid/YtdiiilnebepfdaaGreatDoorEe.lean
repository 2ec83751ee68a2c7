/- The document's Recv and Send of a channel. -/
import Derived.Test.YtdiiilnebepfdaaGreatDoorC4
import Derived.Test.YtdiiilnebepfdaaGreatDoorC3
namespace Go.Proofs.YtdiiilnebepfdaaGreatDoor
open Go.RowKit

theorem bx2_rch (w : World) (C : CP) (M : SM) : Bx2 w ((w.alloc (.cells (chC C M).toArray 107)).alloc (.cells #[.int .i64 0, .int .i64 0, .int .i64 0, .int .i64 0, .int .i64 0, .slice none 0 0, .bool false, .slice none 0 0, .slice none 0 0, .bool false, .slice none 0 0] 107)) (chC C M) 107 chZ 107 := bx2 w _ _ chZ _
set_option maxRecDepth 100000 in
set_option maxHeartbeats 4000000 in
theorem c_rcrecv {w : World} {pl : Nat → Prop} {C : CP} {M : SM} (h : ChW w pl C M) (hn : ChFew M) (hp : ∀ b, w.heap.size ≤ b → pl b) (p : Int) :
    Calls Tryz.prog 48 #[.agg (chC C M).toArray, .int .i64 p] w (ChPost w pl (chRecv C p) (.int .i64 (chRecvE C p))) := by
  have hX := bx2_rch w C M
  generalize hw1 : (w.alloc (.cells (chC C M).toArray 107)).alloc (.cells #[.int .i64 0, .int .i64 0, .int .i64 0, .int .i64 0, .int .i64 0, .slice none 0 0, .bool false, .slice none 0 0, .slice none 0 0, .bool false, .slice none 0 0] 107) = w1 at hX
  have HW := Lib.hid hw1
  have HX := Lib.hid hX
  have HV := Lib.hid h
  have HP := Lib.hid hp
  have CF := Lib.hid (fun W (hW : Below w.heap.size w W) => c_rcfine (h.below hW) hn)
  have CJ := Lib.hid (fun W (hW : Below w.heap.size w W) (hz : w.heap.size + 2 ≤ W.heap.size) => c_mjoin (pl := chPlN w pl) (h.g.old.below hW) (by have := hn.g; omega) (plN_new hp hz) C.is p)
  have HE := Lib.hid (show chRecvE C p = if chFine C = false then 1 else lnJoinE C.is C.G p from rfl)
  have HC := Lib.hid (show chRecv C p = if chRecvE C p = 0 then { C with G := C.G ++ [p] } else C from rfl)
  have HJ := Lib.hid (show lnJoinL C.is C.G p = if lnJoinE C.is C.G p = 0 then C.G ++ [p] else C.G from rfl)
  generalize chRecvE C p = er at HE HC ⊢
  generalize chRecv C p = C2 at HC ⊢
  generalize chFine C = q1 at CF HE
  generalize lnJoinE C.is C.G p = ej at CJ HE HJ
  generalize lnJoinL C.is C.G p = LJ at CJ HJ
  clear h hp hn hX hw1

  cases q1
  · go_enter Tryz.func48, Tryz.ntmps48
    go_upto_region 1 with fail
    rw [HW.out]
    go_wp2_with (refine ld_row HX.out.box rfl (.tmp 2) rfl rfl Tryz.underlying107 rfl info_rch ?_)
    refine (CF.out _ HX.out.up).mono ?_; rintro e w2 ⟨rfl, hb2⟩
    have HA := Lib.hid (HX.out.next hb2)
    clear hb2
    go_wp2_with (first | (refine ld_row HA.out.box rfl (.tmp 2) rfl rfl Tryz.underlying107 rfl info_rch ?_) | (refine st_row (cs := chC C M) HA.out.res rfl (.tmp 4) (.tmp 11) rfl rfl rfl info_rch rfl chC_one ?_))
    refine bodyPost_ret (v := .tuple #[.agg (chC C M).toArray, .int .i64 1]) (results_ce (fn := Tryz.f48) (p := 4) (t := 5) rfl _ _ _ rfl (HA.out.res.row _) Tryz.underlying107 rfl info_rch) rfl ?_
    have e1 : er = 1 := by rw [HE.out]; rfl
    have e2 : C2 = C := by rw [HC.out, e1]; rfl
    rw [e1, e2]
    exact ⟨M, rfl, HV.out.below (below_setRow HA.out.up (by omega) _), below_setRow HA.out.up (by omega) _⟩
  have HE' : Hid (er = ej) := Lib.hid (by rw [HE.out]; rfl)
  by_cases h0 : ej = 0
  · subst h0
    have e1 : Hid (er = 0) := HE'
    have e2 : Hid (C2 = { C with G := C.G ++ [p] }) := Lib.hid (by rw [HC.out, e1.out]; rfl)
    have e3 : Hid (LJ = C.G ++ [p]) := Lib.hid (by rw [HJ.out]; rfl)
    go_enter Tryz.func48, Tryz.ntmps48
    go_upto_region 1 with fail
    rw [HW.out]
    go_wp2_with (refine ld_row HX.out.box rfl (.tmp 2) rfl rfl Tryz.underlying107 rfl info_rch ?_)
    refine (CF.out _ HX.out.up).mono ?_; rintro e w2 ⟨rfl, hb2⟩
    have HA := Lib.hid (HX.out.next hb2)
    clear hb2
    have c9 := HA.out.box.cis
    have c10 := HA.out.box.cG
    go_wp2_with fail
    refine (CJ.out _ HA.out.up (by have := HA.out.res.lt; omega)).mono ?_; rintro e w3 ⟨A3, n3, c3, rfl, hL3, hb3⟩
    clear c9 c10
    have HB := Lib.hid (HA.out.next (up_trans hb3 (up_alloc w3 (.cells #[.bool C.is, .slice A3 n3 c3] 105))))
    have HL2 := Lib.hid (hL3.below (up_alloc w3 (.cells #[.bool C.is, .slice A3 n3 c3] 105)))
    have f9 := HB.out.box.free 9
    have f10 := HB.out.box.free 10
    have c9 := HB.out.box.cis
    have c10 := HB.out.box.cG
    clear hL3 hb3
    have HQ := Lib.hid (HB.out.box.pIn A3 n3 c3 (C.G ++ [p]))
    have HR := Lib.hid ((HB.out.res.other ⟨w.heap.size, 9, none⟩ (by simp) (.bool C.is)).other ⟨w.heap.size, 10, none⟩ (by simp) (.slice A3 n3 c3))
    go_wp2_with (first | (refine ld_row HQ.out rfl (.tmp 2) rfl rfl Tryz.underlying107 rfl info_rch ?_) | (refine st_row (cs := chC { C with G := C.G ++ [p] } { M with G := ⟨A3, n3, c3⟩ }) HR.out rfl (.tmp 4) (.tmp 25) rfl rfl rfl info_rch rfl chC_one ?_))
    refine bodyPost_ret (v := .tuple #[.agg (chC { C with G := C.G ++ [p] } { M with G := ⟨A3, n3, c3⟩ }).toArray, .int .i64 0]) (results_ce (fn := Tryz.f48) (p := 4) (t := 5) rfl _ _ _ rfl (HR.out.row _) Tryz.underlying107 rfl info_rch) rfl ?_
    rw [e1.out, e2.out]
    have ho : Only (two w) (w3.alloc (.cells #[.bool C.is, .slice A3 n3 c3] 105)) _ := (((Only.refl (two w) _).box 9 (.bool C.is)).box 10 (.slice A3 n3 c3)).res (chC { C with G := C.G ++ [p] } { M with G := ⟨A3, n3, c3⟩ }).toArray
    have hv := HV.out.old.below HB.out.up
    have hl3 := HL2.out
    rw [e3.out] at hl3
    exact ⟨{ M with G := ⟨A3, n3, c3⟩ }, rfl, ((show ChW _ (chPlN w pl) { C with G := C.G ++ [p] } { M with G := ⟨A3, n3, c3⟩ } from ⟨hv.v, hv.w_, hv.s, hl3⟩).only ho plN_no).lo (fun _ h => h.1), ho.two_below HB.out.up⟩
  · have hne : (ej == 0) = false := beq_eq_false_iff_ne.2 h0
    have hne' : (ej != 0) = true := by simp [bne, hne]
    have e2 : Hid (C2 = C) := Lib.hid (by rw [HC.out, HE'.out, if_neg h0])
    clear h0
    go_enter Tryz.func48, Tryz.ntmps48
    go_upto_region 1 with fail
    rw [HW.out]
    go_wp2_with (refine ld_row HX.out.box rfl (.tmp 2) rfl rfl Tryz.underlying107 rfl info_rch ?_)
    refine (CF.out _ HX.out.up).mono ?_; rintro e w2 ⟨rfl, hb2⟩
    have HA := Lib.hid (HX.out.next hb2)
    clear hb2
    have c9 := HA.out.box.cis
    have c10 := HA.out.box.cG
    go_wp2_with fail
    refine (CJ.out _ HA.out.up (by have := HA.out.res.lt; omega)).mono ?_; rintro e w3 ⟨A3, n3, c3, rfl, hL3, hb3⟩
    clear c9 c10
    have HB := Lib.hid (HA.out.next (up_trans hb3 (up_alloc w3 (.cells #[.bool C.is, .slice A3 n3 c3] 105))))
    clear hL3 hb3
    go_wp2_with (first | (refine ld_row HB.out.box rfl (.tmp 2) rfl rfl Tryz.underlying107 rfl info_rch ?_) | (refine st_row (cs := chC C M) HB.out.res rfl (.tmp 4) (.tmp 21) rfl rfl rfl info_rch rfl chC_one ?_))
    refine bodyPost_ret (v := .tuple #[.agg (chC C M).toArray, .int .i64 ej]) (results_ce (fn := Tryz.f48) (p := 4) (t := 5) rfl _ _ _ rfl (HB.out.res.row _) Tryz.underlying107 rfl info_rch) rfl ?_
    rw [HE'.out, e2.out]
    exact ⟨M, rfl, HV.out.below (below_setRow HB.out.up (by omega) _), below_setRow HB.out.up (by omega) _⟩
set_option maxRecDepth 100000 in
set_option maxHeartbeats 4000000 in
theorem c_rcsend {w : World} {pl : Nat → Prop} {C : CP} {M : SM} (h : ChW w pl C M) (hn : ChFew M) (hp : ∀ b, w.heap.size ≤ b → pl b) (p v : Int) :
    Calls Tryz.prog 49 #[.agg (chC C M).toArray, .int .i64 p, .int .i64 v] w (ChPost w pl (chSend C p v) (.int .i64 (chSendE C p v))) := by
  have hX := bx2_rch w C M
  generalize hw1 : (w.alloc (.cells (chC C M).toArray 107)).alloc (.cells #[.int .i64 0, .int .i64 0, .int .i64 0, .int .i64 0, .int .i64 0, .slice none 0 0, .bool false, .slice none 0 0, .slice none 0 0, .bool false, .slice none 0 0] 107) = w1 at hX
  have HW := Lib.hid hw1
  have HX := Lib.hid hX
  have HV := Lib.hid h
  have HP := Lib.hid hp
  have CF := Lib.hid (fun W (hW : Below w.heap.size w W) => c_rcfine (h.below hW) hn)
  have CJ := Lib.hid (fun W (hW : Below w.heap.size w W) (hz : w.heap.size + 2 ≤ W.heap.size) => c_mjoin (pl := chPlN w pl) (h.w_.old.below hW) (by have := hn.w_; omega) (plN_new hp hz) C.os p)
  have CZ := Lib.hid (fun W => c_vfine v W)
  have HE := Lib.hid (show chSendE C p v = if chFine C = false then 1 else if fineW v = false then 8 else lnJoinE C.os C.W p from rfl)
  have HC := Lib.hid (show chSend C p v = if chSendE C p v = 0 then { C with W := C.W ++ [p], S := C.S ++ [v] } else C from rfl)
  have HJ := Lib.hid (show lnJoinL C.os C.W p = if lnJoinE C.os C.W p = 0 then C.W ++ [p] else C.W from rfl)
  generalize chSendE C p v = er at HE HC ⊢
  generalize chSend C p v = C2 at HC ⊢
  generalize chFine C = q1 at CF HE
  generalize fineW v = q2 at CZ HE
  generalize lnJoinE C.os C.W p = ej at CJ HE HJ
  generalize lnJoinL C.os C.W p = LJ at CJ HJ
  have HSN : Hid (M.S.n ≤ 1000) := Lib.hid hn.s
  clear h hp hn hX hw1

  cases q1
  · go_enter Tryz.func49, Tryz.ntmps49
    go_upto_region 1 with fail
    rw [HW.out]
    go_wp2_with (refine ld_row HX.out.box rfl (.tmp 3) rfl rfl Tryz.underlying107 rfl info_rch ?_)
    refine (CF.out _ HX.out.up).mono ?_; rintro e w2 ⟨rfl, hb2⟩
    have HA := Lib.hid (HX.out.next hb2)
    clear hb2
    go_wp2_with (first | (refine ld_row HA.out.box rfl (.tmp 3) rfl rfl Tryz.underlying107 rfl info_rch ?_) | (refine st_row (cs := chC C M) HA.out.res rfl (.tmp 6) (.tmp 13) rfl rfl rfl info_rch rfl chC_one ?_))
    refine bodyPost_ret (v := .tuple #[.agg (chC C M).toArray, .int .i64 1]) (results_ce (fn := Tryz.f49) (p := 6) (t := 7) rfl _ _ _ rfl (HA.out.res.row _) Tryz.underlying107 rfl info_rch) rfl ?_
    have e1 : er = 1 := by rw [HE.out]; rfl
    have e2 : C2 = C := by rw [HC.out, e1]; rfl
    rw [e1, e2]
    exact ⟨M, rfl, HV.out.below (below_setRow HA.out.up (by omega) _), below_setRow HA.out.up (by omega) _⟩
  cases q2
  · go_enter Tryz.func49, Tryz.ntmps49
    go_upto_region 1 with fail
    rw [HW.out]
    go_wp2_with (refine ld_row HX.out.box rfl (.tmp 3) rfl rfl Tryz.underlying107 rfl info_rch ?_)
    refine (CF.out _ HX.out.up).mono ?_; rintro e w2 ⟨rfl, hb2⟩
    have HA := Lib.hid (HX.out.next hb2)
    clear hb2
    go_wp2_with fail
    refine (CZ.out _).mono ?_; rintro e w' ⟨rfl, rfl⟩
    go_wp2_with (first | (refine ld_row HA.out.box rfl (.tmp 3) rfl rfl Tryz.underlying107 rfl info_rch ?_) | (refine st_row (cs := chC C M) HA.out.res rfl (.tmp 6) (.tmp 17) rfl rfl rfl info_rch rfl chC_one ?_))
    refine bodyPost_ret (v := .tuple #[.agg (chC C M).toArray, .int .i64 8]) (results_ce (fn := Tryz.f49) (p := 6) (t := 7) rfl _ _ _ rfl (HA.out.res.row _) Tryz.underlying107 rfl info_rch) rfl ?_
    have e1 : er = 8 := by rw [HE.out]; rfl
    have e2 : C2 = C := by rw [HC.out, e1]; rfl
    rw [e1, e2]
    exact ⟨M, rfl, HV.out.below (below_setRow HA.out.up (by omega) _), below_setRow HA.out.up (by omega) _⟩
  have HE' : Hid (er = ej) := Lib.hid (by rw [HE.out]; rfl)
  by_cases h0 : ej = 0
  · subst h0
    have e1 : Hid (er = 0) := HE'
    have e2 : Hid (C2 = { C with W := C.W ++ [p], S := C.S ++ [v] }) := Lib.hid (by rw [HC.out, e1.out]; rfl)
    have e3 : Hid (LJ = C.W ++ [p]) := Lib.hid (by rw [HJ.out]; rfl)
    go_enter Tryz.func49, Tryz.ntmps49
    go_upto_region 1 with fail
    rw [HW.out]
    go_wp2_with (refine ld_row HX.out.box rfl (.tmp 3) rfl rfl Tryz.underlying107 rfl info_rch ?_)
    refine (CF.out _ HX.out.up).mono ?_; rintro e w2 ⟨rfl, hb2⟩
    have HA := Lib.hid (HX.out.next hb2)
    clear hb2
    have c6 := HA.out.box.cos
    have c7 := HA.out.box.cW
    go_wp2_with fail
    refine (CZ.out _).mono ?_; rintro e w' ⟨rfl, rfl⟩
    go_wp2_with fail
    refine (CJ.out _ HA.out.up (by have := HA.out.res.lt; omega)).mono ?_; rintro e w3 ⟨A3, n3, c3, rfl, hL3, hb3⟩
    clear c6 c7
    have HB := Lib.hid (HA.out.next (up_trans hb3 (up_alloc w3 (.cells #[.bool C.os, .slice A3 n3 c3] 105))))
    have HL2 := Lib.hid (hL3.below (up_alloc w3 (.cells #[.bool C.os, .slice A3 n3 c3] 105)))
    have f6 := HB.out.box.free 6
    have f7 := HB.out.box.free 7
    have c6 := HB.out.box.cos
    have c7 := HB.out.box.cW
    have HBG : Hid (w.heap.size + 2 ≤ w3.heap.size) := Lib.hid (by have := HA.out.res.lt; have := hb3.size; omega)
    clear hL3 hb3
    have hQ := HB.out.box.pOut A3 n3 c3 (C.W ++ [p])
    have hR := (HB.out.res.other ⟨w.heap.size, 6, none⟩ (by simp) (.bool C.os)).other ⟨w.heap.size, 7, none⟩ (by simp) (.slice A3 n3 c3)
    have ho5 : Only (two w) (w3.alloc (.cells #[.bool C.os, .slice A3 n3 c3] 105)) (((w3.alloc (.cells #[.bool C.os, .slice A3 n3 c3] 105)).setCell ⟨w.heap.size, 6, none⟩ (.bool C.os)).setCell ⟨w.heap.size, 7, none⟩ (.slice A3 n3 c3)) := ((Only.refl (two w) _).box 6 (.bool C.os)).box 7 (.slice A3 n3 c3)
    have hu5 := ho5.two_below HB.out.up
    have hs5 : RD (((w3.alloc (.cells #[.bool C.os, .slice A3 n3 c3] 105)).setCell ⟨w.heap.size, 6, none⟩ (.bool C.os)).setCell ⟨w.heap.size, 7, none⟩ (.slice A3 n3 c3)) (fun _ => True) 1 M.S.A M.S.n (C.S.map (Value.int .i64)) := (HV.out.s.below hu5).rd.lo fun _ _ => trivial
    have hl5 := HL2.out.only ho5 plN_no
    have c8 : (((w3.alloc (.cells #[.bool C.os, .slice A3 n3 c3] 105)).setCell ⟨w.heap.size, 6, none⟩ (.bool C.os)).setCell ⟨w.heap.size, 7, none⟩ (.slice A3 n3 c3)).cell? ⟨w.heap.size, 8, none⟩ = some (.slice M.S.A M.S.n M.S.c) := hQ.cell 8 _ rfl
    have HQ := Lib.hid hQ
    have HR := Lib.hid hR
    have HU5 := Lib.hid hu5
    have HS5 := Lib.hid hs5
    have HL5 := Lib.hid hl5
    have hsn : M.S.n ≤ 1000 := HSN.out
    clear hQ hR ho5 hu5 hs5 hl5
    go_wp2_with (first
      | (at_builtin; refine wpList_app ei_int rfl (.const (.slice none 0 0)) (.tmp 32) rfl (.slice none 0 0) [] rfl (World.ownsRow_nil _ _ _ _) rfl HS5.out (int_cells _ _) (by omega) (Nat.le_refl _) ?_; intro v6 w6 hown6 hb6; have HO6 := Lib.hid hown6; have HB6 := Lib.hid hb6; have hrow := RD.one (w := w6) (v := .int .i64 v) (t := 3) rfl; clear hown6 hb6)
      | (at_builtin; refine wpList_app ei_int rfl (.tmp 33) (.tmp 35) rfl v6 _ rfl (own_below HO6.out (up_alloc _ _)) rfl hrow (by simp [Value.oneCell']) (by omega) (by have := HB6.out.size; simp at this ⊢; omega) ?_; intro v7 w7 hown7 hb7; have HB7 := Lib.hid ((HB6.out.trans ((up_alloc w6 (.cells #[.int .i64 v] 3)).mono HB6.out.size)).trans hb7); obtain ⟨A7, c7, rfl, hL7⟩ := LnW.of_own (n := M.S.n + 1) (L := C.S ++ [v]) (by simpa using hown7); have HL7 := Lib.hid hL7; have HQ7 := Lib.hid (HQ.out.up HB7.out HQ.out.lt); have HR7 := Lib.hid (HR.out.up HB7.out HR.out.lt); have k8 := HQ7.out.cell 8 _ rfl; have f8 := HQ7.out.free 8; have HQF := Lib.hid (HQ7.out.pVals A7 (M.S.n + 1) c7 (C.S ++ [v])); have HRF := Lib.hid (HR7.out.other ⟨w.heap.size, 8, none⟩ (by simp) (.slice A7 (M.S.n + 1) c7)); clear hown7 hb7 hL7 hrow c8)
      | (refine ld_row HQF.out rfl (.tmp 3) rfl rfl Tryz.underlying107 rfl info_rch ?_)
      | (refine st_row (cs := chC { C with W := C.W ++ [p], S := C.S ++ [v] } { M with W := ⟨A3, n3, c3⟩, S := ⟨A7, M.S.n + 1, c7⟩ }) HRF.out rfl (.tmp 6) (.tmp 38) rfl rfl rfl info_rch rfl chC_one ?_))
    refine bodyPost_ret (v := .tuple #[.agg (chC { C with W := C.W ++ [p], S := C.S ++ [v] } { M with W := ⟨A3, n3, c3⟩, S := ⟨A7, M.S.n + 1, c7⟩ }).toArray, .int .i64 0]) (results_ce (fn := Tryz.f49) (p := 6) (t := 7) rfl _ _ _ rfl (HRF.out.row _) Tryz.underlying107 rfl info_rch) rfl ?_
    rw [e1.out, e2.out]
    have ho : Only (two w) w7 ((w7.setCell ⟨w.heap.size, 8, none⟩ (.slice A7 (M.S.n + 1) c7)).setRow (w.heap.size + 1) (chC { C with W := C.W ++ [p], S := C.S ++ [v] } { M with W := ⟨A3, n3, c3⟩, S := ⟨A7, M.S.n + 1, c7⟩ }).toArray) := ((Only.refl (two w) w7).box 8 _).res _
    have hu7 := up_trans HU5.out HB7.out
    have hv := HV.out.old.below hu7
    have hl3 := HL5.out.below HB7.out
    rw [e3.out] at hl3
    have hbig : w.heap.size + 2 ≤ w3.heap.size := HBG.out
    have hl7 : LnW w7 (chPlN w pl) A7 (M.S.n + 1) c7 (C.S ++ [v]) := HL7.out.lo (fun b hb => ⟨HP.out b (by omega), by unfold two; omega⟩)
    exact ⟨{ M with W := ⟨A3, n3, c3⟩, S := ⟨A7, M.S.n + 1, c7⟩ }, rfl, ((show ChW w7 (chPlN w pl) { C with W := C.W ++ [p], S := C.S ++ [v] } { M with W := ⟨A3, n3, c3⟩, S := ⟨A7, M.S.n + 1, c7⟩ } from ⟨hv.v, hl3, hl7, hv.g⟩).only ho plN_no).lo (fun _ h => h.1), ho.two_below hu7⟩
  · have hne : (ej == 0) = false := beq_eq_false_iff_ne.2 h0
    have hne' : (ej != 0) = true := by simp [bne, hne]
    have e2 : Hid (C2 = C) := Lib.hid (by rw [HC.out, HE'.out, if_neg h0])
    clear h0
    go_enter Tryz.func49, Tryz.ntmps49
    go_upto_region 1 with fail
    rw [HW.out]
    go_wp2_with (refine ld_row HX.out.box rfl (.tmp 3) rfl rfl Tryz.underlying107 rfl info_rch ?_)
    refine (CF.out _ HX.out.up).mono ?_; rintro e w2 ⟨rfl, hb2⟩
    have HA := Lib.hid (HX.out.next hb2)
    clear hb2
    have c6 := HA.out.box.cos
    have c7 := HA.out.box.cW
    go_wp2_with fail
    refine (CZ.out _).mono ?_; rintro e w' ⟨rfl, rfl⟩
    go_wp2_with fail
    refine (CJ.out _ HA.out.up (by have := HA.out.res.lt; omega)).mono ?_; rintro e w3 ⟨A3, n3, c3, rfl, hL3, hb3⟩
    clear c6 c7
    have HB := Lib.hid (HA.out.next (up_trans hb3 (up_alloc w3 (.cells #[.bool C.os, .slice A3 n3 c3] 105))))
    have HL := Lib.hid hL3
    clear hL3 hb3
    go_wp2_with (first | (refine ld_row HB.out.box rfl (.tmp 3) rfl rfl Tryz.underlying107 rfl info_rch ?_) | (refine st_row (cs := chC C M) HB.out.res rfl (.tmp 6) (.tmp 27) rfl rfl rfl info_rch rfl chC_one ?_))
    refine bodyPost_ret (v := .tuple #[.agg (chC C M).toArray, .int .i64 ej]) (results_ce (fn := Tryz.f49) (p := 6) (t := 7) rfl _ _ _ rfl (HB.out.res.row _) Tryz.underlying107 rfl info_rch) rfl ?_
    rw [HE'.out, e2.out]
    exact ⟨M, rfl, HV.out.below (below_setRow HB.out.up (by omega) _), below_setRow HB.out.up (by omega) _⟩
end Go.Proofs.YtdiiilnebepfdaaGreatDoor
