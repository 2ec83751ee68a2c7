/- The document's Leave of layer 18. -/
import Derived.Test.YtailbjhffkcnfaaEb
import Derived.Test.YtailbjhffkcnfaaJh
import Derived.Test.YtailbjhffkcnfaaLi
import Derived.IntWalk
namespace Go.Proofs.Ytailbjhffkcnfaa
open Go.RowKit

theorem bxc_rch {w : World} {pl : Nat → Prop} {C : CP} {M : SM} (h : ChW w pl C M) : BxC w ((w.alloc (.cells (chC C M).toArray 28)).alloc (.cells #[.int .i64 0, .int .i64 0, .int .i64 0, .int .i64 0, .int .i64 0, .slice none 0 0, .bool false, .slice none 0 0, .slice none 0 0, .bool false, .slice none 0 0] 28)) pl C M 28 := BxC.of (bx2 w (chC C M) 28 chZ 28) h

set_option maxRecDepth 100000 in
set_option maxHeartbeats 8000000 in
theorem c_rcleave {w : World} {pl : Nat → Prop} {C : CP} {M : SM} (h : ChW w pl C M) (hn : ChFew M) (hp : ∀ b, w.heap.size ≤ b → pl b) (p : Int) :
    Calls Try.prog 23 #[.agg (chC C M).toArray, .int .i64 p] w (ChLPost w pl (chLeave C p)) := by
  have hX := bxc_rch h
  generalize hw1 : (w.alloc (.cells (chC C M).toArray 28)).alloc (.cells #[.int .i64 0, .int .i64 0, .int .i64 0, .int .i64 0, .int .i64 0, .slice none 0 0, .bool false, .slice none 0 0, .slice none 0 0, .bool false, .slice none 0 0] 28) = w1 at hX
  have HW := Lib.hid hw1
  have HX := Lib.hid hX
  have HP := Lib.hid hp
  have HN := Lib.hid hn
  have CF := Lib.hid (fun W (hW : Below w.heap.size w W) => c_rcfine (h.below hW) hn)
  have CA := Lib.hid (fun W (hW : Below w.heap.size w W) => c_mat (c := M.W.c) (h.below hW).w_.rd h.w_.len (by have := hn.w_; omega) p)
  have CB := Lib.hid (fun W (hW : Below w.heap.size w W) => c_mat (c := M.G.c) (h.below hW).g.rd h.g.len (by have := hn.g; omega) p)
  have HS := Lib.hid h.s
  cases hf : chFine C
  · have e1 : Hid (chLeave C p = C) := Lib.hid (by unfold chLeave; rw [if_neg (by rw [hf]; decide)])
    rw [hf] at CF
    rw [e1.out]
    clear h hp hn hX hw1 hf
    go_enter Try.func23, Try.ntmps23
    go_upto_region 1 with fail
    rw [HW.out]
    go_wp2_with (refine ld_row HX.out.box rfl (.tmp 2) rfl rfl Try.underlying28 rfl info_rch ?_)
    refine (CF.out _ HX.out.up).mono ?_; rintro e w2 ⟨rfl, hb2⟩
    have HA := Lib.hid (HX.out.next hb2)
    clear hb2
    go_wp2_with (first | (refine ld_row HA.out.box rfl (.tmp 2) rfl rfl Try.underlying28 rfl info_rch ?_) | (refine st_row (cs := chC C M) HA.out.res rfl (.tmp 4) (.tmp 13) rfl rfl rfl info_rch rfl chC_one ?_))
    refine bodyPost_ret (v := .agg (chC C M).toArray) (results_c (fn := Try.f23) (p := 4) rfl _ _ _ rfl (HA.out.res.row _) Try.underlying28 rfl info_rch) rfl ?_
    have hfin := HA.out.fin (chC C M).toArray
    exact ⟨M, rfl, hfin.1, hfin.2⟩
  have HO := Lib.hid (chOk hf)
  have HT : Hid (p ∉ C.W → lnLeaveL C.os C.W p = C.W) := Lib.hid fun hm => by unfold lnLeaveL lnThere; rw [decide_eq_false hm, Bool.and_false]; rfl
  have HT2 : Hid (p ∉ C.G → lnLeaveL C.is C.G p = C.G) := Lib.hid fun hm => by unfold lnLeaveL lnThere; rw [decide_eq_false hm, Bool.and_false]; rfl
  have HE : Hid (chLeave C p = { C with S := if p ∈ C.W then cutL C.S (ixN C.W p) else C.S, W := lnLeaveL C.os C.W p, G := lnLeaveL C.is C.G p }) := Lib.hid (by unfold chLeave; rw [if_pos hf])
  have CL := Lib.hid (fun W (hW : Below w.heap.size w W) (hz : w.heap.size + 2 ≤ W.heap.size) => c_mleave (pl := plN w pl) (h.w_.old.below hW) (by have := hn.w_; omega) (plN_new hp hz) C.os p)
  have CM := Lib.hid (fun W (hW : Below w.heap.size w W) (hz : w.heap.size + 2 ≤ W.heap.size) => c_mleave (pl := plN w pl) (h.g.old.below hW) (by have := hn.g; omega) (plN_new hp hz) C.is p)
  rw [HE.out]
  rw [hf] at CF
  generalize lnLeaveL C.os C.W p = LW at CL HT ⊢
  generalize lnLeaveL C.is C.G p = LG at CM HT2 ⊢
  generalize lnThere C.is C.G p = tg at CM
  generalize lnThere C.os C.W p = tw at CL
  clear h hp hn hX hw1 hf HE
  by_cases hm : p ∈ C.W
  case neg =>
    rw [ixL_no hm] at CA
    rw [if_neg hm, HT.out hm]
    clear hm HT CL
    by_cases hg : p ∈ C.G
    · rw [ixL_yes hg] at CB
      generalize ixN C.G p = i2 at CB
      clear hg HT2
      go_enter Try.func23, Try.ntmps23
      go_upto_region 1 with fail
      rw [HW.out]
      go_wp2_with (refine ld_row HX.out.box rfl (.tmp 2) rfl rfl Try.underlying28 rfl info_rch ?_)
      refine (CF.out _ HX.out.up).mono ?_; rintro e w2 ⟨rfl, hb2⟩
      have HA := Lib.hid (HX.out.next hb2)
      clear hb2
      have c7 := HA.out.box.cW
      go_wp2_with fail
      refine (CA.out _ HA.out.up).mono ?_; rintro e w' ⟨rfl, rfl⟩
      clear c7
      have c10 := HA.out.box.cG
      go_wp2_with fail
      refine (CB.out _ HA.out.up).mono ?_; rintro e w' ⟨rfl, rfl⟩
      clear c10
      have c9 := HA.out.box.cis
      have c10 := HA.out.box.cG
      go_wp2_with fail
      refine (CM.out _ HA.out.up HA.out.big).mono ?_; rintro e w8 ⟨A8, n8, c8, rfl, hL8, hb8⟩
      clear c9 c10
      have HI := Lib.hid (HA.out.next (up_trans hb8 (up_alloc w8 (.cells #[.bool C.is, .slice A8 n8 c8] 26))))
      have HI2 : Hid (BxC w (((w8.alloc (.cells #[.bool C.is, .slice A8 n8 c8] 26)).setCell ⟨w.heap.size, 9, none⟩ (.bool C.is)).setCell ⟨w.heap.size, 10, none⟩ (.slice A8 n8 c8)) pl (⟨C.k, C.r, C.i, C.o, C.lv, C.V, C.os, C.W, C.S, C.is, LG⟩ : CP) (⟨M.V, M.W, M.S, ⟨A8, n8, c8⟩⟩ : SM) 28) := Lib.hid (HI.out.inn (hL8.below (up_alloc w8 _)))
      have c9 := HI.out.box.cis
      have c10 := HI.out.box.cG
      have f9 := HI.out.box.free 9
      have f10 := HI.out.box.free 10
      clear hb8 hL8
      go_wp2_with (first | (refine ld_row HI2.out.box rfl (.tmp 2) rfl rfl Try.underlying28 rfl info_rch ?_) | (refine st_row (cs := chC (⟨C.k, C.r, C.i, C.o, C.lv, C.V, C.os, C.W, C.S, C.is, LG⟩ : CP) (⟨M.V, M.W, M.S, ⟨A8, n8, c8⟩⟩ : SM)) HI2.out.res rfl (.tmp 4) (.tmp 57) rfl rfl rfl info_rch rfl chC_one ?_))
      refine bodyPost_ret (v := .agg (chC (⟨C.k, C.r, C.i, C.o, C.lv, C.V, C.os, C.W, C.S, C.is, LG⟩ : CP) (⟨M.V, M.W, M.S, ⟨A8, n8, c8⟩⟩ : SM)).toArray) (results_c (fn := Try.f23) (p := 4) rfl _ _ _ rfl (HI2.out.res.row _) Try.underlying28 rfl info_rch) rfl ?_
      have hfin := HI2.out.fin (chC (⟨C.k, C.r, C.i, C.o, C.lv, C.V, C.os, C.W, C.S, C.is, LG⟩ : CP) (⟨M.V, M.W, M.S, ⟨A8, n8, c8⟩⟩ : SM)).toArray
      exact ⟨(⟨M.V, M.W, M.S, ⟨A8, n8, c8⟩⟩ : SM), rfl, hfin.1, hfin.2⟩
    · rw [ixL_no hg] at CB
      rw [HT2.out hg]
      clear hg HT2 CM
      go_enter Try.func23, Try.ntmps23
      go_upto_region 1 with fail
      rw [HW.out]
      go_wp2_with (refine ld_row HX.out.box rfl (.tmp 2) rfl rfl Try.underlying28 rfl info_rch ?_)
      refine (CF.out _ HX.out.up).mono ?_; rintro e w2 ⟨rfl, hb2⟩
      have HA := Lib.hid (HX.out.next hb2)
      clear hb2
      have c7 := HA.out.box.cW
      go_wp2_with fail
      refine (CA.out _ HA.out.up).mono ?_; rintro e w' ⟨rfl, rfl⟩
      clear c7
      have c10 := HA.out.box.cG
      go_wp2_with fail
      refine (CB.out _ HA.out.up).mono ?_; rintro e w' ⟨rfl, rfl⟩
      clear c10
      go_wp2_with (first | (refine ld_row HA.out.box rfl (.tmp 2) rfl rfl Try.underlying28 rfl info_rch ?_) | (refine st_row (cs := chC (⟨C.k, C.r, C.i, C.o, C.lv, C.V, C.os, C.W, C.S, C.is, C.G⟩ : CP) (⟨M.V, M.W, M.S, M.G⟩ : SM)) HA.out.res rfl (.tmp 4) (.tmp 57) rfl rfl rfl info_rch rfl chC_one ?_))
      refine bodyPost_ret (v := .agg (chC (⟨C.k, C.r, C.i, C.o, C.lv, C.V, C.os, C.W, C.S, C.is, C.G⟩ : CP) (⟨M.V, M.W, M.S, M.G⟩ : SM)).toArray) (results_c (fn := Try.f23) (p := 4) rfl _ _ _ rfl (HA.out.res.row _) Try.underlying28 rfl info_rch) rfl ?_
      have hfin := HA.out.fin (chC (⟨C.k, C.r, C.i, C.o, C.lv, C.V, C.os, C.W, C.S, C.is, C.G⟩ : CP) (⟨M.V, M.W, M.S, M.G⟩ : SM)).toArray
      exact ⟨(⟨M.V, M.W, M.S, M.G⟩ : SM), rfl, hfin.1, hfin.2⟩
  case pos =>
    have hi : ixN C.W p < M.S.n := by
      have h1 := ixN_mem.2 hm
      have h2 := HO.out.len
      have h3 := HS.out.len
      omega
    rw [ixL_yes hm] at CA
    rw [if_pos hm]
    generalize ixN C.W p = i at CA hi ⊢
    clear hm HT
    obtain ⟨b, o, hA, _, _, _⟩ := HS.out.rd.at_ (by omega : 0 < M.S.n)
    have hnc := HS.out.nc
    have HR1 : Hid (RD w pl 1 (some ⟨b, o, none⟩) i ((C.S.take i).map (Value.int .i64))) := Lib.hid (by rw [← hA]; exact rd_pre HS.out.rd i (by omega))
    have HR2 : Hid (RD w pl 1 (if M.S.c = i + 1 then some ⟨b, o, none⟩ else some ⟨b, o + (i + 1), none⟩) (M.S.n - (i + 1)) ((C.S.drop (i + 1)).map (Value.int .i64))) := Lib.hid (by
      have h0 := HS.out.rd
      rw [hA] at h0
      have := RD.rest' h0 (i + 1) M.S.c (by omega) hnc
      simpa using this)
    have HA0 := Lib.hid hA
    have hn3 : M.S.n ≤ 1000 := HN.out.s
    have h00 : (0 : Int) ≤ (i : Int) := by omega
    have h01 : (0 : Int) ≤ (i : Int) + 1 := by omega
    have h02 : (i : Int) + 1 ≤ M.S.n := by omega
    have hic : i ≤ M.S.c := by omega
    have hic1 : i + 1 ≤ M.S.c := by omega
    have hin : i + 1 ≤ M.S.n := by omega
    have hii : i ≤ M.S.n := by omega
    have hwr : IntKind.i64.wrap ((i : Int) + 1) = (i : Int) + 1  := IntWalk.i64_in _ (by omega)
    have hdi : decide (0 ≤ (i : Int)) = true := decide_eq_true (by omega)
    obtain ⟨m, hmq⟩ : ∃ m, i + (M.S.n - (i + 1)) = m := ⟨_, rfl⟩
    have HMQ := Lib.hid hmq
    clear hA hmq
    by_cases hg : p ∈ C.G
    · rw [ixL_yes hg] at CB
      generalize ixN C.G p = i2 at CB
      clear hg HT2
      go_enter Try.func23, Try.ntmps23
      go_upto_region 1 with fail
      rw [HW.out]
      go_wp2_with (refine ld_row HX.out.box rfl (.tmp 2) rfl rfl Try.underlying28 rfl info_rch ?_)
      refine (CF.out _ HX.out.up).mono ?_; rintro e w2 ⟨rfl, hb2⟩
      have HA := Lib.hid (HX.out.next hb2)
      clear hb2
      have c7 := HA.out.box.cW
      go_wp2_with fail
      refine (CA.out _ HA.out.up).mono ?_; rintro e w' ⟨rfl, rfl⟩
      clear c7
      have c8 : w2.cell? ⟨w.heap.size, 8, none⟩ = some (.slice (some ⟨b, o, none⟩) M.S.n M.S.c) := by rw [← HA0.out]; exact HA.out.box.cS
      have f8 := HA.out.box.free 8
      go_wp2_with fail
      go_cut [31] (fun s31 wx => ∃ A5 c5, BxC w wx pl (⟨C.k, C.r, C.i, C.o, C.lv, C.V, C.os, C.W, cutL C.S i, C.is, C.G⟩ : CP) (⟨M.V, M.W, ⟨A5, m, c5⟩, M.G⟩ : SM) 28)
      case first =>
        go_region_law (first
          | (refine step_app ei_int rfl (.const (.slice none 0 0)) (.tmp 24) rfl (.slice none 0 0) [] rfl (World.ownsRow_nil _ w2.heap.size _ _) rfl (HR1.out.below (up_trans HA.out.up (up_drewN w2 1))) (int_cells _ _) (by omega) (by simp) ?_; intro v3 w3 hown3 hb3; have HO := Lib.hid hown3; have H3' := Lib.hid hb3; have HA3 := Lib.hid (HA.out.next ((up_drewN w2 1).trans hb3)); have c8 : w3.cell? ⟨w.heap.size, 8, none⟩ = some (.slice (some ⟨b, o, none⟩) M.S.n M.S.c) := (by rw [← HA0.out]; exact HA3.out.box.cS); have f8 := HA3.out.box.free 8; clear hown3 hb3)
          | (refine step_app ei_int rfl (.tmp 25) (.tmp 30) rfl v3 _ rfl HO.out rfl (HR2.out.below HA3.out.up) (int_cells _ _) (by omega) (by have := H3'.out.size; simp at this; omega) ?_; intro v4 w4 hown4 hb4; obtain ⟨A4, c4, rfl, hnc4, hcm4, hrd4⟩ := own_slice hown4; have HB := Lib.hid (HA.out.next (((up_drewN w2 1).trans H3'.out).trans hb4)); have HN4 := Lib.hid (And.intro hnc4 (And.intro hcm4 hrd4)); clear c8 f8 hnc4 hcm4 hrd4 hown4 hb4; have c8 := HB.out.box.cS; have f8 := HB.out.box.free 8))
        all_goals
          go_wp2_with fail
        all_goals
          go_meet
          have hm1 : 0 + i + (M.S.n - (i + 1)) = m := by have := HMQ.out; omega
          have hrd := HN4.out.2.2
          rw [hm1] at hrd
          have hl5 : LnW w4 (plN w pl) A4 m c4 (cutL C.S i) := ⟨(show RD w4 (w2.heap.size ≤ ·) 1 A4 m ((cutL C.S i).map (Value.int .i64)) by unfold cutL; rw [List.map_append]; exact hrd).lo (plN_new HP.out HA.out.big), by have := HS.out.len; have := HMQ.out; unfold cutL; simp; omega, by have := HN4.out.1; omega, HN4.out.2.1⟩
          have hres := HB.out.vals hl5
          first | rw [HMQ.out] | rw [hm1] | skip
          exact ⟨A4, c4, hres⟩
      case rest =>
        obtain ⟨A5, c5, hq⟩ := hcut
        have HF := Lib.hid hq
        clear hq c8 f8
        have c6 := HF.out.box.cos
        have c7 := HF.out.box.cW
        go_wp2_with fail
        refine (CL.out _ HF.out.up HF.out.big).mono ?_; rintro e w6 ⟨A6, n6, c6', rfl, hL6, hb6⟩
        clear c6 c7
        have HG := Lib.hid (HF.out.next (up_trans hb6 (up_alloc w6 (.cells #[.bool C.os, .slice A6 n6 c6'] 26))))
        have HG2 : Hid (BxC w (((w6.alloc (.cells #[.bool C.os, .slice A6 n6 c6'] 26)).setCell ⟨w.heap.size, 6, none⟩ (.bool C.os)).setCell ⟨w.heap.size, 7, none⟩ (.slice A6 n6 c6')) pl (⟨C.k, C.r, C.i, C.o, C.lv, C.V, C.os, LW, cutL C.S i, C.is, C.G⟩ : CP) (⟨M.V, ⟨A6, n6, c6'⟩, ⟨A5, m, c5⟩, M.G⟩ : SM) 28) := Lib.hid (HG.out.out (hL6.below (up_alloc w6 _)))
        have c6 := HG.out.box.cos
        have c7 := HG.out.box.cW
        have f6 := HG.out.box.free 6
        have f7 := HG.out.box.free 7
        have c10' := HG.out.box.cG
        clear hb6 hL6
        have c10 := HG2.out.box.cG
        go_wp2_with fail
        refine (CB.out _ HG2.out.up).mono ?_; rintro e w' ⟨rfl, rfl⟩
        clear c10
        have c9 := HG2.out.box.cis
        have c10 := HG2.out.box.cG
        go_wp2_with fail
        refine (CM.out _ HG2.out.up HG2.out.big).mono ?_; rintro e w8 ⟨A8, n8, c8, rfl, hL8, hb8⟩
        clear c9 c10
        have HI := Lib.hid (HG2.out.next (up_trans hb8 (up_alloc w8 (.cells #[.bool C.is, .slice A8 n8 c8] 26))))
        have HI2 : Hid (BxC w (((w8.alloc (.cells #[.bool C.is, .slice A8 n8 c8] 26)).setCell ⟨w.heap.size, 9, none⟩ (.bool C.is)).setCell ⟨w.heap.size, 10, none⟩ (.slice A8 n8 c8)) pl (⟨C.k, C.r, C.i, C.o, C.lv, C.V, C.os, LW, cutL C.S i, C.is, LG⟩ : CP) (⟨M.V, ⟨A6, n6, c6'⟩, ⟨A5, m, c5⟩, ⟨A8, n8, c8⟩⟩ : SM) 28) := Lib.hid (HI.out.inn (hL8.below (up_alloc w8 _)))
        have c9 := HI.out.box.cis
        have c10 := HI.out.box.cG
        have f9 := HI.out.box.free 9
        have f10 := HI.out.box.free 10
        clear hb8 hL8
        go_wp2_with (first | (refine ld_row HI2.out.box rfl (.tmp 2) rfl rfl Try.underlying28 rfl info_rch ?_) | (refine st_row (cs := chC (⟨C.k, C.r, C.i, C.o, C.lv, C.V, C.os, LW, cutL C.S i, C.is, LG⟩ : CP) (⟨M.V, ⟨A6, n6, c6'⟩, ⟨A5, m, c5⟩, ⟨A8, n8, c8⟩⟩ : SM)) HI2.out.res rfl (.tmp 4) (.tmp 57) rfl rfl rfl info_rch rfl chC_one ?_))
        refine bodyPost_ret (v := .agg (chC (⟨C.k, C.r, C.i, C.o, C.lv, C.V, C.os, LW, cutL C.S i, C.is, LG⟩ : CP) (⟨M.V, ⟨A6, n6, c6'⟩, ⟨A5, m, c5⟩, ⟨A8, n8, c8⟩⟩ : SM)).toArray) (results_c (fn := Try.f23) (p := 4) rfl _ _ _ rfl (HI2.out.res.row _) Try.underlying28 rfl info_rch) rfl ?_
        have hfin := HI2.out.fin (chC (⟨C.k, C.r, C.i, C.o, C.lv, C.V, C.os, LW, cutL C.S i, C.is, LG⟩ : CP) (⟨M.V, ⟨A6, n6, c6'⟩, ⟨A5, m, c5⟩, ⟨A8, n8, c8⟩⟩ : SM)).toArray
        exact ⟨(⟨M.V, ⟨A6, n6, c6'⟩, ⟨A5, m, c5⟩, ⟨A8, n8, c8⟩⟩ : SM), rfl, hfin.1, hfin.2⟩
    · rw [ixL_no hg] at CB
      rw [HT2.out hg]
      clear hg HT2 CM
      go_enter Try.func23, Try.ntmps23
      go_upto_region 1 with fail
      rw [HW.out]
      go_wp2_with (refine ld_row HX.out.box rfl (.tmp 2) rfl rfl Try.underlying28 rfl info_rch ?_)
      refine (CF.out _ HX.out.up).mono ?_; rintro e w2 ⟨rfl, hb2⟩
      have HA := Lib.hid (HX.out.next hb2)
      clear hb2
      have c7 := HA.out.box.cW
      go_wp2_with fail
      refine (CA.out _ HA.out.up).mono ?_; rintro e w' ⟨rfl, rfl⟩
      clear c7
      have c8 : w2.cell? ⟨w.heap.size, 8, none⟩ = some (.slice (some ⟨b, o, none⟩) M.S.n M.S.c) := by rw [← HA0.out]; exact HA.out.box.cS
      have f8 := HA.out.box.free 8
      go_wp2_with fail
      go_cut [31] (fun s31 wx => ∃ A5 c5, BxC w wx pl (⟨C.k, C.r, C.i, C.o, C.lv, C.V, C.os, C.W, cutL C.S i, C.is, C.G⟩ : CP) (⟨M.V, M.W, ⟨A5, m, c5⟩, M.G⟩ : SM) 28)
      case first =>
        go_region_law (first
          | (refine step_app ei_int rfl (.const (.slice none 0 0)) (.tmp 24) rfl (.slice none 0 0) [] rfl (World.ownsRow_nil _ w2.heap.size _ _) rfl (HR1.out.below (up_trans HA.out.up (up_drewN w2 1))) (int_cells _ _) (by omega) (by simp) ?_; intro v3 w3 hown3 hb3; have HO := Lib.hid hown3; have H3' := Lib.hid hb3; have HA3 := Lib.hid (HA.out.next ((up_drewN w2 1).trans hb3)); have c8 : w3.cell? ⟨w.heap.size, 8, none⟩ = some (.slice (some ⟨b, o, none⟩) M.S.n M.S.c) := (by rw [← HA0.out]; exact HA3.out.box.cS); have f8 := HA3.out.box.free 8; clear hown3 hb3)
          | (refine step_app ei_int rfl (.tmp 25) (.tmp 30) rfl v3 _ rfl HO.out rfl (HR2.out.below HA3.out.up) (int_cells _ _) (by omega) (by have := H3'.out.size; simp at this; omega) ?_; intro v4 w4 hown4 hb4; obtain ⟨A4, c4, rfl, hnc4, hcm4, hrd4⟩ := own_slice hown4; have HB := Lib.hid (HA.out.next (((up_drewN w2 1).trans H3'.out).trans hb4)); have HN4 := Lib.hid (And.intro hnc4 (And.intro hcm4 hrd4)); clear c8 f8 hnc4 hcm4 hrd4 hown4 hb4; have c8 := HB.out.box.cS; have f8 := HB.out.box.free 8))
        all_goals
          go_wp2_with fail
        all_goals
          go_meet
          have hm1 : 0 + i + (M.S.n - (i + 1)) = m := by have := HMQ.out; omega
          have hrd := HN4.out.2.2
          rw [hm1] at hrd
          have hl5 : LnW w4 (plN w pl) A4 m c4 (cutL C.S i) := ⟨(show RD w4 (w2.heap.size ≤ ·) 1 A4 m ((cutL C.S i).map (Value.int .i64)) by unfold cutL; rw [List.map_append]; exact hrd).lo (plN_new HP.out HA.out.big), by have := HS.out.len; have := HMQ.out; unfold cutL; simp; omega, by have := HN4.out.1; omega, HN4.out.2.1⟩
          have hres := HB.out.vals hl5
          first | rw [HMQ.out] | rw [hm1] | skip
          exact ⟨A4, c4, hres⟩
      case rest =>
        obtain ⟨A5, c5, hq⟩ := hcut
        have HF := Lib.hid hq
        clear hq c8 f8
        have c6 := HF.out.box.cos
        have c7 := HF.out.box.cW
        go_wp2_with fail
        refine (CL.out _ HF.out.up HF.out.big).mono ?_; rintro e w6 ⟨A6, n6, c6', rfl, hL6, hb6⟩
        clear c6 c7
        have HG := Lib.hid (HF.out.next (up_trans hb6 (up_alloc w6 (.cells #[.bool C.os, .slice A6 n6 c6'] 26))))
        have HG2 : Hid (BxC w (((w6.alloc (.cells #[.bool C.os, .slice A6 n6 c6'] 26)).setCell ⟨w.heap.size, 6, none⟩ (.bool C.os)).setCell ⟨w.heap.size, 7, none⟩ (.slice A6 n6 c6')) pl (⟨C.k, C.r, C.i, C.o, C.lv, C.V, C.os, LW, cutL C.S i, C.is, C.G⟩ : CP) (⟨M.V, ⟨A6, n6, c6'⟩, ⟨A5, m, c5⟩, M.G⟩ : SM) 28) := Lib.hid (HG.out.out (hL6.below (up_alloc w6 _)))
        have c6 := HG.out.box.cos
        have c7 := HG.out.box.cW
        have f6 := HG.out.box.free 6
        have f7 := HG.out.box.free 7
        have c10' := HG.out.box.cG
        clear hb6 hL6
        have c10 := HG2.out.box.cG
        go_wp2_with fail
        refine (CB.out _ HG2.out.up).mono ?_; rintro e w' ⟨rfl, rfl⟩
        clear c10
        go_wp2_with (first | (refine ld_row HG2.out.box rfl (.tmp 2) rfl rfl Try.underlying28 rfl info_rch ?_) | (refine st_row (cs := chC (⟨C.k, C.r, C.i, C.o, C.lv, C.V, C.os, LW, cutL C.S i, C.is, C.G⟩ : CP) (⟨M.V, ⟨A6, n6, c6'⟩, ⟨A5, m, c5⟩, M.G⟩ : SM)) HG2.out.res rfl (.tmp 4) (.tmp 57) rfl rfl rfl info_rch rfl chC_one ?_))
        refine bodyPost_ret (v := .agg (chC (⟨C.k, C.r, C.i, C.o, C.lv, C.V, C.os, LW, cutL C.S i, C.is, C.G⟩ : CP) (⟨M.V, ⟨A6, n6, c6'⟩, ⟨A5, m, c5⟩, M.G⟩ : SM)).toArray) (results_c (fn := Try.f23) (p := 4) rfl _ _ _ rfl (HG2.out.res.row _) Try.underlying28 rfl info_rch) rfl ?_
        have hfin := HG2.out.fin (chC (⟨C.k, C.r, C.i, C.o, C.lv, C.V, C.os, LW, cutL C.S i, C.is, C.G⟩ : CP) (⟨M.V, ⟨A6, n6, c6'⟩, ⟨A5, m, c5⟩, M.G⟩ : SM)).toArray
        exact ⟨(⟨M.V, ⟨A6, n6, c6'⟩, ⟨A5, m, c5⟩, M.G⟩ : SM), rfl, hfin.1, hfin.2⟩
end Go.Proofs.Ytailbjhffkcnfaa
