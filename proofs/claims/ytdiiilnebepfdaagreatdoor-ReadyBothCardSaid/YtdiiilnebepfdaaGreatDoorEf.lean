/- The document's Poison of a channel. -/
import Derived.Test.YtdiiilnebepfdaaGreatDoorEe
import Derived.Test.YtdiiilnebepfdaaGreatDoorC3
namespace Go.Proofs.YtdiiilnebepfdaaGreatDoor
open Go.RowKit

set_option maxRecDepth 100000 in
set_option maxHeartbeats 4000000 in
theorem c_rcpois {w : World} {pl : Nat → Prop} {C : CP} {M : SM} (h : ChW w pl C M) (hn : ChFew M) (hp : ∀ b, w.heap.size ≤ b → pl b) (b : Int) :
    Calls Tryz.prog 75 #[.agg (chC C M).toArray, .int .i64 b] w (ChPost w pl (chPois C b) (.int .i64 (chPoisE C b))) := by
  have hX := bx2_rch w C M
  generalize hw1 : (w.alloc (.cells (chC C M).toArray 107)).alloc (.cells #[.int .i64 0, .int .i64 0, .int .i64 0, .int .i64 0, .int .i64 0, .slice none 0 0, .bool false, .slice none 0 0, .slice none 0 0, .bool false, .slice none 0 0] 107) = w1 at hX
  have HW := Lib.hid hw1
  have HX := Lib.hid hX
  have HV := Lib.hid h
  have HP := Lib.hid hp
  have CF := Lib.hid (fun W (hW : Below w.heap.size w W) => c_rcfine (h.below hW) hn)
  have CR := Lib.hid (fun W => c_qzraise C.lv b W)
  have HE := Lib.hid (show chPoisE C b = if chFine C = false then 1 else pzErr C.lv b from rfl)
  have HC := Lib.hid (show chPois C b = if chPoisE C b = 0 then { C with lv := pzRaise C.lv b } else C from rfl)
  generalize chPoisE C b = er at HE HC ⊢
  generalize chPois C b = C2 at HC ⊢
  generalize chFine C = q1 at CF HE
  generalize pzErr C.lv b = ej at CR HE
  generalize pzRaise C.lv b = x at CR HC
  clear h hp hn hX hw1

  cases q1
  · go_enter Tryz.func75, Tryz.ntmps75
    go_upto_region 1 with fail
    rw [HW.out]
    go_wp2_with (refine ld_row HX.out.box rfl (.tmp 2) rfl rfl Tryz.underlying107 rfl info_rch ?_)
    refine (CF.out _ HX.out.up).mono ?_; rintro e w2 ⟨rfl, hb2⟩
    have HA := Lib.hid (HX.out.next hb2)
    clear hb2
    go_wp2_with (first | (refine ld_row HA.out.box rfl (.tmp 2) rfl rfl Tryz.underlying107 rfl info_rch ?_) | (refine st_row (cs := chC C M) HA.out.res rfl (.tmp 4) (.tmp 11) rfl rfl rfl info_rch rfl chC_one ?_))
    refine bodyPost_ret (v := .tuple #[.agg (chC C M).toArray, .int .i64 1]) (results_ce (fn := Tryz.f75) (p := 4) (t := 5) rfl _ _ _ rfl (HA.out.res.row _) Tryz.underlying107 rfl info_rch) rfl ?_
    have e1 : er = 1 := by rw [HE.out]; rfl
    have e2 : C2 = C := by rw [HC.out, e1]; rfl
    rw [e1, e2]
    exact ⟨M, rfl, HV.out.below (below_setRow HA.out.up (by omega) _), below_setRow HA.out.up (by omega) _⟩
  have HE' : Hid (er = ej) := Lib.hid (by rw [HE.out]; rfl)
  by_cases h0 : ej = 0
  · subst h0
    have e1 : Hid (er = 0) := HE'
    have e2 : Hid (C2 = { C with lv := x }) := Lib.hid (by rw [HC.out, e1.out]; rfl)
    go_enter Tryz.func75, Tryz.ntmps75
    go_upto_region 1 with fail
    rw [HW.out]
    go_wp2_with (refine ld_row HX.out.box rfl (.tmp 2) rfl rfl Tryz.underlying107 rfl info_rch ?_)
    refine (CF.out _ HX.out.up).mono ?_; rintro e w2 ⟨rfl, hb2⟩
    have HA := Lib.hid (HX.out.next hb2)
    clear hb2
    have c4 := HA.out.box.clv
    go_wp2_with fail
    refine (CR.out _).mono ?_; rintro e w' ⟨rfl, rfl⟩
    have f4 := HA.out.box.free 4
    have HQ := Lib.hid (HA.out.box.pLevel x)
    have HR := Lib.hid (HA.out.res.other ⟨w.heap.size, 4, none⟩ (by simp) (.int .i64 x))
    go_wp2_with (first | (refine ld_row HQ.out rfl (.tmp 2) rfl rfl Tryz.underlying107 rfl info_rch ?_) | (refine st_row (cs := chC { C with lv := x } M) HR.out rfl (.tmp 4) (.tmp 25) rfl rfl rfl info_rch rfl chC_one ?_))
    refine bodyPost_ret (v := .tuple #[.agg (chC { C with lv := x } M).toArray, .int .i64 0]) (results_ce (fn := Tryz.f75) (p := 4) (t := 5) rfl _ _ _ rfl (HR.out.row _) Tryz.underlying107 rfl info_rch) rfl ?_
    rw [e1.out, e2.out]
    have ho : Only (two w) w2 _ := ((Only.refl (two w) _).box 4 (.int .i64 x)).res (chC { C with lv := x } M).toArray
    have hv := HV.out.old.below HA.out.up
    exact ⟨M, rfl, ((show ChW _ (chPlN w pl) { C with lv := x } M from ⟨hv.v, hv.w_, hv.s, hv.g⟩).only ho plN_no).lo (fun _ h => h.1), ho.two_below HA.out.up⟩
  · have hne : (ej == 0) = false := beq_eq_false_iff_ne.2 h0
    have hne' : (ej != 0) = true := by simp [bne, hne]
    have e2 : Hid (C2 = C) := Lib.hid (by rw [HC.out, HE'.out, if_neg h0])
    clear h0
    go_enter Tryz.func75, Tryz.ntmps75
    go_upto_region 1 with fail
    rw [HW.out]
    go_wp2_with (refine ld_row HX.out.box rfl (.tmp 2) rfl rfl Tryz.underlying107 rfl info_rch ?_)
    refine (CF.out _ HX.out.up).mono ?_; rintro e w2 ⟨rfl, hb2⟩
    have HA := Lib.hid (HX.out.next hb2)
    clear hb2
    have c4 := HA.out.box.clv
    go_wp2_with fail
    refine (CR.out _).mono ?_; rintro e w' ⟨rfl, rfl⟩
    clear c4
    go_wp2_with (first | (refine ld_row HA.out.box rfl (.tmp 2) rfl rfl Tryz.underlying107 rfl info_rch ?_) | (refine st_row (cs := chC C M) HA.out.res rfl (.tmp 4) (.tmp 21) rfl rfl rfl info_rch rfl chC_one ?_))
    refine bodyPost_ret (v := .tuple #[.agg (chC C M).toArray, .int .i64 ej]) (results_ce (fn := Tryz.f75) (p := 4) (t := 5) rfl _ _ _ rfl (HA.out.res.row _) Tryz.underlying107 rfl info_rch) rfl ?_
    rw [HE'.out, e2.out]
    exact ⟨M, rfl, HV.out.below (below_setRow HA.out.up (by omega) _), below_setRow HA.out.up (by omega) _⟩
end Go.Proofs.YtdiiilnebepfdaaGreatDoor
