/- The document's Fine of layer 18. The document's Hit and What of layer 18. -/
import Derived.Test.YtdiiilnebepfdaaGreatDoorC3
import Derived.Test.YtdiiilnebepfdaaGreatDoorC1
namespace Go.Proofs.YtdiiilnebepfdaaGreatDoor
open Go.RowKit

set_option maxRecDepth 100000 in
set_option maxHeartbeats 4000000 in
theorem c_rcfine {w : World} {pl : Nat → Prop} {C : CP} {M : SM} (h : ChW w pl C M) (hn : ChFew M) :
    Calls Tryz.prog 90 #[.agg (chC C M).toArray] w fun e w' => e = .returned (.bool (chFine C)) ∧ Below w.heap.size w w' := by
  have hX := bx1_rch w C M
  generalize hw1 : w.alloc (.cells (chC C M).toArray 107) = w1 at hX
  have HW := Lib.hid hw1
  have HX := Lib.hid hX
  have CK := Lib.hid (fun W => c_rnew C.k C.r C.i C.o W)
  have CZ := Lib.hid (fun W => c_qzfine C.lv W)
  have CV := Lib.hid (fun W (hW : Below w.heap.size w W) => c_rwords (h.v.below hW) (by have := hn.v; omega))
  have CT := Lib.hid (fun W (hW : Below w.heap.size w W) => c_rwords (h.s.below hW) (by have := hn.s; omega))
  have CW := Lib.hid (fun W (hW : Below w.heap.size w W) => c_mfine (h.w_.below hW) (by have := hn.w_; omega) C.os)
  have CI := Lib.hid (fun W (hW : Below w.heap.size w W) => c_mfine (h.g.below hW) (by have := hn.g; omega) C.is)
  have HE := Lib.hid (show chFine C = ((ccE C.k C.r C.i C.o == 0) && (pzFine C.lv && (decide ((C.V.length : Int) ≤ C.r) && (wordsL C.V && (((C.S.length : Int) == (C.W.length : Int)) && (wordsL C.S && ((C.os == chOs C.k) && (lnFine C.os C.W && ((C.is == chIs C.k) && lnFine C.is C.G))))))))) from rfl)
  have HN1 : Hid (ccE C.k C.r C.i C.o = 0 → (chNew C.k C.r C.i C.o).os = chOs C.k ∧ (chNew C.k C.r C.i C.o).is = chIs C.k) := Lib.hid fun e => by unfold chNew; rw [e]; exact ⟨rfl, rfl⟩
  rw [h.v.len, h.w_.len, h.s.len] at HE
  generalize chNew C.k C.r C.i C.o = N at CK HN1
  generalize chFine C = q at HE ⊢
  generalize ccE C.k C.r C.i C.o = x0 at CK HE HN1
  generalize pzFine C.lv = q1 at CZ HE
  generalize wordsL C.V = q3 at CV HE
  generalize wordsL C.S = q5 at CT HE
  generalize chOs C.k = x6 at HE HN1
  generalize lnFine C.os C.W = q7 at CW HE
  generalize chIs C.k = x8 at HE HN1
  generalize lnFine C.is C.G = q9 at CI HE
  obtain ⟨q0, hq0⟩ : ∃ q, (x0 == 0) = q := ⟨_, rfl⟩
  obtain ⟨q2, hq2⟩ : ∃ q, decide ((M.V.n : Int) ≤ C.r) = q := ⟨_, rfl⟩
  obtain ⟨q4, hq4⟩ : ∃ q, ((M.S.n : Int) == (M.W.n : Int)) = q := ⟨_, rfl⟩
  rw [hq0, hq2, hq4] at HE
  clear h hn hX hw1
  cases q0
  · have hx' : (x0 != 0) = true := by simp [bne, hq0]
    clear hq0 HN1
    go_enter Tryz.func90, Tryz.ntmps90
    go_upto_region 1 with fail
    rw [HW.out]
    have a0 := HX.out.box.ck
    have a1 := HX.out.box.cr
    have a2 := HX.out.box.ci
    have a3 := HX.out.box.co
    go_wp2_with fail
    refine (CK.out _).mono ?_; rintro e w2 ⟨rfl, hb2⟩
    clear a0 a1 a2 a3
    have HA := Lib.hid (HX.out.next (up_trans hb2 (up_alloc w2 (.cells (chC N SM.nil).toArray 107))))
    have HN := Lib.hid (Blk.new w2 (chC N SM.nil) 107)
    have c1 := HA.out.box.cr
    have c4 := HA.out.box.clv
    have c5 := HA.out.box.cV
    have c6 := HA.out.box.cos
    have c7 := HA.out.box.cW
    have c8 := HA.out.box.cS
    have c9 := HA.out.box.cis
    have c10 := HA.out.box.cG
    have m6 := HN.out.cos
    have m9 := HN.out.cis
    clear hb2
    go_wp2_with (refine sn_row (W := w2) (cs := chC N SM.nil) (zs := chZ) (.tmp 3) (.tmp 9) rfl rfl rfl rfl rfl rfl info_rch rfl chC_one ?_)
    go_ret
    exact ⟨ret_bool (by rw [HE.out]; simp), HA.out.up⟩
  have hx0 : x0 = 0 := by simpa using hq0
  subst hx0
  have HN2 := Lib.hid (HN1.out rfl)
  clear hq0 HN1
  rw [← HN2.out.1, ← HN2.out.2] at HE
  clear HN2
  obtain ⟨q6, hq6⟩ : ∃ q, (C.os == N.os) = q := ⟨_, rfl⟩
  obtain ⟨q8, hq8⟩ : ∃ q, (C.is == N.is) = q := ⟨_, rfl⟩
  rw [hq6, hq8] at HE
  cases q1
  · go_enter Tryz.func90, Tryz.ntmps90
    go_upto_region 1 with fail
    rw [HW.out]
    have a0 := HX.out.box.ck
    have a1 := HX.out.box.cr
    have a2 := HX.out.box.ci
    have a3 := HX.out.box.co
    go_wp2_with fail
    refine (CK.out _).mono ?_; rintro e w2 ⟨rfl, hb2⟩
    clear a0 a1 a2 a3
    have HA := Lib.hid (HX.out.next (up_trans hb2 (up_alloc w2 (.cells (chC N SM.nil).toArray 107))))
    have HN := Lib.hid (Blk.new w2 (chC N SM.nil) 107)
    have c1 := HA.out.box.cr
    have c4 := HA.out.box.clv
    have c5 := HA.out.box.cV
    have c6 := HA.out.box.cos
    have c7 := HA.out.box.cW
    have c8 := HA.out.box.cS
    have c9 := HA.out.box.cis
    have c10 := HA.out.box.cG
    have m6 := HN.out.cos
    have m9 := HN.out.cis
    clear hb2
    go_wp2_with (refine sn_row (W := w2) (cs := chC N SM.nil) (zs := chZ) (.tmp 3) (.tmp 9) rfl rfl rfl rfl rfl rfl info_rch rfl chC_one ?_)
    refine (CZ.out _).mono ?_; rintro e w' ⟨rfl, rfl⟩
    go_wp2_with fail
    go_ret
    exact ⟨ret_bool (by rw [HE.out]; simp), HA.out.up⟩
  cases q3
  · go_enter Tryz.func90, Tryz.ntmps90
    go_upto_region 1 with fail
    rw [HW.out]
    have a0 := HX.out.box.ck
    have a1 := HX.out.box.cr
    have a2 := HX.out.box.ci
    have a3 := HX.out.box.co
    go_wp2_with fail
    refine (CK.out _).mono ?_; rintro e w2 ⟨rfl, hb2⟩
    clear a0 a1 a2 a3
    have HA := Lib.hid (HX.out.next (up_trans hb2 (up_alloc w2 (.cells (chC N SM.nil).toArray 107))))
    have HN := Lib.hid (Blk.new w2 (chC N SM.nil) 107)
    have c1 := HA.out.box.cr
    have c4 := HA.out.box.clv
    have c5 := HA.out.box.cV
    have c6 := HA.out.box.cos
    have c7 := HA.out.box.cW
    have c8 := HA.out.box.cS
    have c9 := HA.out.box.cis
    have c10 := HA.out.box.cG
    have m6 := HN.out.cos
    have m9 := HN.out.cis
    clear hb2
    go_wp2_with (refine sn_row (W := w2) (cs := chC N SM.nil) (zs := chZ) (.tmp 3) (.tmp 9) rfl rfl rfl rfl rfl rfl info_rch rfl chC_one ?_)
    refine (CZ.out _).mono ?_; rintro e w' ⟨rfl, rfl⟩
    go_wp2_with fail
    refine (CV.out _ HA.out.up).mono ?_; rintro e w' ⟨rfl, rfl⟩
    go_wp2_with fail
    go_ret
    exact ⟨ret_bool (by rw [HE.out]; simp), HA.out.up⟩
  cases q5
  · go_enter Tryz.func90, Tryz.ntmps90
    go_upto_region 1 with fail
    rw [HW.out]
    have a0 := HX.out.box.ck
    have a1 := HX.out.box.cr
    have a2 := HX.out.box.ci
    have a3 := HX.out.box.co
    go_wp2_with fail
    refine (CK.out _).mono ?_; rintro e w2 ⟨rfl, hb2⟩
    clear a0 a1 a2 a3
    have HA := Lib.hid (HX.out.next (up_trans hb2 (up_alloc w2 (.cells (chC N SM.nil).toArray 107))))
    have HN := Lib.hid (Blk.new w2 (chC N SM.nil) 107)
    have c1 := HA.out.box.cr
    have c4 := HA.out.box.clv
    have c5 := HA.out.box.cV
    have c6 := HA.out.box.cos
    have c7 := HA.out.box.cW
    have c8 := HA.out.box.cS
    have c9 := HA.out.box.cis
    have c10 := HA.out.box.cG
    have m6 := HN.out.cos
    have m9 := HN.out.cis
    clear hb2
    go_wp2_with (refine sn_row (W := w2) (cs := chC N SM.nil) (zs := chZ) (.tmp 3) (.tmp 9) rfl rfl rfl rfl rfl rfl info_rch rfl chC_one ?_)
    refine (CZ.out _).mono ?_; rintro e w' ⟨rfl, rfl⟩
    go_wp2_with fail
    refine (CV.out _ HA.out.up).mono ?_; rintro e w' ⟨rfl, rfl⟩
    go_wp2_with fail
    refine (CT.out _ HA.out.up).mono ?_; rintro e w' ⟨rfl, rfl⟩
    go_wp2_with fail
    go_ret
    exact ⟨ret_bool (by rw [HE.out]; simp), HA.out.up⟩
  cases q2
  · have h2 : C.r < (M.V.n : Int) := by have := of_decide_eq_false hq2; omega
    clear hq2
    go_enter Tryz.func90, Tryz.ntmps90
    go_upto_region 1 with fail
    rw [HW.out]
    have a0 := HX.out.box.ck
    have a1 := HX.out.box.cr
    have a2 := HX.out.box.ci
    have a3 := HX.out.box.co
    go_wp2_with fail
    refine (CK.out _).mono ?_; rintro e w2 ⟨rfl, hb2⟩
    clear a0 a1 a2 a3
    have HA := Lib.hid (HX.out.next (up_trans hb2 (up_alloc w2 (.cells (chC N SM.nil).toArray 107))))
    have HN := Lib.hid (Blk.new w2 (chC N SM.nil) 107)
    have c1 := HA.out.box.cr
    have c4 := HA.out.box.clv
    have c5 := HA.out.box.cV
    have c6 := HA.out.box.cos
    have c7 := HA.out.box.cW
    have c8 := HA.out.box.cS
    have c9 := HA.out.box.cis
    have c10 := HA.out.box.cG
    have m6 := HN.out.cos
    have m9 := HN.out.cis
    clear hb2
    go_wp2_with (refine sn_row (W := w2) (cs := chC N SM.nil) (zs := chZ) (.tmp 3) (.tmp 9) rfl rfl rfl rfl rfl rfl info_rch rfl chC_one ?_)
    refine (CZ.out _).mono ?_; rintro e w' ⟨rfl, rfl⟩
    go_wp2_with fail
    refine (CV.out _ HA.out.up).mono ?_; rintro e w' ⟨rfl, rfl⟩
    go_wp2_with fail
    refine (CT.out _ HA.out.up).mono ?_; rintro e w' ⟨rfl, rfl⟩
    go_wp2_with fail
    go_ret
    exact ⟨ret_bool (by rw [HE.out]; simp), HA.out.up⟩
  have h2 : ¬ C.r < (M.V.n : Int) := by have := of_decide_eq_true hq2; omega
  clear hq2
  cases q4
  · have h4 : ((M.S.n : Int) != (M.W.n : Int)) = true := by simp only [bne, hq4]; rfl
    clear hq4
    go_enter Tryz.func90, Tryz.ntmps90
    go_upto_region 1 with fail
    rw [HW.out]
    have a0 := HX.out.box.ck
    have a1 := HX.out.box.cr
    have a2 := HX.out.box.ci
    have a3 := HX.out.box.co
    go_wp2_with fail
    refine (CK.out _).mono ?_; rintro e w2 ⟨rfl, hb2⟩
    clear a0 a1 a2 a3
    have HA := Lib.hid (HX.out.next (up_trans hb2 (up_alloc w2 (.cells (chC N SM.nil).toArray 107))))
    have HN := Lib.hid (Blk.new w2 (chC N SM.nil) 107)
    have c1 := HA.out.box.cr
    have c4 := HA.out.box.clv
    have c5 := HA.out.box.cV
    have c6 := HA.out.box.cos
    have c7 := HA.out.box.cW
    have c8 := HA.out.box.cS
    have c9 := HA.out.box.cis
    have c10 := HA.out.box.cG
    have m6 := HN.out.cos
    have m9 := HN.out.cis
    clear hb2
    go_wp2_with (refine sn_row (W := w2) (cs := chC N SM.nil) (zs := chZ) (.tmp 3) (.tmp 9) rfl rfl rfl rfl rfl rfl info_rch rfl chC_one ?_)
    refine (CZ.out _).mono ?_; rintro e w' ⟨rfl, rfl⟩
    go_wp2_with fail
    refine (CV.out _ HA.out.up).mono ?_; rintro e w' ⟨rfl, rfl⟩
    go_wp2_with fail
    refine (CT.out _ HA.out.up).mono ?_; rintro e w' ⟨rfl, rfl⟩
    go_wp2_with fail
    go_ret
    exact ⟨ret_bool (by rw [HE.out]; simp), HA.out.up⟩
  have h4 : ((M.S.n : Int) != (M.W.n : Int)) = false := by simp only [bne, hq4]; rfl
  clear hq4
  cases q7
  · go_enter Tryz.func90, Tryz.ntmps90
    go_upto_region 1 with fail
    rw [HW.out]
    have a0 := HX.out.box.ck
    have a1 := HX.out.box.cr
    have a2 := HX.out.box.ci
    have a3 := HX.out.box.co
    go_wp2_with fail
    refine (CK.out _).mono ?_; rintro e w2 ⟨rfl, hb2⟩
    clear a0 a1 a2 a3
    have HA := Lib.hid (HX.out.next (up_trans hb2 (up_alloc w2 (.cells (chC N SM.nil).toArray 107))))
    have HN := Lib.hid (Blk.new w2 (chC N SM.nil) 107)
    have c1 := HA.out.box.cr
    have c4 := HA.out.box.clv
    have c5 := HA.out.box.cV
    have c6 := HA.out.box.cos
    have c7 := HA.out.box.cW
    have c8 := HA.out.box.cS
    have c9 := HA.out.box.cis
    have c10 := HA.out.box.cG
    have m6 := HN.out.cos
    have m9 := HN.out.cis
    clear hb2
    go_wp2_with (refine sn_row (W := w2) (cs := chC N SM.nil) (zs := chZ) (.tmp 3) (.tmp 9) rfl rfl rfl rfl rfl rfl info_rch rfl chC_one ?_)
    refine (CZ.out _).mono ?_; rintro e w' ⟨rfl, rfl⟩
    go_wp2_with fail
    refine (CV.out _ HA.out.up).mono ?_; rintro e w' ⟨rfl, rfl⟩
    go_wp2_with fail
    refine (CT.out _ HA.out.up).mono ?_; rintro e w' ⟨rfl, rfl⟩
    go_wp2_with fail
    refine (CW.out _ HA.out.up).mono ?_; rintro e w3 ⟨rfl, hb3⟩
    have HB := Lib.hid (HA.out.next hb3)
    have HM := Lib.hid (HN.out.up hb3 HN.out.lt)
    clear hb3 c1 c4 c5 c6 c7 c8 c9 c10 m6 m9
    have c6 := HB.out.box.cos
    have c9 := HB.out.box.cis
    have c10 := HB.out.box.cG
    have m6 := HM.out.cos
    have m9 := HM.out.cis
    go_wp2_with fail
    go_ret
    exact ⟨ret_bool (by rw [HE.out]; simp), HB.out.up⟩
  cases q9
  · go_enter Tryz.func90, Tryz.ntmps90
    go_upto_region 1 with fail
    rw [HW.out]
    have a0 := HX.out.box.ck
    have a1 := HX.out.box.cr
    have a2 := HX.out.box.ci
    have a3 := HX.out.box.co
    go_wp2_with fail
    refine (CK.out _).mono ?_; rintro e w2 ⟨rfl, hb2⟩
    clear a0 a1 a2 a3
    have HA := Lib.hid (HX.out.next (up_trans hb2 (up_alloc w2 (.cells (chC N SM.nil).toArray 107))))
    have HN := Lib.hid (Blk.new w2 (chC N SM.nil) 107)
    have c1 := HA.out.box.cr
    have c4 := HA.out.box.clv
    have c5 := HA.out.box.cV
    have c6 := HA.out.box.cos
    have c7 := HA.out.box.cW
    have c8 := HA.out.box.cS
    have c9 := HA.out.box.cis
    have c10 := HA.out.box.cG
    have m6 := HN.out.cos
    have m9 := HN.out.cis
    clear hb2
    go_wp2_with (refine sn_row (W := w2) (cs := chC N SM.nil) (zs := chZ) (.tmp 3) (.tmp 9) rfl rfl rfl rfl rfl rfl info_rch rfl chC_one ?_)
    refine (CZ.out _).mono ?_; rintro e w' ⟨rfl, rfl⟩
    go_wp2_with fail
    refine (CV.out _ HA.out.up).mono ?_; rintro e w' ⟨rfl, rfl⟩
    go_wp2_with fail
    refine (CT.out _ HA.out.up).mono ?_; rintro e w' ⟨rfl, rfl⟩
    go_wp2_with fail
    refine (CW.out _ HA.out.up).mono ?_; rintro e w3 ⟨rfl, hb3⟩
    have HB := Lib.hid (HA.out.next hb3)
    have HM := Lib.hid (HN.out.up hb3 HN.out.lt)
    clear hb3 c1 c4 c5 c6 c7 c8 c9 c10 m6 m9
    have c6 := HB.out.box.cos
    have c9 := HB.out.box.cis
    have c10 := HB.out.box.cG
    have m6 := HM.out.cos
    have m9 := HM.out.cis
    go_wp2_with fail
    refine (CI.out _ HB.out.up).mono ?_; rintro e w4 ⟨rfl, hb4⟩
    have HC := Lib.hid (HB.out.next hb4)
    have HO := Lib.hid (HM.out.up hb4 HM.out.lt)
    clear hb4 c6 c9 c10 m6 m9
    have c6 := HC.out.box.cos
    have c9 := HC.out.box.cis
    have m6 := HO.out.cos
    have m9 := HO.out.cis
    go_wp2_with fail
    go_ret
    exact ⟨ret_bool (by rw [HE.out]; simp), HC.out.up⟩
  cases q6
  · go_enter Tryz.func90, Tryz.ntmps90
    go_upto_region 1 with fail
    rw [HW.out]
    have a0 := HX.out.box.ck
    have a1 := HX.out.box.cr
    have a2 := HX.out.box.ci
    have a3 := HX.out.box.co
    go_wp2_with fail
    refine (CK.out _).mono ?_; rintro e w2 ⟨rfl, hb2⟩
    clear a0 a1 a2 a3
    have HA := Lib.hid (HX.out.next (up_trans hb2 (up_alloc w2 (.cells (chC N SM.nil).toArray 107))))
    have HN := Lib.hid (Blk.new w2 (chC N SM.nil) 107)
    have c1 := HA.out.box.cr
    have c4 := HA.out.box.clv
    have c5 := HA.out.box.cV
    have c6 := HA.out.box.cos
    have c7 := HA.out.box.cW
    have c8 := HA.out.box.cS
    have c9 := HA.out.box.cis
    have c10 := HA.out.box.cG
    have m6 := HN.out.cos
    have m9 := HN.out.cis
    clear hb2
    go_wp2_with (refine sn_row (W := w2) (cs := chC N SM.nil) (zs := chZ) (.tmp 3) (.tmp 9) rfl rfl rfl rfl rfl rfl info_rch rfl chC_one ?_)
    refine (CZ.out _).mono ?_; rintro e w' ⟨rfl, rfl⟩
    go_wp2_with fail
    refine (CV.out _ HA.out.up).mono ?_; rintro e w' ⟨rfl, rfl⟩
    go_wp2_with fail
    refine (CT.out _ HA.out.up).mono ?_; rintro e w' ⟨rfl, rfl⟩
    go_wp2_with fail
    refine (CW.out _ HA.out.up).mono ?_; rintro e w3 ⟨rfl, hb3⟩
    have HB := Lib.hid (HA.out.next hb3)
    have HM := Lib.hid (HN.out.up hb3 HN.out.lt)
    clear hb3 c1 c4 c5 c6 c7 c8 c9 c10 m6 m9
    have c6 := HB.out.box.cos
    have c9 := HB.out.box.cis
    have c10 := HB.out.box.cG
    have m6 := HM.out.cos
    have m9 := HM.out.cis
    go_wp2_with fail
    refine (CI.out _ HB.out.up).mono ?_; rintro e w4 ⟨rfl, hb4⟩
    have HC := Lib.hid (HB.out.next hb4)
    have HO := Lib.hid (HM.out.up hb4 HM.out.lt)
    clear hb4 c6 c9 c10 m6 m9
    have c6 := HC.out.box.cos
    have c9 := HC.out.box.cis
    have m6 := HO.out.cos
    have m9 := HO.out.cis
    go_wp2_with fail
    go_ret
    exact ⟨ret_bool (by rw [HE.out]; simp), HC.out.up⟩
  cases q8
  · go_enter Tryz.func90, Tryz.ntmps90
    go_upto_region 1 with fail
    rw [HW.out]
    have a0 := HX.out.box.ck
    have a1 := HX.out.box.cr
    have a2 := HX.out.box.ci
    have a3 := HX.out.box.co
    go_wp2_with fail
    refine (CK.out _).mono ?_; rintro e w2 ⟨rfl, hb2⟩
    clear a0 a1 a2 a3
    have HA := Lib.hid (HX.out.next (up_trans hb2 (up_alloc w2 (.cells (chC N SM.nil).toArray 107))))
    have HN := Lib.hid (Blk.new w2 (chC N SM.nil) 107)
    have c1 := HA.out.box.cr
    have c4 := HA.out.box.clv
    have c5 := HA.out.box.cV
    have c6 := HA.out.box.cos
    have c7 := HA.out.box.cW
    have c8 := HA.out.box.cS
    have c9 := HA.out.box.cis
    have c10 := HA.out.box.cG
    have m6 := HN.out.cos
    have m9 := HN.out.cis
    clear hb2
    go_wp2_with (refine sn_row (W := w2) (cs := chC N SM.nil) (zs := chZ) (.tmp 3) (.tmp 9) rfl rfl rfl rfl rfl rfl info_rch rfl chC_one ?_)
    refine (CZ.out _).mono ?_; rintro e w' ⟨rfl, rfl⟩
    go_wp2_with fail
    refine (CV.out _ HA.out.up).mono ?_; rintro e w' ⟨rfl, rfl⟩
    go_wp2_with fail
    refine (CT.out _ HA.out.up).mono ?_; rintro e w' ⟨rfl, rfl⟩
    go_wp2_with fail
    refine (CW.out _ HA.out.up).mono ?_; rintro e w3 ⟨rfl, hb3⟩
    have HB := Lib.hid (HA.out.next hb3)
    have HM := Lib.hid (HN.out.up hb3 HN.out.lt)
    clear hb3 c1 c4 c5 c6 c7 c8 c9 c10 m6 m9
    have c6 := HB.out.box.cos
    have c9 := HB.out.box.cis
    have c10 := HB.out.box.cG
    have m6 := HM.out.cos
    have m9 := HM.out.cis
    go_wp2_with fail
    refine (CI.out _ HB.out.up).mono ?_; rintro e w4 ⟨rfl, hb4⟩
    have HC := Lib.hid (HB.out.next hb4)
    have HO := Lib.hid (HM.out.up hb4 HM.out.lt)
    clear hb4 c6 c9 c10 m6 m9
    have c6 := HC.out.box.cos
    have c9 := HC.out.box.cis
    have m6 := HO.out.cos
    have m9 := HO.out.cis
    go_wp2_with fail
    go_ret
    exact ⟨ret_bool (by rw [HE.out]; simp), HC.out.up⟩
  · go_enter Tryz.func90, Tryz.ntmps90
    go_upto_region 1 with fail
    rw [HW.out]
    have a0 := HX.out.box.ck
    have a1 := HX.out.box.cr
    have a2 := HX.out.box.ci
    have a3 := HX.out.box.co
    go_wp2_with fail
    refine (CK.out _).mono ?_; rintro e w2 ⟨rfl, hb2⟩
    clear a0 a1 a2 a3
    have HA := Lib.hid (HX.out.next (up_trans hb2 (up_alloc w2 (.cells (chC N SM.nil).toArray 107))))
    have HN := Lib.hid (Blk.new w2 (chC N SM.nil) 107)
    have c1 := HA.out.box.cr
    have c4 := HA.out.box.clv
    have c5 := HA.out.box.cV
    have c6 := HA.out.box.cos
    have c7 := HA.out.box.cW
    have c8 := HA.out.box.cS
    have c9 := HA.out.box.cis
    have c10 := HA.out.box.cG
    have m6 := HN.out.cos
    have m9 := HN.out.cis
    clear hb2
    go_wp2_with (refine sn_row (W := w2) (cs := chC N SM.nil) (zs := chZ) (.tmp 3) (.tmp 9) rfl rfl rfl rfl rfl rfl info_rch rfl chC_one ?_)
    refine (CZ.out _).mono ?_; rintro e w' ⟨rfl, rfl⟩
    go_wp2_with fail
    refine (CV.out _ HA.out.up).mono ?_; rintro e w' ⟨rfl, rfl⟩
    go_wp2_with fail
    refine (CT.out _ HA.out.up).mono ?_; rintro e w' ⟨rfl, rfl⟩
    go_wp2_with fail
    refine (CW.out _ HA.out.up).mono ?_; rintro e w3 ⟨rfl, hb3⟩
    have HB := Lib.hid (HA.out.next hb3)
    have HM := Lib.hid (HN.out.up hb3 HN.out.lt)
    clear hb3 c1 c4 c5 c6 c7 c8 c9 c10 m6 m9
    have c6 := HB.out.box.cos
    have c9 := HB.out.box.cis
    have c10 := HB.out.box.cG
    have m6 := HM.out.cos
    have m9 := HM.out.cis
    go_wp2_with fail
    refine (CI.out _ HB.out.up).mono ?_; rintro e w4 ⟨rfl, hb4⟩
    have HC := Lib.hid (HB.out.next hb4)
    have HO := Lib.hid (HM.out.up hb4 HM.out.lt)
    clear hb4 c6 c9 c10 m6 m9
    have c6 := HC.out.box.cos
    have c9 := HC.out.box.cis
    have m6 := HO.out.cos
    have m9 := HO.out.cis
    go_wp2_with fail
    go_ret
    exact ⟨ret_bool (by rw [HE.out]; simp), HC.out.up⟩
end Go.Proofs.YtdiiilnebepfdaaGreatDoor

namespace Go.Proofs.YtdiiilnebepfdaaGreatDoor
open Go.RowKit

end Go.Proofs.YtdiiilnebepfdaaGreatDoor
