/- The document's Fine of layer 18. The document's Hit and What of layer 18. -/
import Derived.Test.YtdiiilnebepfdaaGreatDoorC3
import Derived.Test.YtdiiilnebepfdaaGreatDoorC1
namespace Go.Proofs.YtdiiilnebepfdaaGreatDoor
open Go.RowKit

set_option maxRecDepth 100000 in
set_option maxHeartbeats 4000000 in
theorem c_rcfine {w : World} {pl : Nat → Prop} {C : CP} {M : SM} (h : ChW w pl C M) (hn : ChFew M) :
    Calls Tryz.prog 90 #[.agg (chC C M).toArray] w fun e w' => e = .returned (.bool (chFine C)) ∧ Below w.heap.size w w' := by
  have hX := bx1_rch w C M
  generalize hw1 : w.alloc (.cells (chC C M).toArray 107) = w1 at hX
  have HW := Lib.hid hw1
  have HX := Lib.hid hX
  have CK := Lib.hid (fun W => c_rnew C.k C.r C.i C.o W)
  have CZ := Lib.hid (fun W => c_qzfine C.lv W)
  have CV := Lib.hid (fun W (hW : Below w.heap.size w W) => c_rwords (h.v.below hW) (by have := hn.v; omega))
  have CT := Lib.hid (fun W (hW : Below w.heap.size w W) => c_rwords (h.s.below hW) (by have := hn.s; omega))
  have CW := Lib.hid (fun W (hW : Below w.heap.size w W) => c_mfine (h.w_.below hW) (by have := hn.w_; omega) C.os)
  have CI := Lib.hid (fun W (hW : Below w.heap.size w W) => c_mfine (h.g.below hW) (by have := hn.g; omega) C.is)
  have HE := Lib.hid (show chFine C = ((ccE C.k C.r C.i C.o == 0) && (pzFine C.lv && (decide ((C.V.length : Int) ≤ C.r) && (wordsL C.V && (((C.S.length : Int) == (C.W.length : Int)) && (wordsL C.S && ((C.os == chOs C.k) && (lnFine C.os C.W && ((C.is == chIs C.k) && lnFine C.is C.G))))))))) from rfl)
  have HN1 : Hid (ccE C.k C.r C.i C.o = 0 → (chNew C.k C.r C.i C.o).os = chOs C.k ∧ (chNew C.k C.r C.i C.o).is = chIs C.k) := Lib.hid fun e => by unfold chNew; rw [e]; exact ⟨rfl, rfl⟩
  rw [h.v.len, h.w_.len, h.s.len] at HE
  generalize chNew C.k C.r C.i C.o = N at CK HN1
  generalize chFine C = q at HE ⊢
  generalize ccE C.k C.r C.i C.o = x0 at CK HE HN1
  generalize pzFine C.lv = q1 at CZ HE
  generalize wordsL C.V = q3 at CV HE
  generalize wordsL C.S = q5 at CT HE
  generalize chOs C.k = x6 at HE HN1
  generalize lnFine C.os C.W = q7 at CW HE
  generalize chIs C.k = x8 at HE HN1
  generalize lnFine C.is C.G = q9 at CI HE
  obtain ⟨q0, hq0⟩ : ∃ q, (x0 == 0) = q := ⟨_, rfl⟩
  obtain ⟨q2, hq2⟩ : ∃ q, decide ((M.V.n : Int) ≤ C.r) = q := ⟨_, rfl⟩
  obtain ⟨q4, hq4⟩ : ∃ q, ((M.S.n : Int) == (M.W.n : Int)) = q := ⟨_, rfl⟩
  rw [hq0, hq2, hq4] at HE
  clear h hn hX hw1
  cases q0
  · have hx' : (x0 != 0) = true := by simp [bne, hq0]
    clear hq0 HN1
    go_enter Tryz.func90, Tryz.ntmps90
    go_upto_region 1 with fail
    rw [HW.out]
    have a0 := HX.out.box.ck
    have a1 := HX.out.box.cr
    have a2 := HX.out.box.ci
    have a3 := HX.out.box.co
    go_wp2_with fail
    refine (CK.out _).mono ?_; rintro e w2 ⟨rfl, hb2⟩
    clear a0 a1 a2 a3
    have HA := Lib.hid (HX.out.next (up_trans hb2 (up_alloc w2 (.cells (chC N SM.nil).toArray 107))))
    have HN := Lib.hid (Blk.new w2 (chC N SM.nil) 107)
    have c1 := HA.out.box.cr
    have c4 := HA.out.box.clv
    have c5 := HA.out.box.cV
    have c6 := HA.out.box.cos
    have c7 := HA.out.box.cW
    have c8 := HA.out.box.cS
    have c9 := HA.out.box.cis
    have c10 := HA.out.box.cG
    have m6 := HN.out.cos
    have m9 := HN.out.cis
    clear hb2
    go_wp2_with (refine sn_row (W := w2) (cs := chC N SM.nil) (zs := chZ) (.tmp 3) (.tmp 9) rfl rfl rfl rfl rfl rfl info_rch rfl chC_one ?_)
    go_ret
    exact ⟨ret_bool (by rw [HE.out]; simp), HA.out.up⟩
  have hx0 : x0 = 0 := by simpa using hq0
  subst hx0
  have HN2 := Lib.hid (HN1.out rfl)
  clear hq0 HN1
  rw [← HN2.out.1, ← HN2.out.2] at HE
  clear HN2
  obtain ⟨q6, hq6⟩ : ∃ q, (C.os == N.os) = q := ⟨_, rfl⟩
  obtain ⟨q8, hq8⟩ : ∃ q, (C.is == N.is) = q := ⟨_, rfl⟩
  rw [hq6, hq8] at HE
  cases q1
  · go_enter Tryz.func90, Tryz.ntmps90
    go_upto_region 1 with fail
    rw [HW.out]
    have a0 := HX.out.box.ck
    have a1 := HX.out.box.cr
    have a2 := HX.out.box.ci
    have a3 := HX.out.box.co
    go_wp2_with fail
    refine (CK.out _).mono ?_; rintro e w2 ⟨rfl, hb2⟩
    clear a0 a1 a2 a3
    have HA := Lib.hid (HX.out.next (up_trans hb2 (up_alloc w2 (.cells (chC N SM.nil).toArray 107))))
    have HN := Lib.hid (Blk.new w2 (chC N SM.nil) 107)
    have c1 := HA.out.box.cr
    have c4 := HA.out.box.clv
    have c5 := HA.out.box.cV
    have c6 := HA.out.box.cos
    have c7 := HA.out.box.cW
    have c8 := HA.out.box.cS
    have c9 := HA.out.box.cis
    have c10 := HA.out.box.cG
    have m6 := HN.out.cos
    have m9 := HN.out.cis
    clear hb2
    go_wp2_with (refine sn_row (W := w2) (cs := chC N SM.nil) (zs := chZ) (.tmp 3) (.tmp 9) rfl rfl rfl rfl rfl rfl info_rch rfl chC_one ?_)
    refine (CZ.out _).mono ?_; rintro e w' ⟨rfl, rfl⟩
    go_wp2_with fail
    go_ret
    exact ⟨ret_bool (by rw [HE.out]; simp), HA.out.up⟩
  cases q3
  · go_enter Tryz.func90, Tryz.ntmps90
    go_upto_region 1 with fail
    rw [HW.out]
    have a0 := HX.out.box.ck
    have a1 := HX.out.box.cr
    have a2 := HX.out.box.ci
    have a3 := HX.out.box.co
    go_wp2_with fail
    refine (CK.out _).mono ?_; rintro e w2 ⟨rfl, hb2⟩
    clear a0 a1 a2 a3
    have HA := Lib.hid (HX.out.next (up_trans hb2 (up_alloc w2 (.cells (chC N SM.nil).toArray 107))))
    have HN := Lib.hid (Blk.new w2 (chC N SM.nil) 107)
    have c1 := HA.out.box.cr
    have c4 := HA.out.box.clv
    have c5 := HA.out.box.cV
    have c6 := HA.out.box.cos
    have c7 := HA.out.box.cW
    have c8 := HA.out.box.cS
    have c9 := HA.out.box.cis
    have c10 := HA.out.box.cG
    have m6 := HN.out.cos
    have m9 := HN.out.cis
    clear hb2
    go_wp2_with (refine sn_row (W := w2) (cs := chC N SM.nil) (zs := chZ) (.tmp 3) (.tmp 9) rfl rfl rfl rfl rfl rfl info_rch rfl chC_one ?_)
    refine (CZ.out _).mono ?_; rintro e w' ⟨rfl, rfl⟩
    go_wp2_with fail
    refine (CV.out _ HA.out.up).mono ?_; rintro e w' ⟨rfl, rfl⟩
    go_wp2_with fail
    go_ret
    exact ⟨ret_bool (by rw [HE.out]; simp), HA.out.up⟩
  cases q5
  · go_enter Tryz.func90, Tryz.ntmps90
    go_upto_region 1 with fail
    rw [HW.out]
    have a0 := HX.out.box.ck
    have a1 := HX.out.box.cr
    have a2 := HX.out.box.ci
    have a3 := HX.out.box.co
    go_wp2_with fail
    refine (CK.out _).mono ?_; rintro e w2 ⟨rfl, hb2⟩
    clear a0 a1 a2 a3
    have HA := Lib.hid (HX.out.next (up_trans hb2 (up_alloc w2 (.cells (chC N SM.nil).toArray 107))))
    have HN := Lib.hid (Blk.new w2 (chC N SM.nil) 107)
    have c1 := HA.out.box.cr
    have c4 := HA.out.box.clv
    have c5 := HA.out.box.cV
    have c6 := HA.out.box.cos
    have c7 := HA.out.box.cW
    have c8 := HA.out.box.cS
    have c9 := HA.out.box.cis
    have c10 := HA.out.box.cG
    have m6 := HN.out.cos
    have m9 := HN.out.cis
    clear hb2
    go_wp2_with (refine sn_row (W := w2) (cs := chC N SM.nil) (zs := chZ) (.tmp 3) (.tmp 9) rfl rfl rfl rfl rfl rfl info_rch rfl chC_one ?_)
    refine (CZ.out _).mono ?_; rintro e w' ⟨rfl, rfl⟩
    go_wp2_with fail
    refine (CV.out _ HA.out.up).mono ?_; rintro e w' ⟨rfl, rfl⟩
    go_wp2_with fail
    refine (CT.out _ HA.out.up).mono ?_; rintro e w' ⟨rfl, rfl⟩
    go_wp2_with fail
    go_ret
    exact ⟨ret_bool (by rw [HE.out]; simp), HA.out.up⟩
  cases q2
  · have h2 : C.r < (M.V.n : Int) := by have := of_decide_eq_false hq2; omega
    clear hq2
    go_enter Tryz.func90, Tryz.ntmps90
    go_upto_region 1 with fail
    rw [HW.out]
    have a0 := HX.out.box.ck
    have a1 := HX.out.box.cr
    have a2 := HX.out.box.ci
    have a3 := HX.out.box.co
    go_wp2_with fail
    refine (CK.out _).mono ?_; rintro e w2 ⟨rfl, hb2⟩
    clear a0 a1 a2 a3
    have HA := Lib.hid (HX.out.next (up_trans hb2 (up_alloc w2 (.cells (chC N SM.nil).toArray 107))))
    have HN := Lib.hid (Blk.new w2 (chC N SM.nil) 107)
    have c1 := HA.out.box.cr
    have c4 := HA.out.box.clv
    have c5 := HA.out.box.cV
    have c6 := HA.out.box.cos
    have c7 := HA.out.box.cW
    have c8 := HA.out.box.cS
    have c9 := HA.out.box.cis
    have c10 := HA.out.box.cG
    have m6 := HN.out.cos
    have m9 := HN.out.cis
    clear hb2
    go_wp2_with (refine sn_row (W := w2) (cs := chC N SM.nil) (zs := chZ) (.tmp 3) (.tmp 9) rfl rfl rfl rfl rfl rfl info_rch rfl chC_one ?_)
    refine (CZ.out _).mono ?_; rintro e w' ⟨rfl, rfl⟩
    go_wp2_with fail
    refine (CV.out _ HA.out.up).mono ?_; rintro e w' ⟨rfl, rfl⟩
    go_wp2_with fail
    refine (CT.out _ HA.out.up).mono ?_; rintro e w' ⟨rfl, rfl⟩
    go_wp2_with fail
    go_ret
    exact ⟨ret_bool (by rw [HE.out]; simp), HA.out.up⟩
  have h2 : ¬ C.r < (M.V.n : Int) := by have := of_decide_eq_true hq2; omega
  clear hq2
  cases q4
  · have h4 : ((M.S.n : Int) != (M.W.n : Int)) = true := by simp only [bne, hq4]; rfl
    clear hq4
    go_enter Tryz.func90, Tryz.ntmps90
    go_upto_region 1 with fail
    rw [HW.out]
    have a0 := HX.out.box.ck
    have a1 := HX.out.box.cr
    have a2 := HX.out.box.ci
    have a3 := HX.out.box.co
    go_wp2_with fail
    refine (CK.out _).mono ?_; rintro e w2 ⟨rfl, hb2⟩
    clear a0 a1 a2 a3
    have HA := Lib.hid (HX.out.next (up_trans hb2 (up_alloc w2 (.cells (chC N SM.nil).toArray 107))))
    have HN := Lib.hid (Blk.new w2 (chC N SM.nil) 107)
    have c1 := HA.out.box.cr
    have c4 := HA.out.box.clv
    have c5 := HA.out.box.cV
    have c6 := HA.out.box.cos
    have c7 := HA.out.box.cW
    have c8 := HA.out.box.cS
    have c9 := HA.out.box.cis
    have c10 := HA.out.box.cG
    have m6 := HN.out.cos
    have m9 := HN.out.cis
    clear hb2
    go_wp2_with (refine sn_row (W := w2) (cs := chC N SM.nil) (zs := chZ) (.tmp 3) (.tmp 9) rfl rfl rfl rfl rfl rfl info_rch rfl chC_one ?_)
    refine (CZ.out _).mono ?_; rintro e w' ⟨rfl, rfl⟩
    go_wp2_with fail
    refine (CV.out _ HA.out.up).mono ?_; rintro e w' ⟨rfl, rfl⟩
    go_wp2_with fail
    refine (CT.out _ HA.out.up).mono ?_; rintro e w' ⟨rfl, rfl⟩
    go_wp2_with fail
    go_ret
    exact ⟨ret_bool (by rw [HE.out]; simp), HA.out.up⟩
  have h4 : ((M.S.n : Int) != (M.W.n : Int)) = false := by simp only [bne, hq4]; rfl
  clear hq4
  cases q7
  · go_enter Tryz.func90, Tryz.ntmps90
    go_upto_region 1 with fail
    rw [HW.out]
    have a0 := HX.out.box.ck
    have a1 := HX.out.box.cr
    have a2 := HX.out.box.ci
    have a3 := HX.out.box.co
    go_wp2_with fail
    refine (CK.out _).mono ?_; rintro e w2 ⟨rfl, hb2⟩
    clear a0 a1 a2 a3
    have HA := Lib.hid (HX.out.next (up_trans hb2 (up_alloc w2 (.cells (chC N SM.nil).toArray 107))))
    have HN := Lib.hid (Blk.new w2 (chC N SM.nil) 107)
    have c1 := HA.out.box.cr
    have c4 := HA.out.box.clv
    have c5 := HA.out.box.cV
    have c6 := HA.out.box.cos
    have c7 := HA.out.box.cW
    have c8 := HA.out.box.cS
    have c9 := HA.out.box.cis
    have c10 := HA.out.box.cG
    have m6 := HN.out.cos
    have m9 := HN.out.cis
    clear hb2
    go_wp2_with (refine sn_row (W := w2) (cs := chC N SM.nil) (zs := chZ) (.tmp 3) (.tmp 9) rfl rfl rfl rfl rfl rfl info_rch rfl chC_one ?_)
    refine (CZ.out _).mono ?_; rintro e w' ⟨rfl, rfl⟩
    go_wp2_with fail
    refine (CV.out _ HA.out.up).mono ?_; rintro e w' ⟨rfl, rfl⟩
    go_wp2_with fail
    refine (CT.out _ HA.out.up).mono ?_; rintro e w' ⟨rfl, rfl⟩
    go_wp2_with fail
    refine (CW.out _ HA.out.up).mono ?_; rintro e w3 ⟨rfl, hb3⟩
    have HB := Lib.hid (HA.out.next hb3)
    have HM := Lib.hid (HN.out.up hb3 HN.out.lt)
    clear hb3 c1 c4 c5 c6 c7 c8 c9 c10 m6 m9
    have c6 := HB.out.box.cos
    have c9 := HB.out.box.cis
    have c10 := HB.out.box.cG
    have m6 := HM.out.cos
    have m9 := HM.out.cis
    go_wp2_with fail
    go_ret
    exact ⟨ret_bool (by rw [HE.out]; simp), HB.out.up⟩
  cases q9
  · go_enter Tryz.func90, Tryz.ntmps90
    go_upto_region 1 with fail
    rw [HW.out]
    have a0 := HX.out.box.ck
    have a1 := HX.out.box.cr
    have a2 := HX.out.box.ci
    have a3 := HX.out.box.co
    go_wp2_with fail
    refine (CK.out _).mono ?_; rintro e w2 ⟨rfl, hb2⟩
    clear a0 a1 a2 a3
    have HA := Lib.hid (HX.out.next (up_trans hb2 (up_alloc w2 (.cells (chC N SM.nil).toArray 107))))
    have HN := Lib.hid (Blk.new w2 (chC N SM.nil) 107)
    have c1 := HA.out.box.cr
    have c4 := HA.out.box.clv
    have c5 := HA.out.box.cV
    have c6 := HA.out.box.cos
    have c7 := HA.out.box.cW
    have c8 := HA.out.box.cS
    have c9 := HA.out.box.cis
    have c10 := HA.out.box.cG
    have m6 := HN.out.cos
    have m9 := HN.out.cis
    clear hb2
    go_wp2_with (refine sn_row (W := w2) (cs := chC N SM.nil) (zs := chZ) (.tmp 3) (.tmp 9) rfl rfl rfl rfl rfl rfl info_rch rfl chC_one ?_)
    refine (CZ.out _).mono ?_; rintro e w' ⟨rfl, rfl⟩
    go_wp2_with fail
    refine (CV.out _ HA.out.up).mono ?_; rintro e w' ⟨rfl, rfl⟩
    go_wp2_with fail
    refine (CT.out _ HA.out.up).mono ?_; rintro e w' ⟨rfl, rfl⟩
    go_wp2_with fail
    refine (CW.out _ HA.out.up).mono ?_; rintro e w3 ⟨rfl, hb3⟩
    have HB := Lib.hid (HA.out.next hb3)
    have HM := Lib.hid (HN.out.up hb3 HN.out.lt)
    clear hb3 c1 c4 c5 c6 c7 c8 c9 c10 m6 m9
    have c6 := HB.out.box.cos
    have c9 := HB.out.box.cis
    have c10 := HB.out.box.cG
    have m6 := HM.out.cos
    have m9 := HM.out.cis
    go_wp2_with fail
    refine (CI.out _ HB.out.up).mono ?_; rintro e w4 ⟨rfl, hb4⟩
    have HC := Lib.hid (HB.out.next hb4)
    have HO := Lib.hid (HM.out.up hb4 HM.out.lt)
    clear hb4 c6 c9 c10 m6 m9
    have c6 := HC.out.box.cos
    have c9 := HC.out.box.cis
    have m6 := HO.out.cos
    have m9 := HO.out.cis
    go_wp2_with fail
    go_ret
    exact ⟨ret_bool (by rw [HE.out]; simp), HC.out.up⟩
  cases q6
  · go_enter Tryz.func90, Tryz.ntmps90
    go_upto_region 1 with fail
    rw [HW.out]
    have a0 := HX.out.box.ck
    have a1 := HX.out.box.cr
    have a2 := HX.out.box.ci
    have a3 := HX.out.box.co
    go_wp2_with fail
    refine (CK.out _).mono ?_; rintro e w2 ⟨rfl, hb2⟩
    clear a0 a1 a2 a3
    have HA := Lib.hid (HX.out.next (up_trans hb2 (up_alloc w2 (.cells (chC N SM.nil).toArray 107))))
    have HN := Lib.hid (Blk.new w2 (chC N SM.nil) 107)
    have c1 := HA.out.box.cr
    have c4 := HA.out.box.clv
    have c5 := HA.out.box.cV
    have c6 := HA.out.box.cos
    have c7 := HA.out.box.cW
    have c8 := HA.out.box.cS
    have c9 := HA.out.box.cis
    have c10 := HA.out.box.cG
    have m6 := HN.out.cos
    have m9 := HN.out.cis
    clear hb2
    go_wp2_with (refine sn_row (W := w2) (cs := chC N SM.nil) (zs := chZ) (.tmp 3) (.tmp 9) rfl rfl rfl rfl rfl rfl info_rch rfl chC_one ?_)
    refine (CZ.out _).mono ?_; rintro e w' ⟨rfl, rfl⟩
    go_wp2_with fail
    refine (CV.out _ HA.out.up).mono ?_; rintro e w' ⟨rfl, rfl⟩
    go_wp2_with fail
    refine (CT.out _ HA.out.up).mono ?_; rintro e w' ⟨rfl, rfl⟩
    go_wp2_with fail
    refine (CW.out _ HA.out.up).mono ?_; rintro e w3 ⟨rfl, hb3⟩
    have HB := Lib.hid (HA.out.next hb3)
    have HM := Lib.hid (HN.out.up hb3 HN.out.lt)
    clear hb3 c1 c4 c5 c6 c7 c8 c9 c10 m6 m9
    have c6 := HB.out.box.cos
    have c9 := HB.out.box.cis
    have c10 := HB.out.box.cG
    have m6 := HM.out.cos
    have m9 := HM.out.cis
    go_wp2_with fail
    refine (CI.out _ HB.out.up).mono ?_; rintro e w4 ⟨rfl, hb4⟩
    have HC := Lib.hid (HB.out.next hb4)
    have HO := Lib.hid (HM.out.up hb4 HM.out.lt)
    clear hb4 c6 c9 c10 m6 m9
    have c6 := HC.out.box.cos
    have c9 := HC.out.box.cis
    have m6 := HO.out.cos
    have m9 := HO.out.cis
    go_wp2_with fail
    go_ret
    exact ⟨ret_bool (by rw [HE.out]; simp), HC.out.up⟩
  cases q8
  · go_enter Tryz.func90, Tryz.ntmps90
    go_upto_region 1 with fail
    rw [HW.out]
    have a0 := HX.out.box.ck
    have a1 := HX.out.box.cr
    have a2 := HX.out.box.ci
    have a3 := HX.out.box.co
    go_wp2_with fail
    refine (CK.out _).mono ?_; rintro e w2 ⟨rfl, hb2⟩
    clear a0 a1 a2 a3
    have HA := Lib.hid (HX.out.next (up_trans hb2 (up_alloc w2 (.cells (chC N SM.nil).toArray 107))))
    have HN := Lib.hid (Blk.new w2 (chC N SM.nil) 107)
    have c1 := HA.out.box.cr
    have c4 := HA.out.box.clv
    have c5 := HA.out.box.cV
    have c6 := HA.out.box.cos
    have c7 := HA.out.box.cW
    have c8 := HA.out.box.cS
    have c9 := HA.out.box.cis
    have c10 := HA.out.box.cG
    have m6 := HN.out.cos
    have m9 := HN.out.cis
    clear hb2
    go_wp2_with (refine sn_row (W := w2) (cs := chC N SM.nil) (zs := chZ) (.tmp 3) (.tmp 9) rfl rfl rfl rfl rfl rfl info_rch rfl chC_one ?_)
    refine (CZ.out _).mono ?_; rintro e w' ⟨rfl, rfl⟩
    go_wp2_with fail
    refine (CV.out _ HA.out.up).mono ?_; rintro e w' ⟨rfl, rfl⟩
    go_wp2_with fail
    refine (CT.out _ HA.out.up).mono ?_; rintro e w' ⟨rfl, rfl⟩
    go_wp2_with fail
    refine (CW.out _ HA.out.up).mono ?_; rintro e w3 ⟨rfl, hb3⟩
    have HB := Lib.hid (HA.out.next hb3)
    have HM := Lib.hid (HN.out.up hb3 HN.out.lt)
    clear hb3 c1 c4 c5 c6 c7 c8 c9 c10 m6 m9
    have c6 := HB.out.box.cos
    have c9 := HB.out.box.cis
    have c10 := HB.out.box.cG
    have m6 := HM.out.cos
    have m9 := HM.out.cis
    go_wp2_with fail
    refine (CI.out _ HB.out.up).mono ?_; rintro e w4 ⟨rfl, hb4⟩
    have HC := Lib.hid (HB.out.next hb4)
    have HO := Lib.hid (HM.out.up hb4 HM.out.lt)
    clear hb4 c6 c9 c10 m6 m9
    have c6 := HC.out.box.cos
    have c9 := HC.out.box.cis
    have m6 := HO.out.cos
    have m9 := HO.out.cis
    go_wp2_with fail
    go_ret
    exact ⟨ret_bool (by rw [HE.out]; simp), HC.out.up⟩
  · go_enter Tryz.func90, Tryz.ntmps90
    go_upto_region 1 with fail
    rw [HW.out]
    have a0 := HX.out.box.ck
    have a1 := HX.out.box.cr
    have a2 := HX.out.box.ci
    have a3 := HX.out.box.co
    go_wp2_with fail
    refine (CK.out _).mono ?_; rintro e w2 ⟨rfl, hb2⟩
    clear a0 a1 a2 a3
    have HA := Lib.hid (HX.out.next (up_trans hb2 (up_alloc w2 (.cells (chC N SM.nil).toArray 107))))
    have HN := Lib.hid (Blk.new w2 (chC N SM.nil) 107)
    have c1 := HA.out.box.cr
    have c4 := HA.out.box.clv
    have c5 := HA.out.box.cV
    have c6 := HA.out.box.cos
    have c7 := HA.out.box.cW
    have c8 := HA.out.box.cS
    have c9 := HA.out.box.cis
    have c10 := HA.out.box.cG
    have m6 := HN.out.cos
    have m9 := HN.out.cis
    clear hb2
    go_wp2_with (refine sn_row (W := w2) (cs := chC N SM.nil) (zs := chZ) (.tmp 3) (.tmp 9) rfl rfl rfl rfl rfl rfl info_rch rfl chC_one ?_)
    refine (CZ.out _).mono ?_; rintro e w' ⟨rfl, rfl⟩
    go_wp2_with fail
    refine (CV.out _ HA.out.up).mono ?_; rintro e w' ⟨rfl, rfl⟩
    go_wp2_with fail
    refine (CT.out _ HA.out.up).mono ?_; rintro e w' ⟨rfl, rfl⟩
    go_wp2_with fail
    refine (CW.out _ HA.out.up).mono ?_; rintro e w3 ⟨rfl, hb3⟩
    have HB := Lib.hid (HA.out.next hb3)
    have HM := Lib.hid (HN.out.up hb3 HN.out.lt)
    clear hb3 c1 c4 c5 c6 c7 c8 c9 c10 m6 m9
    have c6 := HB.out.box.cos
    have c9 := HB.out.box.cis
    have c10 := HB.out.box.cG
    have m6 := HM.out.cos
    have m9 := HM.out.cis
    go_wp2_with fail
    refine (CI.out _ HB.out.up).mono ?_; rintro e w4 ⟨rfl, hb4⟩
    have HC := Lib.hid (HB.out.next hb4)
    have HO := Lib.hid (HM.out.up hb4 HM.out.lt)
    clear hb4 c6 c9 c10 m6 m9
    have c6 := HC.out.box.cos
    have c9 := HC.out.box.cis
    have m6 := HO.out.cos
    have m9 := HO.out.cis
    go_wp2_with fail
    go_ret
    exact ⟨ret_bool (by rw [HE.out]; simp), HC.out.up⟩
end Go.Proofs.YtdiiilnebepfdaaGreatDoor

namespace Go.Proofs.YtdiiilnebepfdaaGreatDoor
open Go.RowKit


set_option maxRecDepth 100000 in
set_option maxHeartbeats 8000000 in
theorem c_rcwhat {w : World} {pl : Nat → Prop} {C : CP} {M : SM} (h : ChW w pl C M) (hn : ChFew M) :
    Calls Tryz.prog 106 #[.agg (chC C M).toArray] w (IntsPost w (chWhat C)) := by
  have hX := bx1_rch w C M
  generalize hw1 : w.alloc (.cells (chC C M).toArray 107) = w1 at hX
  have HW := Lib.hid hw1
  have HX := Lib.hid hX
  have CF := Lib.hid (fun W (hW : Below w.heap.size w W) => c_rcfine (h.below hW) hn)
  have CO := Lib.hid (fun W => c_rout W C M)
  have CI := Lib.hid (fun W => c_rin W C M)
  have HLV := Lib.hid h.v.len
  have HLW := Lib.hid h.w_.len
  have HLG := Lib.hid h.g.len
  clear h hn hX hw1
  cases hf : chFine C
  · have HE : Hid (chWhat C = []) := Lib.hid (by unfold chWhat; rw [if_neg (by rw [hf]; decide)])
    rw [hf] at CF
    rw [HE.out]
    clear hf HE
    go_enter Tryz.func106, Tryz.ntmps106
    go_upto_region 1 with fail
    rw [HW.out]
    go_wp2_with (refine ld_row HX.out.box rfl (.tmp 1) rfl rfl Tryz.underlying107 rfl info_rch ?_)
    refine (CF.out _ HX.out.up).mono ?_; rintro e w2 ⟨rfl, hb2⟩
    have HU := Lib.hid (up_trans HX.out.up hb2)
    clear hb2
    go_wp2
    go_ret
    exact ⟨none, 0, rfl, Nat.le_refl _, by unfold maxLen; omega, RD.nil _ _ _ _, HU.out⟩
  have HK := Lib.hid (chOk hf)
  have HE : Hid (chWhat C = (if chMay C 1 then [1] else []) ++ ((if chMay C 2 then [2] else []) ++ (if chMay C 3 then [3] else []))) := Lib.hid (by unfold chWhat; rw [if_pos hf])
  have H1 : Hid (chMay C 1 = ((C.r == 0) && (chSends C && chGets C))) := Lib.hid rfl
  have H2 : Hid (chMay C 2 = (decide ((M.V.n : Int) < C.r) && chSends C)) := Lib.hid (by rw [← HLV.out]; rfl)
  have H3 : Hid (chMay C 3 = (decide (0 < (M.V.n : Int)) && chGets C)) := Lib.hid (by rw [← HLV.out]; rfl)
  have HS : Hid (chSends C = (decide (0 < (M.W.n : Int)) && !chOut C)) := Lib.hid (by rw [← HLW.out]; rfl)
  have HG : Hid (chGets C = (decide (0 < (M.G.n : Int)) && !chIn C)) := Lib.hid (by rw [← HLG.out]; rfl)
  have HR : Hid (0 ≤ C.r ∧ (M.V.n : Int) ≤ C.r) := Lib.hid ⟨(ccE_ok HK.out.e).2.1.1, by rw [← HLV.out]; exact HK.out.room⟩
  rw [H1.out, H2.out, H3.out] at HE
  rw [hf] at CF
  generalize chWhat C = Q at HE ⊢
  generalize chSends C = qs at HE HS
  generalize chGets C = qg at HE HG
  generalize chOut C = qo at CO HS
  generalize chIn C = qi at CI HG
  clear hf H1 H2 H3 HK
  go_enter Tryz.func106, Tryz.ntmps106
  go_upto_region 1 with fail
  rw [HW.out]
  go_wp2_with (refine ld_row HX.out.box rfl (.tmp 1) rfl rfl Tryz.underlying107 rfl info_rch ?_)
  refine (CF.out _ HX.out.up).mono ?_; rintro e w2 ⟨rfl, hb2⟩
  have HA := Lib.hid (HX.out.next hb2)
  clear hb2
  go_upto_region 3 with fail
  go_cut [3] (fun s3 wx => s3 = .bool qs ∧ Below w2.heap.size w2 wx)
  case first =>
    have c7 := HA.out.box.cW
    by_cases h0 : 0 < M.W.n
    · go_wp2_with (refine lw_row HA.out.box (.tmp 1) rfl rfl Tryz.underlying107 rfl info_rch rfl ?_)
      refine (CO.out _).mono ?_; rintro e w3 ⟨rfl, hb3⟩
      go_wp2_with fail
      go_meet
      exact ⟨by rw [HS.out]; cases qo <;> simp [h0], hb3⟩
    · go_wp2_with fail
      go_meet
      exact ⟨by rw [HS.out]; simp [h0], Below.refl _ _⟩
  case rest =>
    obtain ⟨rfl, hb1⟩ := hcut
    have HB := Lib.hid (HA.out.next hb1)
    clear hb1
    go_upto_region 4 with fail
    go_cut [4] (fun s4 wx => s4 = .bool qg ∧ Below wc.heap.size wc wx)
    case first =>
      have c10 := HB.out.box.cG
      by_cases h0 : 0 < M.G.n
      · go_wp2_with (refine lw_row HB.out.box (.tmp 1) rfl rfl Tryz.underlying107 rfl info_rch rfl ?_)
        refine (CI.out _).mono ?_; rintro e w3 ⟨rfl, hb3⟩
        go_wp2_with fail
        go_meet
        exact ⟨by rw [HG.out]; cases qi <;> simp [h0], hb3⟩
      · go_wp2_with fail
        go_meet
        exact ⟨by rw [HG.out]; simp [h0], Below.refl _ _⟩
    case rest =>
      obtain ⟨rfl, hb2⟩ := hcut
      have HC := Lib.hid (HB.out.next hb2)
      have HZ := Lib.hid HC.out.up
      have c1 := HC.out.box.cr
      have c5 := HC.out.box.cV
      clear hb2 HX HA HB HS HG
      by_cases hr : C.r = 0
      · have hz : (C.r == 0) = true := beq_iff_eq.2 hr
        have hgt : ¬ 0 < C.r := by omega
        have hv : M.V.n = 0 := by have := HR.out; omega
        have hd2 : decide ((M.V.n : Int) < C.r) = false := decide_eq_false (by omega)
        have hd3 : decide (0 < (M.V.n : Int)) = false := decide_eq_false (by omega)
        rw [hz, hd2, hd3] at HE
        clear hr hv hd2 hd3
        cases qs
        · have HE' : Hid (Q = []) := Lib.hid (by rw [HE.out]; rfl)
          go_wp2
          go_ret
          rw [HE'.out]
          exact ⟨none, 0, rfl, Nat.le_refl _, by unfold maxLen; omega, RD.nil _ _ _ _, HZ.out⟩
        cases qg
        · have HE' : Hid (Q = []) := Lib.hid (by rw [HE.out]; rfl)
          go_wp2
          go_ret
          rw [HE'.out]
          exact ⟨none, 0, rfl, Nat.le_refl _, by unfold maxLen; omega, RD.nil _ _ _ _, HZ.out⟩
        · have HE' : Hid (Q = [1]) := Lib.hid (by rw [HE.out]; rfl)
          go_wp2_with (at_builtin; refine wpList_app ei_int rfl (.tmp 39) (.tmp 40) rfl _ _ rfl (World.ownsRow_nil _ wc.heap.size _ _) rfl (RD.one rfl) (by simp [Value.oneCell']) (by omega) (by simp) ?_; intro v4 w4 hown4 hb4; have HO4 := Lib.hid hown4; have HB4 := Lib.hid hb4; have q4 := HC.out.next ((up_alloc wc _).trans hb4); have d41 := q4.box.cr; have d45 := q4.box.cV; clear hown4 hb4 q4)
          go_ret
          rw [HE'.out]
          exact IntsPost.of' (zs := [1]) HO4.out HZ.out.size (HZ.out.trans (((up_alloc wc _).trans HB4.out).mono HZ.out.size))
      have hz : (C.r == 0) = false := beq_eq_false_iff_ne.2 hr
      have hgt : 0 < C.r := by have := HR.out; omega
      rw [hz] at HE
      clear hr HR
      by_cases hv2 : (M.V.n : Int) < C.r
      · have hd2 : decide ((M.V.n : Int) < C.r) = true := decide_eq_true hv2
        rw [hd2] at HE
        clear hd2
        cases qs
        · by_cases hv3 : 0 < M.V.n
          · have hd3 : decide (0 < (M.V.n : Int)) = true := decide_eq_true (by omega)
            rw [hd3] at HE
            clear hd3
            cases qg
            · have HE' : Hid (Q = []) := Lib.hid (by rw [HE.out]; rfl)
              go_wp2
              go_ret
              rw [HE'.out]
              exact ⟨none, 0, rfl, Nat.le_refl _, by unfold maxLen; omega, RD.nil _ _ _ _, HZ.out⟩
            · have HE' : Hid (Q = [3]) := Lib.hid (by rw [HE.out]; rfl)
              go_wp2_with (at_builtin; refine wpList_app ei_int rfl (.tmp 74) (.tmp 75) rfl _ _ rfl (World.ownsRow_nil _ wc.heap.size _ _) rfl (RD.one rfl) (by simp [Value.oneCell']) (by omega) (by simp) ?_; intro v6 w6 hown6 hb6; have HO6 := Lib.hid hown6; have HB6 := Lib.hid hb6; have q6 := HC.out.next ((up_alloc wc _).trans hb6); have d61 := q6.box.cr; have d65 := q6.box.cV; clear hown6 hb6 q6)
              go_ret
              rw [HE'.out]
              exact IntsPost.of' (zs := [3]) HO6.out HZ.out.size (HZ.out.trans (((up_alloc wc _).trans HB6.out).mono HZ.out.size))
          · have hd3 : decide (0 < (M.V.n : Int)) = false := decide_eq_false (by omega)
            rw [hd3] at HE
            clear hd3
            cases qg
            · have HE' : Hid (Q = []) := Lib.hid (by rw [HE.out]; rfl)
              go_wp2
              go_ret
              rw [HE'.out]
              exact ⟨none, 0, rfl, Nat.le_refl _, by unfold maxLen; omega, RD.nil _ _ _ _, HZ.out⟩
            · have HE' : Hid (Q = []) := Lib.hid (by rw [HE.out]; rfl)
              go_wp2
              go_ret
              rw [HE'.out]
              exact ⟨none, 0, rfl, Nat.le_refl _, by unfold maxLen; omega, RD.nil _ _ _ _, HZ.out⟩
        · by_cases hv3 : 0 < M.V.n
          · have hd3 : decide (0 < (M.V.n : Int)) = true := decide_eq_true (by omega)
            rw [hd3] at HE
            clear hd3
            cases qg
            · have HE' : Hid (Q = [2]) := Lib.hid (by rw [HE.out]; rfl)
              go_wp2_with (at_builtin; refine wpList_app ei_int rfl (.tmp 58) (.tmp 59) rfl _ _ rfl (World.ownsRow_nil _ wc.heap.size _ _) rfl (RD.one rfl) (by simp [Value.oneCell']) (by omega) (by simp) ?_; intro v5 w5 hown5 hb5; have HO5 := Lib.hid hown5; have HB5 := Lib.hid hb5; have q5 := HC.out.next ((up_alloc wc _).trans hb5); have d51 := q5.box.cr; have d55 := q5.box.cV; clear hown5 hb5 q5)
              go_ret
              rw [HE'.out]
              exact IntsPost.of' (zs := [2]) HO5.out HZ.out.size (HZ.out.trans (((up_alloc wc _).trans HB5.out).mono HZ.out.size))
            · have HE' : Hid (Q = [2, 3]) := Lib.hid (by rw [HE.out]; rfl)
              go_wp2_with (first | (at_builtin; refine wpList_app ei_int rfl (.tmp 58) (.tmp 59) rfl _ _ rfl (World.ownsRow_nil _ wc.heap.size _ _) rfl (RD.one rfl) (by simp [Value.oneCell']) (by omega) (by simp) ?_; intro v5 w5 hown5 hb5; have HO5 := Lib.hid hown5; have HB5 := Lib.hid hb5; have q5 := HC.out.next ((up_alloc wc _).trans hb5); have d51 := q5.box.cr; have d55 := q5.box.cV; clear hown5 hb5 q5) | (at_builtin; refine wpList_app ei_int rfl (.tmp 74) (.tmp 75) rfl _ _ rfl (own_below HO5.out (up_alloc _ _)) rfl (RD.one rfl) (by simp [Value.oneCell']) (by omega) (by have := HB5.out.size; simp at this; simp; omega) ?_; intro v7 w7 hown7 hb7; have HO7 := Lib.hid hown7; have HB7 := Lib.hid hb7; have q7 := HC.out.next ((((up_alloc wc _).trans HB5.out).trans ((up_alloc w5 _).mono (by have := HB5.out.size; simp at this; omega))).trans hb7); have d71 := q7.box.cr; have d75 := q7.box.cV; clear hown7 hb7 q7))
              go_ret
              rw [HE'.out]
              exact IntsPost.of' (zs := [2, 3]) HO7.out HZ.out.size (HZ.out.trans ((((up_alloc wc _).trans HB5.out).trans (((up_alloc _ _).mono (by have := HB5.out.size; simp at this; omega)).trans HB7.out)).mono HZ.out.size))
          · have hd3 : decide (0 < (M.V.n : Int)) = false := decide_eq_false (by omega)
            rw [hd3] at HE
            clear hd3
            cases qg
            · have HE' : Hid (Q = [2]) := Lib.hid (by rw [HE.out]; rfl)
              go_wp2_with (at_builtin; refine wpList_app ei_int rfl (.tmp 58) (.tmp 59) rfl _ _ rfl (World.ownsRow_nil _ wc.heap.size _ _) rfl (RD.one rfl) (by simp [Value.oneCell']) (by omega) (by simp) ?_; intro v5 w5 hown5 hb5; have HO5 := Lib.hid hown5; have HB5 := Lib.hid hb5; have q5 := HC.out.next ((up_alloc wc _).trans hb5); have d51 := q5.box.cr; have d55 := q5.box.cV; clear hown5 hb5 q5)
              go_ret
              rw [HE'.out]
              exact IntsPost.of' (zs := [2]) HO5.out HZ.out.size (HZ.out.trans (((up_alloc wc _).trans HB5.out).mono HZ.out.size))
            · have HE' : Hid (Q = [2]) := Lib.hid (by rw [HE.out]; rfl)
              go_wp2_with (at_builtin; refine wpList_app ei_int rfl (.tmp 58) (.tmp 59) rfl _ _ rfl (World.ownsRow_nil _ wc.heap.size _ _) rfl (RD.one rfl) (by simp [Value.oneCell']) (by omega) (by simp) ?_; intro v5 w5 hown5 hb5; have HO5 := Lib.hid hown5; have HB5 := Lib.hid hb5; have q5 := HC.out.next ((up_alloc wc _).trans hb5); have d51 := q5.box.cr; have d55 := q5.box.cV; clear hown5 hb5 q5)
              go_ret
              rw [HE'.out]
              exact IntsPost.of' (zs := [2]) HO5.out HZ.out.size (HZ.out.trans (((up_alloc wc _).trans HB5.out).mono HZ.out.size))
      · have hd2 : decide ((M.V.n : Int) < C.r) = false := decide_eq_false hv2
        have hv2' : C.r ≤ (M.V.n : Int) := by omega
        rw [hd2] at HE
        clear hd2
        cases qs
        · by_cases hv3 : 0 < M.V.n
          · have hd3 : decide (0 < (M.V.n : Int)) = true := decide_eq_true (by omega)
            rw [hd3] at HE
            clear hd3
            cases qg
            · have HE' : Hid (Q = []) := Lib.hid (by rw [HE.out]; rfl)
              go_wp2
              go_ret
              rw [HE'.out]
              exact ⟨none, 0, rfl, Nat.le_refl _, by unfold maxLen; omega, RD.nil _ _ _ _, HZ.out⟩
            · have HE' : Hid (Q = [3]) := Lib.hid (by rw [HE.out]; rfl)
              go_wp2_with (at_builtin; refine wpList_app ei_int rfl (.tmp 74) (.tmp 75) rfl _ _ rfl (World.ownsRow_nil _ wc.heap.size _ _) rfl (RD.one rfl) (by simp [Value.oneCell']) (by omega) (by simp) ?_; intro v6 w6 hown6 hb6; have HO6 := Lib.hid hown6; have HB6 := Lib.hid hb6; have q6 := HC.out.next ((up_alloc wc _).trans hb6); have d61 := q6.box.cr; have d65 := q6.box.cV; clear hown6 hb6 q6)
              go_ret
              rw [HE'.out]
              exact IntsPost.of' (zs := [3]) HO6.out HZ.out.size (HZ.out.trans (((up_alloc wc _).trans HB6.out).mono HZ.out.size))
          · exfalso
            omega
        · by_cases hv3 : 0 < M.V.n
          · have hd3 : decide (0 < (M.V.n : Int)) = true := decide_eq_true (by omega)
            rw [hd3] at HE
            clear hd3
            cases qg
            · have HE' : Hid (Q = []) := Lib.hid (by rw [HE.out]; rfl)
              go_wp2
              go_ret
              rw [HE'.out]
              exact ⟨none, 0, rfl, Nat.le_refl _, by unfold maxLen; omega, RD.nil _ _ _ _, HZ.out⟩
            · have HE' : Hid (Q = [3]) := Lib.hid (by rw [HE.out]; rfl)
              go_wp2_with (at_builtin; refine wpList_app ei_int rfl (.tmp 74) (.tmp 75) rfl _ _ rfl (World.ownsRow_nil _ wc.heap.size _ _) rfl (RD.one rfl) (by simp [Value.oneCell']) (by omega) (by simp) ?_; intro v6 w6 hown6 hb6; have HO6 := Lib.hid hown6; have HB6 := Lib.hid hb6; have q6 := HC.out.next ((up_alloc wc _).trans hb6); have d61 := q6.box.cr; have d65 := q6.box.cV; clear hown6 hb6 q6)
              go_ret
              rw [HE'.out]
              exact IntsPost.of' (zs := [3]) HO6.out HZ.out.size (HZ.out.trans (((up_alloc wc _).trans HB6.out).mono HZ.out.size))
          · exfalso
            omega
end Go.Proofs.YtdiiilnebepfdaaGreatDoor
