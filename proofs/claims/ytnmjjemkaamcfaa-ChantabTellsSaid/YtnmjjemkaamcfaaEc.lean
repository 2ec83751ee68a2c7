/- The document's Hit and What of layer 18. -/
import Derived.Test.YtnmjjemkaamcfaaEb
import Derived.Test.YtnmjjemkaamcfaaJf
namespace Go.Proofs.Ytnmjjemkaamcfaa
open Go.RowKit

set_option maxRecDepth 100000 in
set_option maxHeartbeats 4000000 in
theorem c_rchit {w : World} {pl : Nat → Prop} {C : CP} {M : SM} (h : ChW w pl C M) (hn : ChFew M) (p : Int) :
    Calls Try.prog 45 #[.agg (chC C M).toArray, .int .i64 p] w fun e w' => e = .returned (.bool (chHit C p)) ∧ Below w.heap.size w w' := by
  have hX := bx1_rch w C M
  generalize hw1 : w.alloc (.cells (chC C M).toArray 78) = w1 at hX
  have HW := Lib.hid hw1
  have HX := Lib.hid hX
  have CF := Lib.hid (fun W (hW : Below w.heap.size w W) => c_rcfine (h.below hW) hn)
  have CA := Lib.hid (fun W (hW : Below w.heap.size w W) => c_mat (c := M.W.c) (h.below hW).w_.rd h.w_.len (by have := hn.w_; omega) p)
  have CB := Lib.hid (fun W (hW : Below w.heap.size w W) => c_mat (c := M.G.c) (h.below hW).g.rd h.g.len (by have := hn.g; omega) p)
  have CO := Lib.hid (fun W => c_rout W C M)
  have CI := Lib.hid (fun W => c_rin W C M)
  have HE := Lib.hid (show chHit C p = (chFine C && ((decide (p ∈ C.W) && chOut C) || (decide (p ∈ C.G) && chIn C))) from rfl)
  generalize chHit C p = q at HE ⊢
  generalize chFine C = qf at CF HE
  generalize chOut C = qo at CO HE
  generalize chIn C = qi at CI HE
  clear h hn hX hw1
  cases qf
  · go_enter Try.func45, Try.ntmps45
    go_upto_region 1 with fail
    rw [HW.out]
    go_wp2_with (refine lw_row HX.out.box (.tmp 2) rfl rfl Try.underlying78 rfl info_rch rfl ?_)
    refine (CF.out _ HX.out.up).mono ?_; rintro e w2 ⟨rfl, hb2⟩
    have HA := Lib.hid (HX.out.next hb2)
    clear hb2
    go_wp2
    go_ret
    exact ⟨ret_bool (by rw [HE.out]; simp), HA.out.up⟩
  by_cases hW : p ∈ C.W
  · rw [decide_eq_true hW] at HE
    rw [ixL_yes hW] at CA
    clear hW
    generalize ixN C.W p = i1 at CA
    cases qo
    · by_cases hG : p ∈ C.G
      · rw [decide_eq_true hG] at HE
        rw [ixL_yes hG] at CB
        clear hG
        generalize ixN C.G p = i2 at CB
        go_enter Try.func45, Try.ntmps45
        go_upto_region 1 with fail
        rw [HW.out]
        go_wp2_with (refine lw_row HX.out.box (.tmp 2) rfl rfl Try.underlying78 rfl info_rch rfl ?_)
        refine (CF.out _ HX.out.up).mono ?_; rintro e w2 ⟨rfl, hb2⟩
        have HA := Lib.hid (HX.out.next hb2)
        clear hb2
        have c7 := HA.out.box.cW
        go_wp2_with fail
        refine (CA.out _ HA.out.up).mono ?_; rintro e w' ⟨rfl, rfl⟩
        clear c7
        go_wp2_with (refine lw_row HA.out.box (.tmp 2) rfl rfl Try.underlying78 rfl info_rch rfl ?_)
        refine (CO.out _).mono ?_; rintro e w3 ⟨rfl, hb3⟩
        have HB1 := Lib.hid (HA.out.next hb3)
        clear hb3
        have c10 := HB1.out.box.cG
        go_wp2_with fail
        refine (CB.out _ HB1.out.up).mono ?_; rintro e w' ⟨rfl, rfl⟩
        clear c10
        go_wp2_with (refine lw_row HB1.out.box (.tmp 2) rfl rfl Try.underlying78 rfl info_rch rfl ?_)
        refine (CI.out _).mono ?_; rintro e w4 ⟨rfl, hb4⟩
        have HB2 := Lib.hid (HB1.out.next hb4)
        clear hb4
        go_wp2
        go_ret
        exact ⟨ret_bool (by rw [HE.out]; simp), HB2.out.up⟩
      · rw [decide_eq_false hG] at HE
        rw [ixL_no hG] at CB
        clear hG
        go_enter Try.func45, Try.ntmps45
        go_upto_region 1 with fail
        rw [HW.out]
        go_wp2_with (refine lw_row HX.out.box (.tmp 2) rfl rfl Try.underlying78 rfl info_rch rfl ?_)
        refine (CF.out _ HX.out.up).mono ?_; rintro e w2 ⟨rfl, hb2⟩
        have HA := Lib.hid (HX.out.next hb2)
        clear hb2
        have c7 := HA.out.box.cW
        go_wp2_with fail
        refine (CA.out _ HA.out.up).mono ?_; rintro e w' ⟨rfl, rfl⟩
        clear c7
        go_wp2_with (refine lw_row HA.out.box (.tmp 2) rfl rfl Try.underlying78 rfl info_rch rfl ?_)
        refine (CO.out _).mono ?_; rintro e w3 ⟨rfl, hb3⟩
        have HB1 := Lib.hid (HA.out.next hb3)
        clear hb3
        have c10 := HB1.out.box.cG
        go_wp2_with fail
        refine (CB.out _ HB1.out.up).mono ?_; rintro e w' ⟨rfl, rfl⟩
        clear c10
        go_wp2
        go_ret
        exact ⟨ret_bool (by rw [HE.out]; simp), HB1.out.up⟩
    · go_enter Try.func45, Try.ntmps45
      go_upto_region 1 with fail
      rw [HW.out]
      go_wp2_with (refine lw_row HX.out.box (.tmp 2) rfl rfl Try.underlying78 rfl info_rch rfl ?_)
      refine (CF.out _ HX.out.up).mono ?_; rintro e w2 ⟨rfl, hb2⟩
      have HA := Lib.hid (HX.out.next hb2)
      clear hb2
      have c7 := HA.out.box.cW
      go_wp2_with fail
      refine (CA.out _ HA.out.up).mono ?_; rintro e w' ⟨rfl, rfl⟩
      clear c7
      go_wp2_with (refine lw_row HA.out.box (.tmp 2) rfl rfl Try.underlying78 rfl info_rch rfl ?_)
      refine (CO.out _).mono ?_; rintro e w3 ⟨rfl, hb3⟩
      have HB1 := Lib.hid (HA.out.next hb3)
      clear hb3
      go_wp2
      go_ret
      exact ⟨ret_bool (by rw [HE.out]; simp), HB1.out.up⟩
  · rw [decide_eq_false hW] at HE
    rw [ixL_no hW] at CA
    clear hW
    by_cases hG : p ∈ C.G
    · rw [decide_eq_true hG] at HE
      rw [ixL_yes hG] at CB
      clear hG
      generalize ixN C.G p = i2 at CB
      go_enter Try.func45, Try.ntmps45
      go_upto_region 1 with fail
      rw [HW.out]
      go_wp2_with (refine lw_row HX.out.box (.tmp 2) rfl rfl Try.underlying78 rfl info_rch rfl ?_)
      refine (CF.out _ HX.out.up).mono ?_; rintro e w2 ⟨rfl, hb2⟩
      have HA := Lib.hid (HX.out.next hb2)
      clear hb2
      have c7 := HA.out.box.cW
      go_wp2_with fail
      refine (CA.out _ HA.out.up).mono ?_; rintro e w' ⟨rfl, rfl⟩
      clear c7
      have c10 := HA.out.box.cG
      go_wp2_with fail
      refine (CB.out _ HA.out.up).mono ?_; rintro e w' ⟨rfl, rfl⟩
      clear c10
      go_wp2_with (refine lw_row HA.out.box (.tmp 2) rfl rfl Try.underlying78 rfl info_rch rfl ?_)
      refine (CI.out _).mono ?_; rintro e w3 ⟨rfl, hb3⟩
      have HB1 := Lib.hid (HA.out.next hb3)
      clear hb3
      go_wp2
      go_ret
      exact ⟨ret_bool (by rw [HE.out]; simp), HB1.out.up⟩
    · rw [decide_eq_false hG] at HE
      rw [ixL_no hG] at CB
      clear hG
      go_enter Try.func45, Try.ntmps45
      go_upto_region 1 with fail
      rw [HW.out]
      go_wp2_with (refine lw_row HX.out.box (.tmp 2) rfl rfl Try.underlying78 rfl info_rch rfl ?_)
      refine (CF.out _ HX.out.up).mono ?_; rintro e w2 ⟨rfl, hb2⟩
      have HA := Lib.hid (HX.out.next hb2)
      clear hb2
      have c7 := HA.out.box.cW
      go_wp2_with fail
      refine (CA.out _ HA.out.up).mono ?_; rintro e w' ⟨rfl, rfl⟩
      clear c7
      have c10 := HA.out.box.cG
      go_wp2_with fail
      refine (CB.out _ HA.out.up).mono ?_; rintro e w' ⟨rfl, rfl⟩
      clear c10
      go_wp2
      go_ret
      exact ⟨ret_bool (by rw [HE.out]; simp), HA.out.up⟩

set_option maxRecDepth 100000 in
set_option maxHeartbeats 8000000 in
theorem c_rcwhat {w : World} {pl : Nat → Prop} {C : CP} {M : SM} (h : ChW w pl C M) (hn : ChFew M) :
    Calls Try.prog 43 #[.agg (chC C M).toArray] w (IntsPost w (chWhat C)) := by
  have hX := bx1_rch w C M
  generalize hw1 : w.alloc (.cells (chC C M).toArray 78) = w1 at hX
  have HW := Lib.hid hw1
  have HX := Lib.hid hX
  have CF := Lib.hid (fun W (hW : Below w.heap.size w W) => c_rcfine (h.below hW) hn)
  have CO := Lib.hid (fun W => c_rout W C M)
  have CI := Lib.hid (fun W => c_rin W C M)
  have HLV := Lib.hid h.v.len
  have HLW := Lib.hid h.w_.len
  have HLG := Lib.hid h.g.len
  clear h hn hX hw1
  cases hf : chFine C
  · have HE : Hid (chWhat C = []) := Lib.hid (by unfold chWhat; rw [if_neg (by rw [hf]; decide)])
    rw [hf] at CF
    rw [HE.out]
    clear hf HE
    go_enter Try.func43, Try.ntmps43
    go_upto_region 1 with fail
    rw [HW.out]
    go_wp2_with (refine ld_row HX.out.box rfl (.tmp 1) rfl rfl Try.underlying78 rfl info_rch ?_)
    refine (CF.out _ HX.out.up).mono ?_; rintro e w2 ⟨rfl, hb2⟩
    have HU := Lib.hid (up_trans HX.out.up hb2)
    clear hb2
    go_wp2
    go_ret
    exact ⟨none, 0, rfl, Nat.le_refl _, by unfold maxLen; omega, RD.nil _ _ _ _, HU.out⟩
  have HK := Lib.hid (chOk hf)
  have HE : Hid (chWhat C = (if chMay C 1 then [1] else []) ++ ((if chMay C 2 then [2] else []) ++ (if chMay C 3 then [3] else []))) := Lib.hid (by unfold chWhat; rw [if_pos hf])
  have H1 : Hid (chMay C 1 = ((C.r == 0) && (chSends C && chGets C))) := Lib.hid rfl
  have H2 : Hid (chMay C 2 = (decide ((M.V.n : Int) < C.r) && chSends C)) := Lib.hid (by rw [← HLV.out]; rfl)
  have H3 : Hid (chMay C 3 = (decide (0 < (M.V.n : Int)) && chGets C)) := Lib.hid (by rw [← HLV.out]; rfl)
  have HS : Hid (chSends C = (decide (0 < (M.W.n : Int)) && !chOut C)) := Lib.hid (by rw [← HLW.out]; rfl)
  have HG : Hid (chGets C = (decide (0 < (M.G.n : Int)) && !chIn C)) := Lib.hid (by rw [← HLG.out]; rfl)
  have HR : Hid (0 ≤ C.r ∧ (M.V.n : Int) ≤ C.r) := Lib.hid ⟨(ccE_ok HK.out.e).2.1.1, by rw [← HLV.out]; exact HK.out.room⟩
  rw [H1.out, H2.out, H3.out] at HE
  rw [hf] at CF
  generalize chWhat C = Q at HE ⊢
  generalize chSends C = qs at HE HS
  generalize chGets C = qg at HE HG
  generalize chOut C = qo at CO HS
  generalize chIn C = qi at CI HG
  clear hf H1 H2 H3 HK
  go_enter Try.func43, Try.ntmps43
  go_upto_region 1 with fail
  rw [HW.out]
  go_wp2_with (refine ld_row HX.out.box rfl (.tmp 1) rfl rfl Try.underlying78 rfl info_rch ?_)
  refine (CF.out _ HX.out.up).mono ?_; rintro e w2 ⟨rfl, hb2⟩
  have HA := Lib.hid (HX.out.next hb2)
  clear hb2
  go_upto_region 3 with fail
  go_cut [3] (fun s3 wx => s3 = .bool qs ∧ Below w2.heap.size w2 wx)
  case first =>
    have c7 := HA.out.box.cW
    by_cases h0 : 0 < M.W.n
    · go_wp2_with (refine lw_row HA.out.box (.tmp 1) rfl rfl Try.underlying78 rfl info_rch rfl ?_)
      refine (CO.out _).mono ?_; rintro e w3 ⟨rfl, hb3⟩
      go_wp2_with fail
      go_meet
      exact ⟨by rw [HS.out]; cases qo <;> simp [h0], hb3⟩
    · go_wp2_with fail
      go_meet
      exact ⟨by rw [HS.out]; simp [h0], Below.refl _ _⟩
  case rest =>
    obtain ⟨rfl, hb1⟩ := hcut
    have HB := Lib.hid (HA.out.next hb1)
    clear hb1
    go_upto_region 4 with fail
    go_cut [4] (fun s4 wx => s4 = .bool qg ∧ Below wc.heap.size wc wx)
    case first =>
      have c10 := HB.out.box.cG
      by_cases h0 : 0 < M.G.n
      · go_wp2_with (refine lw_row HB.out.box (.tmp 1) rfl rfl Try.underlying78 rfl info_rch rfl ?_)
        refine (CI.out _).mono ?_; rintro e w3 ⟨rfl, hb3⟩
        go_wp2_with fail
        go_meet
        exact ⟨by rw [HG.out]; cases qi <;> simp [h0], hb3⟩
      · go_wp2_with fail
        go_meet
        exact ⟨by rw [HG.out]; simp [h0], Below.refl _ _⟩
    case rest =>
      obtain ⟨rfl, hb2⟩ := hcut
      have HC := Lib.hid (HB.out.next hb2)
      have HZ := Lib.hid HC.out.up
      have c1 := HC.out.box.cr
      have c5 := HC.out.box.cV
      clear hb2 HX HA HB HS HG
      by_cases hr : C.r = 0
      · have hz : (C.r == 0) = true := beq_iff_eq.2 hr
        have hgt : ¬ 0 < C.r := by omega
        have hv : M.V.n = 0 := by have := HR.out; omega
        have hd2 : decide ((M.V.n : Int) < C.r) = false := decide_eq_false (by omega)
        have hd3 : decide (0 < (M.V.n : Int)) = false := decide_eq_false (by omega)
        rw [hz, hd2, hd3] at HE
        clear hr hv hd2 hd3
        cases qs
        · have HE' : Hid (Q = []) := Lib.hid (by rw [HE.out]; rfl)
          go_wp2
          go_ret
          rw [HE'.out]
          exact ⟨none, 0, rfl, Nat.le_refl _, by unfold maxLen; omega, RD.nil _ _ _ _, HZ.out⟩
        cases qg
        · have HE' : Hid (Q = []) := Lib.hid (by rw [HE.out]; rfl)
          go_wp2
          go_ret
          rw [HE'.out]
          exact ⟨none, 0, rfl, Nat.le_refl _, by unfold maxLen; omega, RD.nil _ _ _ _, HZ.out⟩
        · have HE' : Hid (Q = [1]) := Lib.hid (by rw [HE.out]; rfl)
          go_wp2_with (at_builtin; refine wpList_app ei_int rfl (.tmp 39) (.tmp 40) rfl _ _ rfl (World.ownsRow_nil _ wc.heap.size _ _) rfl (RD.one rfl) (by simp [Value.oneCell']) (by omega) (by simp) ?_; intro v4 w4 hown4 hb4; have HO4 := Lib.hid hown4; have HB4 := Lib.hid hb4; have q4 := HC.out.next ((up_alloc wc _).trans hb4); have d41 := q4.box.cr; have d45 := q4.box.cV; clear hown4 hb4 q4)
          go_ret
          rw [HE'.out]
          exact IntsPost.of' (zs := [1]) HO4.out HZ.out.size (HZ.out.trans (((up_alloc wc _).trans HB4.out).mono HZ.out.size))
      have hz : (C.r == 0) = false := beq_eq_false_iff_ne.2 hr
      have hgt : 0 < C.r := by have := HR.out; omega
      rw [hz] at HE
      clear hr HR
      by_cases hv2 : (M.V.n : Int) < C.r
      · have hd2 : decide ((M.V.n : Int) < C.r) = true := decide_eq_true hv2
        rw [hd2] at HE
        clear hd2
        cases qs
        · by_cases hv3 : 0 < M.V.n
          · have hd3 : decide (0 < (M.V.n : Int)) = true := decide_eq_true (by omega)
            rw [hd3] at HE
            clear hd3
            cases qg
            · have HE' : Hid (Q = []) := Lib.hid (by rw [HE.out]; rfl)
              go_wp2
              go_ret
              rw [HE'.out]
              exact ⟨none, 0, rfl, Nat.le_refl _, by unfold maxLen; omega, RD.nil _ _ _ _, HZ.out⟩
            · have HE' : Hid (Q = [3]) := Lib.hid (by rw [HE.out]; rfl)
              go_wp2_with (at_builtin; refine wpList_app ei_int rfl (.tmp 74) (.tmp 75) rfl _ _ rfl (World.ownsRow_nil _ wc.heap.size _ _) rfl (RD.one rfl) (by simp [Value.oneCell']) (by omega) (by simp) ?_; intro v6 w6 hown6 hb6; have HO6 := Lib.hid hown6; have HB6 := Lib.hid hb6; have q6 := HC.out.next ((up_alloc wc _).trans hb6); have d61 := q6.box.cr; have d65 := q6.box.cV; clear hown6 hb6 q6)
              go_ret
              rw [HE'.out]
              exact IntsPost.of' (zs := [3]) HO6.out HZ.out.size (HZ.out.trans (((up_alloc wc _).trans HB6.out).mono HZ.out.size))
          · have hd3 : decide (0 < (M.V.n : Int)) = false := decide_eq_false (by omega)
            rw [hd3] at HE
            clear hd3
            cases qg
            · have HE' : Hid (Q = []) := Lib.hid (by rw [HE.out]; rfl)
              go_wp2
              go_ret
              rw [HE'.out]
              exact ⟨none, 0, rfl, Nat.le_refl _, by unfold maxLen; omega, RD.nil _ _ _ _, HZ.out⟩
            · have HE' : Hid (Q = []) := Lib.hid (by rw [HE.out]; rfl)
              go_wp2
              go_ret
              rw [HE'.out]
              exact ⟨none, 0, rfl, Nat.le_refl _, by unfold maxLen; omega, RD.nil _ _ _ _, HZ.out⟩
        · by_cases hv3 : 0 < M.V.n
          · have hd3 : decide (0 < (M.V.n : Int)) = true := decide_eq_true (by omega)
            rw [hd3] at HE
            clear hd3
            cases qg
            · have HE' : Hid (Q = [2]) := Lib.hid (by rw [HE.out]; rfl)
              go_wp2_with (at_builtin; refine wpList_app ei_int rfl (.tmp 58) (.tmp 59) rfl _ _ rfl (World.ownsRow_nil _ wc.heap.size _ _) rfl (RD.one rfl) (by simp [Value.oneCell']) (by omega) (by simp) ?_; intro v5 w5 hown5 hb5; have HO5 := Lib.hid hown5; have HB5 := Lib.hid hb5; have q5 := HC.out.next ((up_alloc wc _).trans hb5); have d51 := q5.box.cr; have d55 := q5.box.cV; clear hown5 hb5 q5)
              go_ret
              rw [HE'.out]
              exact IntsPost.of' (zs := [2]) HO5.out HZ.out.size (HZ.out.trans (((up_alloc wc _).trans HB5.out).mono HZ.out.size))
            · have HE' : Hid (Q = [2, 3]) := Lib.hid (by rw [HE.out]; rfl)
              go_wp2_with (first | (at_builtin; refine wpList_app ei_int rfl (.tmp 58) (.tmp 59) rfl _ _ rfl (World.ownsRow_nil _ wc.heap.size _ _) rfl (RD.one rfl) (by simp [Value.oneCell']) (by omega) (by simp) ?_; intro v5 w5 hown5 hb5; have HO5 := Lib.hid hown5; have HB5 := Lib.hid hb5; have q5 := HC.out.next ((up_alloc wc _).trans hb5); have d51 := q5.box.cr; have d55 := q5.box.cV; clear hown5 hb5 q5) | (at_builtin; refine wpList_app ei_int rfl (.tmp 74) (.tmp 75) rfl _ _ rfl (own_below HO5.out (up_alloc _ _)) rfl (RD.one rfl) (by simp [Value.oneCell']) (by omega) (by have := HB5.out.size; simp at this; simp; omega) ?_; intro v7 w7 hown7 hb7; have HO7 := Lib.hid hown7; have HB7 := Lib.hid hb7; have q7 := HC.out.next ((((up_alloc wc _).trans HB5.out).trans ((up_alloc w5 _).mono (by have := HB5.out.size; simp at this; omega))).trans hb7); have d71 := q7.box.cr; have d75 := q7.box.cV; clear hown7 hb7 q7))
              go_ret
              rw [HE'.out]
              exact IntsPost.of' (zs := [2, 3]) HO7.out HZ.out.size (HZ.out.trans ((((up_alloc wc _).trans HB5.out).trans (((up_alloc _ _).mono (by have := HB5.out.size; simp at this; omega)).trans HB7.out)).mono HZ.out.size))
          · have hd3 : decide (0 < (M.V.n : Int)) = false := decide_eq_false (by omega)
            rw [hd3] at HE
            clear hd3
            cases qg
            · have HE' : Hid (Q = [2]) := Lib.hid (by rw [HE.out]; rfl)
              go_wp2_with (at_builtin; refine wpList_app ei_int rfl (.tmp 58) (.tmp 59) rfl _ _ rfl (World.ownsRow_nil _ wc.heap.size _ _) rfl (RD.one rfl) (by simp [Value.oneCell']) (by omega) (by simp) ?_; intro v5 w5 hown5 hb5; have HO5 := Lib.hid hown5; have HB5 := Lib.hid hb5; have q5 := HC.out.next ((up_alloc wc _).trans hb5); have d51 := q5.box.cr; have d55 := q5.box.cV; clear hown5 hb5 q5)
              go_ret
              rw [HE'.out]
              exact IntsPost.of' (zs := [2]) HO5.out HZ.out.size (HZ.out.trans (((up_alloc wc _).trans HB5.out).mono HZ.out.size))
            · have HE' : Hid (Q = [2]) := Lib.hid (by rw [HE.out]; rfl)
              go_wp2_with (at_builtin; refine wpList_app ei_int rfl (.tmp 58) (.tmp 59) rfl _ _ rfl (World.ownsRow_nil _ wc.heap.size _ _) rfl (RD.one rfl) (by simp [Value.oneCell']) (by omega) (by simp) ?_; intro v5 w5 hown5 hb5; have HO5 := Lib.hid hown5; have HB5 := Lib.hid hb5; have q5 := HC.out.next ((up_alloc wc _).trans hb5); have d51 := q5.box.cr; have d55 := q5.box.cV; clear hown5 hb5 q5)
              go_ret
              rw [HE'.out]
              exact IntsPost.of' (zs := [2]) HO5.out HZ.out.size (HZ.out.trans (((up_alloc wc _).trans HB5.out).mono HZ.out.size))
      · have hd2 : decide ((M.V.n : Int) < C.r) = false := decide_eq_false hv2
        have hv2' : C.r ≤ (M.V.n : Int) := by omega
        rw [hd2] at HE
        clear hd2
        cases qs
        · by_cases hv3 : 0 < M.V.n
          · have hd3 : decide (0 < (M.V.n : Int)) = true := decide_eq_true (by omega)
            rw [hd3] at HE
            clear hd3
            cases qg
            · have HE' : Hid (Q = []) := Lib.hid (by rw [HE.out]; rfl)
              go_wp2
              go_ret
              rw [HE'.out]
              exact ⟨none, 0, rfl, Nat.le_refl _, by unfold maxLen; omega, RD.nil _ _ _ _, HZ.out⟩
            · have HE' : Hid (Q = [3]) := Lib.hid (by rw [HE.out]; rfl)
              go_wp2_with (at_builtin; refine wpList_app ei_int rfl (.tmp 74) (.tmp 75) rfl _ _ rfl (World.ownsRow_nil _ wc.heap.size _ _) rfl (RD.one rfl) (by simp [Value.oneCell']) (by omega) (by simp) ?_; intro v6 w6 hown6 hb6; have HO6 := Lib.hid hown6; have HB6 := Lib.hid hb6; have q6 := HC.out.next ((up_alloc wc _).trans hb6); have d61 := q6.box.cr; have d65 := q6.box.cV; clear hown6 hb6 q6)
              go_ret
              rw [HE'.out]
              exact IntsPost.of' (zs := [3]) HO6.out HZ.out.size (HZ.out.trans (((up_alloc wc _).trans HB6.out).mono HZ.out.size))
          · exfalso
            omega
        · by_cases hv3 : 0 < M.V.n
          · have hd3 : decide (0 < (M.V.n : Int)) = true := decide_eq_true (by omega)
            rw [hd3] at HE
            clear hd3
            cases qg
            · have HE' : Hid (Q = []) := Lib.hid (by rw [HE.out]; rfl)
              go_wp2
              go_ret
              rw [HE'.out]
              exact ⟨none, 0, rfl, Nat.le_refl _, by unfold maxLen; omega, RD.nil _ _ _ _, HZ.out⟩
            · have HE' : Hid (Q = [3]) := Lib.hid (by rw [HE.out]; rfl)
              go_wp2_with (at_builtin; refine wpList_app ei_int rfl (.tmp 74) (.tmp 75) rfl _ _ rfl (World.ownsRow_nil _ wc.heap.size _ _) rfl (RD.one rfl) (by simp [Value.oneCell']) (by omega) (by simp) ?_; intro v6 w6 hown6 hb6; have HO6 := Lib.hid hown6; have HB6 := Lib.hid hb6; have q6 := HC.out.next ((up_alloc wc _).trans hb6); have d61 := q6.box.cr; have d65 := q6.box.cV; clear hown6 hb6 q6)
              go_ret
              rw [HE'.out]
              exact IntsPost.of' (zs := [3]) HO6.out HZ.out.size (HZ.out.trans (((up_alloc wc _).trans HB6.out).mono HZ.out.size))
          · exfalso
            omega
end Go.Proofs.Ytnmjjemkaamcfaa
