/- Package channel: hitOut, hitIn, may. -/
import Derived.Test.YtnmjjemkaamcfaaJd
import Derived.Deep.DeepCutAuto
namespace Go.Proofs.Ytnmjjemkaamcfaa
open Go.RowKit

theorem c_chout (w : World) (C : CP) (M : SM) : Calls Try.prog 67 #[.agg (chC C M).toArray] w fun e w' => e = .returned (.bool (chOut C)) ∧ Below w.heap.size w w' := by
  have hX := bx1_ch w C M
  generalize hw1 : w.alloc (.cells (chC C M).toArray 73) = w1 at hX
  have HW := Lib.hid hw1
  have HU := Lib.hid hX.up
  have CH := Lib.hid (fun W => c_pzhit C.lv C.o W)
  have HE := Lib.hid (show chOut C = pzHit C.lv C.o from rfl)
  rw [← HE.out] at CH
  generalize chOut C = q at CH ⊢
  have c3 := hX.box.co
  have c4 := hX.box.clv
  clear hw1 hX HE
  go_enter Try.func67, Try.ntmps67
  go_upto_region 1 with fail
  rw [HW.out]
  go_wp2_with fail
  refine (CH.out _).mono ?_; rintro e w' ⟨rfl, rfl⟩
  go_wp2
  go_ret
  exact ⟨rfl, HU.out⟩
theorem c_chin (w : World) (C : CP) (M : SM) : Calls Try.prog 68 #[.agg (chC C M).toArray] w fun e w' => e = .returned (.bool (chIn C)) ∧ Below w.heap.size w w' := by
  have hX := bx1_ch w C M
  generalize hw1 : w.alloc (.cells (chC C M).toArray 73) = w1 at hX
  have HW := Lib.hid hw1
  have HU := Lib.hid hX.up
  have CH := Lib.hid (fun W => c_pzhit C.lv C.i W)
  have HE := Lib.hid (show chIn C = pzHit C.lv C.i from rfl)
  rw [← HE.out] at CH
  generalize chIn C = q at CH ⊢
  have c2 := hX.box.ci
  have c4 := hX.box.clv
  clear hw1 hX HE
  go_enter Try.func68, Try.ntmps68
  go_upto_region 1 with fail
  rw [HW.out]
  go_wp2_with fail
  refine (CH.out _).mono ?_; rintro e w' ⟨rfl, rfl⟩
  go_wp2
  go_ret
  exact ⟨rfl, HU.out⟩

set_option maxHeartbeats 4000000 in
theorem c_chmay {w : World} {pl : Nat → Prop} {C : CP} {M : SM} (h : ChW w pl C M) (m : Int) :
    Calls Try.prog 56 #[.agg (chC C M).toArray, .int .i64 m] w fun e w' => e = .returned (.bool (chMay C m)) ∧ Below w.heap.size w w' := by
  have hX := bx1_ch w C M
  generalize hw1 : w.alloc (.cells (chC C M).toArray 73) = w1 at hX
  have HW := Lib.hid hw1
  have HX := Lib.hid hX
  have CO := Lib.hid (fun W => c_chout W C M)
  have CI := Lib.hid (fun W => c_chin W C M)
  have HE := Lib.hid (show chMay C m = if m = 1 then (C.r == 0) && (chSends C && chGets C) else if m = 2 then decide ((C.V.length : Int) < C.r) && chSends C else if m = 3 then decide (0 < (C.V.length : Int)) && chGets C else false from rfl)
  have HS := Lib.hid (show chSends C = (decide (0 < (C.W.length : Int)) && !chOut C) from rfl)
  have HG := Lib.hid (show chGets C = (decide (0 < (C.G.length : Int)) && !chIn C) from rfl)
  rw [h.v.len] at HE
  rw [h.w_.len] at HS
  rw [h.g.len] at HG
  generalize chMay C m = q at HE ⊢
  generalize chSends C = qs at HE HS
  generalize chGets C = qg at HE HG
  generalize chOut C = qo at CO HS
  generalize chIn C = qi at CI HG
  clear h hX hw1
  go_enter Try.func56, Try.ntmps56
  go_upto_region 1 with fail
  rw [HW.out]
  go_cut [5] (fun s5 wx => s5 = .bool qs ∧ Below w1.heap.size w1 wx)
  case first =>
    have c7 := HX.out.box.cW
    by_cases h0 : 0 < M.W.n
    · go_wp2_with ((refine lw_row HX.out.box (.tmp 2) rfl rfl Try.underlying73 rfl info_ch rfl ?_))
      refine (CO.out _).mono ?_; rintro e w2 ⟨rfl, hb2⟩
      go_wp2_with fail
      go_meet
      exact ⟨by rw [HS.out]; cases qo <;> simp [h0], hb2⟩
    · go_wp2_with fail
      go_meet
      exact ⟨by rw [HS.out]; simp [h0], Below.refl _ _⟩
  case rest =>
    obtain ⟨rfl, hb1⟩ := hcut
    have HA := Lib.hid (HX.out.next hb1)
    clear hb1
    go_upto_region 2 with fail
    go_cut [6] (fun s6 wx => s6 = .bool qg ∧ Below wc.heap.size wc wx)
    case first =>
      have c10 := HA.out.box.cG
      by_cases h0 : 0 < M.G.n
      · go_wp2_with (refine lw_row HA.out.box (.tmp 2) rfl rfl Try.underlying73 rfl info_ch rfl ?_)
        refine (CI.out _).mono ?_; rintro e w2 ⟨rfl, hb2⟩
        go_wp2_with fail
        go_meet
        exact ⟨by rw [HG.out]; cases qi <;> simp [h0], hb2⟩
      · go_wp2_with fail
        go_meet
        exact ⟨by rw [HG.out]; simp [h0], Below.refl _ _⟩
    case rest =>
      obtain ⟨rfl, hb2⟩ := hcut
      have HB := Lib.hid (HA.out.next hb2)
      have c1 := HB.out.box.cr
      have c5 := HB.out.box.cV
      clear hb2
      have HU := Lib.hid HB.out.up
      clear HX HA HB
      by_cases h1 : m = 1
      · subst h1
        have HQ : Hid (q = ((C.r == 0) && (qs && qg))) := Lib.hid (by rw [HE.out]; rfl)
        obtain ⟨z, hz⟩ : ∃ z, (C.r == 0) = z := ⟨_, rfl⟩
        rw [hz] at HQ
        cases z
        · go_wp2
          go_ret
          exact ⟨ret_bool HQ.out.symm, HU.out⟩
        · cases qs
          all_goals
            go_wp2
            go_ret
            exact ⟨ret_bool HQ.out.symm, HU.out⟩
      have h1' : (m == 1) = false := beq_eq_false_iff_ne.2 h1
      by_cases h2 : m = 2
      · subst h2
        have HQ : Hid (q = (decide ((M.V.n : Int) < C.r) && qs)) := Lib.hid (by rw [HE.out]; rfl)
        by_cases hv : (M.V.n : Int) < C.r
        · have HD : Hid (decide ((M.V.n : Int) < C.r) = true) := Lib.hid (decide_eq_true hv)
          go_wp2
          go_ret
          exact ⟨ret_bool (by rw [HQ.out, HD.out]; rfl), HU.out⟩
        · have HD : Hid (decide ((M.V.n : Int) < C.r) = false) := Lib.hid (decide_eq_false hv)
          go_wp2
          go_ret
          exact ⟨ret_bool (by rw [HQ.out, HD.out]; rfl), HU.out⟩
      have h2' : (m == 2) = false := beq_eq_false_iff_ne.2 h2
      by_cases h3 : m = 3
      · subst h3
        have HQ : Hid (q = (decide (0 < (M.V.n : Int)) && qg)) := Lib.hid (by rw [HE.out]; rfl)
        by_cases hv : 0 < M.V.n
        · have HD : Hid (decide (0 < (M.V.n : Int)) = true) := Lib.hid (decide_eq_true (by omega))
          go_wp2
          go_ret
          exact ⟨ret_bool (by rw [HQ.out, HD.out]; rfl), HU.out⟩
        · have HD : Hid (decide (0 < (M.V.n : Int)) = false) := Lib.hid (decide_eq_false (by omega))
          go_wp2
          go_ret
          exact ⟨ret_bool (by rw [HQ.out, HD.out]; rfl), HU.out⟩
      have h3' : (m == 3) = false := beq_eq_false_iff_ne.2 h3
      have HQ : Hid (q = false) := Lib.hid (by rw [HE.out, if_neg h1, if_neg h2, if_neg h3])
      go_wp2
      go_ret
      exact ⟨ret_bool HQ.out.symm, HU.out⟩
end Go.Proofs.Ytnmjjemkaamcfaa
