/- The document's Fine of layer 31. -/
import Derived.Test.YtflpjpdgacjlcaaPsb
import Derived.Test.YtflpjpdgacjlcaaPrf
import Derived.Test.YtflpjpdgacjlcaaP5
namespace Go.Proofs.Ytflpjpdgacjlcaa
open Go.RowKit

theorem all_next' {L : List PR} {k : Nat} {q : PR} (hq : L[k]? = some q) (h0 : (L.take k).all mayP = true) (h : mayP q = true) : (L.take (k + 1)).all mayP = true := by
  rw [List.take_add_one, hq, List.all_append, h0]
  simp [h]
theorem fine_stop {L : List PR} {k : Nat} {q : PR} (hq : L[k]? = some q) (h : mayP q = false) : fineT L = false := by
  cases e : fineT L
  · rfl
  · rw [fineT_all e q (List.mem_of_getElem? hq)] at h
    cases h
theorem fine_end {L : List PR} (hl : L.length = 16) (h : (L.take 16).all mayP = true) : fineT L = true := by
  rw [List.take_of_length_le (by omega)] at h
  unfold fineT
  rw [hl, h]
  rfl
set_option maxRecDepth 100000 in
set_option maxHeartbeats 8000000 in
theorem c_rprfine {w : World} {pl : Nat → Prop} {A : Option Addr} {n c : Nat} {L : List PR} (hR : TW prK w pl A n L) :
    Calls Try.prog 12 #[.slice A n c] w fun e w' => e = .returned (.bool (fineT L)) ∧ Below w.heap.size w w' := by
  have HR := Lib.hid hR
  have hl := hR.len
  by_cases h16 : n = 16
  · have HL : Hid (L.length = 16) := Lib.hid (by omega)
    have H16 := Lib.hid h16
    have hne : ((n : Int) != 16) = false := by simp; omega
    clear hR hl h16
    go_enter Try.func12, Try.ntmps12
    go_wp2
    go_loopw [3] (fun i wr => ∃ k : Nat, k ≤ 16 ∧ i = .int .i64 k ∧ (L.take k).all mayP = true ∧ Below w.heap.size w wr) (fun i _ => 16 - (intOf i).toNat)
    case atStart => exact ⟨0, Nat.zero_le _, rfl, rfl, Below.refl _ _⟩
    case round =>
      obtain ⟨k, hk, rfl, hall, hbw⟩ := hrel
      have HA := Lib.hid hall
      have HB := Lib.hid hbw
      by_cases hlt : k < 16
      · obtain ⟨b, o, q, rfl, hbl, hq, hrg, _⟩ := pr_at (HR.out.below hbw) k (by have := H16.out; omega)
        have HRG := Lib.hid hrg
        have HQ := Lib.hid hq
        have HX0 := Lib.hid (px wr q 66)
        have hk0 : (0 : Int) ≤ k := by omega
        have hk1 : (k : Int) < (n : Int) := by have := H16.out; omega
        clear hbl hq hrg hbw hall
        go_upto_region 7 with (first | (refine lmr (b := b) (q := o + k * 42) (cs := prC q) (.tmp 14) rfl rfl Try.underlying66 rfl (info_r q) rfl ?_ ?_; (· exact HRG.out)) | (refine snr (t := 66) (W := wr) (cs := prC q) (zs := prC (PR.nil 0)) (.tmp 4) (.tmp 15) rfl rfl rfl rfl (info_r q) (by rw [prC_len, prC_len]) (prC_one q) ?_ ?_ ?_; (· rfl); (· rfl)))
        have hX := HX0.out
        generalize hwv : wr.alloc (.cells (prC q).toArray 66) = wv at hX
        have HX := Lib.hid hX
        have d0 := hX.c0
        have d1 := hX.c1
        have d38 := hX.c38
        have d41 := hX.c41
        clear hX hwv HX0
        cases h0 : decide (q.gen < 0)
        rotate_left
        · skip
          have HF : Hid (fineT L = false) := Lib.hid (fine_stop HQ.out (by unfold mayP; simp only [h0]; rfl))
          go_wp2
          go_ret
          exact ⟨ret_bool HF.out.symm, up_trans HB.out HX.out.up⟩
        cases h1 : decide (65535 < q.gen)
        rotate_left
        · skip
          have HF : Hid (fineT L = false) := Lib.hid (fine_stop HQ.out (by unfold mayP; simp only [h0, h1]; rfl))
          go_wp2
          go_ret
          exact ⟨ret_bool HF.out.symm, up_trans HB.out HX.out.up⟩
        obtain ⟨lv, hl⟩ : ∃ x, q.live = x := ⟨_, rfl⟩
        rw [hl] at d1
        cases lv
        · skip
          have CS0 := fun W => c_same0 q hl W
          have HM : Hid (mayP q = emptyP q) := Lib.hid (by unfold mayP; rw [h0, h1, hl]; rfl)
          obtain ⟨r, hr⟩ : ∃ r, emptyP q = r := ⟨_, rfl⟩
          rw [hr] at CS0 HM
          have CS := Lib.hid CS0
          clear CS0 hr
          cases r
          · skip
            have HF : Hid (fineT L = false) := Lib.hid (fine_stop HQ.out (by exact HM.out))
            go_wp2_with (first | (refine ldr (b := wr.heap.size) (t := 66) (cs := prC q) (.tmp 4) rfl rfl Try.underlying66 rfl (info_r q) rfl ?_ ?_; (· exact HX.out.box)) | (refine bdw (T := 66) _ (prC (PR.nil q.gen)).toArray rfl rfl ?_ ?_; (· exact built0_r q.gen)))
            refine (CS.out _).mono ?_; rintro e w3 ⟨rfl, hb3⟩
            have HX3 := Lib.hid (HX.out.next hb3)
            have k1 := HX3.out.c1
            rw [hl] at k1
            clear hb3 d0 d1 d38 d41
            go_wp2
            go_ret
            exact ⟨ret_bool HF.out.symm, up_trans HB.out HX3.out.up⟩
          · skip
            have HN : Hid ((L.take (k + 1)).all mayP = true) := Lib.hid (all_next' HQ.out HA.out (by exact HM.out))
            go_wp2_with (first | (refine ldr (b := wr.heap.size) (t := 66) (cs := prC q) (.tmp 4) rfl rfl Try.underlying66 rfl (info_r q) rfl ?_ ?_; (· exact HX.out.box)) | (refine bdw (T := 66) _ (prC (PR.nil q.gen)).toArray rfl rfl ?_ ?_; (· exact built0_r q.gen)))
            refine (CS.out _).mono ?_; rintro e w3 ⟨rfl, hb3⟩
            have HX3 := Lib.hid (HX.out.next hb3)
            have k1 := HX3.out.c1
            rw [hl] at k1
            clear hb3 d0 d1 d38 d41
            go_wp2
            go_roundw
            case rel => exact ⟨k + 1, by omega, by go_num, HN.out, up_trans HB.out HX3.out.up⟩
            case measure => simp [intOf]; omega
        have HM : Hid (mayP q = liveP q) := Lib.hid (by unfold mayP; rw [h0, h1, hl]; rfl)
        cases l0 : (q.gen == 0)
        rotate_left
        · skip
          have HF : Hid (fineT L = false) := Lib.hid (fine_stop HQ.out (by rw [HM.out]; unfold liveP; rw [show decide (0 < q.gen) = false by have : q.gen = 0 := (by simpa using l0); simp [this]]; try rfl))
          go_wp2
          go_ret
          exact ⟨ret_bool HF.out.symm, up_trans HB.out HX.out.up⟩
        have HG : Hid (decide (0 < q.gen) = true) := Lib.hid (by have e1 : ¬ q.gen < 0 := of_decide_eq_false h0; have e2 : ¬ q.gen = 0 := (by simpa using l0); exact decide_eq_true (by omega))
        cases l1 : decide (q.mode < 0)
        rotate_left
        · skip
          have HF : Hid (fineT L = false) := Lib.hid (fine_stop HQ.out (by rw [HM.out]; unfold liveP; rw [HG.out, show decide (0 ≤ q.mode) = false by have := of_decide_eq_true l1; exact decide_eq_false (by omega)]; try rfl))
          go_wp2
          go_ret
          exact ⟨ret_bool HF.out.symm, up_trans HB.out HX.out.up⟩
        have HG1 : Hid (decide (0 ≤ q.mode) = true) := Lib.hid (by have := of_decide_eq_false l1; exact decide_eq_true (by omega))
        cases l2 : decide (3 < q.mode)
        rotate_left
        · skip
          have HF : Hid (fineT L = false) := Lib.hid (fine_stop HQ.out (by rw [HM.out]; unfold liveP; rw [HG.out, HG1.out, show decide (q.mode ≤ 3) = false by have := of_decide_eq_true l2; exact decide_eq_false (by omega)]; try rfl))
          go_wp2
          go_ret
          exact ⟨ret_bool HF.out.symm, up_trans HB.out HX.out.up⟩
        have HG2 : Hid (decide (q.mode ≤ 3) = true) := Lib.hid (by have := of_decide_eq_false l2; exact decide_eq_true (by omega))
        have CF0 := fun W => c_frfine q.ok W
        obtain ⟨r, hr⟩ : ∃ r, fineF q.frm = r := ⟨_, rfl⟩
        rw [hr] at CF0
        have CF := Lib.hid CF0
        have HR2 := Lib.hid hr
        clear CF0 hr
        cases r
        · skip
          have HF : Hid (fineT L = false) := Lib.hid (fine_stop HQ.out (by rw [HM.out]; unfold liveP; rw [HG.out, HG1.out, HG2.out, HR2.out]; rfl))
          go_wp2_with (refine lmr (b := wr.heap.size) (q := 3) (cs := q.frm.cells) (.tmp 52) rfl rfl Try.underlying63 rfl (info_fr q.ok) rfl ?_ ?_; (· exact HX.out.frm))
          refine (CF.out _).mono ?_; rintro e w3 ⟨rfl, hb3⟩
          have HX3 := Lib.hid (HX.out.next hb3)
          have k38 := HX3.out.c38
          have k41 := HX3.out.c41
          clear hb3 d0 d1 d38 d41
          go_wp2
          go_ret
          exact ⟨ret_bool HF.out.symm, up_trans HB.out HX3.out.up⟩
        have HL : Hid (liveP q = ((q.mode == 1) == decide ((0 : Int) < (q.gn : Int)))) := Lib.hid (by unfold liveP; rw [HG.out, HG1.out, HG2.out, HR2.out]; rfl)
        by_cases hg : q.gn = 0
        · skip
          have z3 : decide ((0 : Int) < (q.gn : Int)) = false := by simp [hg]
          rw [z3] at HL
          have HGN := Lib.hid hg
          rw [hg] at d41
          cases m1 : (q.mode == 1)
          rotate_left
          · skip
            have m2 : (q.mode != 1) = false := by simp only [bne, m1]; rfl
            have HF : Hid (fineT L = false) := Lib.hid (fine_stop HQ.out (by rw [HM.out, HL.out, m1]; rfl))
            go_wp2_with (refine lmr (b := wr.heap.size) (q := 3) (cs := q.frm.cells) (.tmp 52) rfl rfl Try.underlying63 rfl (info_fr q.ok) rfl ?_ ?_; (· exact HX.out.frm))
            refine (CF.out _).mono ?_; rintro e w3 ⟨rfl, hb3⟩
            have HX3 := Lib.hid (HX.out.next hb3)
            have k38 := HX3.out.c38
            have k41 := HX3.out.c41
            rw [HGN.out] at k41
            clear hb3 d0 d1 d38 d41
            go_wp2
            go_ret
            exact ⟨ret_bool HF.out.symm, up_trans HB.out HX3.out.up⟩
          · skip
            have m2 : (q.mode != 1) = true := by simp only [bne, m1]; rfl
            have HN : Hid ((L.take (k + 1)).all mayP = true) := Lib.hid (all_next' HQ.out HA.out (by rw [HM.out, HL.out, m1]; rfl))
            go_wp2_with (refine lmr (b := wr.heap.size) (q := 3) (cs := q.frm.cells) (.tmp 52) rfl rfl Try.underlying63 rfl (info_fr q.ok) rfl ?_ ?_; (· exact HX.out.frm))
            refine (CF.out _).mono ?_; rintro e w3 ⟨rfl, hb3⟩
            have HX3 := Lib.hid (HX.out.next hb3)
            have k38 := HX3.out.c38
            have k41 := HX3.out.c41
            rw [HGN.out] at k41
            clear hb3 d0 d1 d38 d41
            go_wp2
            go_roundw
            case rel => exact ⟨k + 1, by omega, by go_num, HN.out, up_trans HB.out HX3.out.up⟩
            case measure => simp [intOf]; omega
        · skip
          have z1 : ((q.gn : Int) == 0) = false := by simp; omega
          have z2 : (q.gn == 0) = false := by simp [hg]
          have z3 : decide ((0 : Int) < (q.gn : Int)) = true := by simp; omega
          have z4 : decide (0 < q.gn) = true := by simp; omega
          have z5 : 0 < q.gn := by omega
          rw [z3] at HL
          have HGN := Lib.hid True.intro
          cases m1 : (q.mode == 1)
          rotate_left
          · skip
            have m2 : (q.mode != 1) = false := by simp only [bne, m1]; rfl
            have HN : Hid ((L.take (k + 1)).all mayP = true) := Lib.hid (all_next' HQ.out HA.out (by rw [HM.out, HL.out, m1]; rfl))
            go_wp2_with (refine lmr (b := wr.heap.size) (q := 3) (cs := q.frm.cells) (.tmp 52) rfl rfl Try.underlying63 rfl (info_fr q.ok) rfl ?_ ?_; (· exact HX.out.frm))
            refine (CF.out _).mono ?_; rintro e w3 ⟨rfl, hb3⟩
            have HX3 := Lib.hid (HX.out.next hb3)
            have k38 := HX3.out.c38
            have k41 := HX3.out.c41
            clear hb3 d0 d1 d38 d41
            go_wp2
            go_roundw
            case rel => exact ⟨k + 1, by omega, by go_num, HN.out, up_trans HB.out HX3.out.up⟩
            case measure => simp [intOf]; omega
          · skip
            have m2 : (q.mode != 1) = true := by simp only [bne, m1]; rfl
            have HF : Hid (fineT L = false) := Lib.hid (fine_stop HQ.out (by rw [HM.out, HL.out, m1]; rfl))
            go_wp2_with (refine lmr (b := wr.heap.size) (q := 3) (cs := q.frm.cells) (.tmp 52) rfl rfl Try.underlying63 rfl (info_fr q.ok) rfl ?_ ?_; (· exact HX.out.frm))
            refine (CF.out _).mono ?_; rintro e w3 ⟨rfl, hb3⟩
            have HX3 := Lib.hid (HX.out.next hb3)
            have k38 := HX3.out.c38
            have k41 := HX3.out.c41
            clear hb3 d0 d1 d38 d41
            go_wp2
            go_ret
            exact ⟨ret_bool HF.out.symm, up_trans HB.out HX3.out.up⟩
      · obtain rfl : k = 16 := by omega
        have HF : Hid (fineT L = true) := Lib.hid (fine_end HL.out HA.out)
        rw [show ((16 : Nat) : Int) = 16 from rfl]
        clear hall hbw
        go_wp2
        go_ret
        exact ⟨ret_bool HF.out.symm, HB.out⟩
  · have HG : Hid (fineT L = false) := Lib.hid (by unfold fineT; rw [hl, decide_eq_false h16]; rfl)
    have hne : ((n : Int) != 16) = true := by simp; omega
    clear hR hl
    go_enter Try.func12, Try.ntmps12
    go_wp2
    go_ret
    exact ⟨ret_bool HG.out.symm, Below.refl _ _⟩
end Go.Proofs.Ytflpjpdgacjlcaa
